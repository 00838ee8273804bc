import Derived.Test.YtokgegbodbnimaaPqF
namespace Go.Proofs.Ytokgegbodbnimaa
open Go.RowKit Go.Maps Go.Sort

set_option maxRecDepth 100000 in
theorem Dead_any {O : Nat → Prop} {B : Nat} {M : Mm} {m0 m1 : Cn} {K : Nat} {W : World} (h : Sto O B M m0 m1 K W) :
    Calls Try.prog 31 #[.pointer (some ⟨B, 0, none⟩)] W fun v W' => v = .returned (.bool false) ∧ W' = W := by
  have c8 := h.cells 8 (.bool false) rfl
  clear h
  go_enter Try.func31, Try.ntmps31
  go_wp2_with fail
  go_ret
  exact ⟨rfl, rfl⟩
/-- WHAT OPERATIONS MAKE OF FILES. -/
noncomputable def foldC (pe : List Ope) (m : Cn) : Cn := pe.foldl (fun m o => o.cn m) m
theorem foldC_snoc (pe : List Ope) (o : Ope) (m : Cn) : foldC (pe ++ [o]) m = o.cn (foldC pe m) := by simp [foldC]
theorem does_fold {s : Pst} {r : Int} {o : Ope} (h : s.m0 = foldC s.pe s.m1) : (s.does r o).m0 = foldC (s.does r o).pe (s.does r o).m1 := by
  unfold Pst.does
  split
  · show o.cn s.m0 = foldC (s.pe ++ [o]) s.m1
    rw [foldC_snoc, ← h]
  · exact h
theorem runs_fold (sc : List Sp) : ∀ i, (runs sc i).m0 = foldC (runs sc i).pe (runs sc i).m1
  | 0 => rfl
  | i + 1 => by
    have ih := runs_fold sc i
    by_cases hl : i < sc.length
    · rw [(runs_next hl).1]
      unfold Pst.step
      split
      · exact does_fold ih
      · split
        · exact does_fold ih
        · split
          · exact does_fold ih
          · split
            · exact does_fold ih
            · split
              · exact does_fold ih
              · split
                · rfl
                · exact ih
    · have e : runs sc (i + 1) = runs sc i := by
        show (match sc[i]? with | some p => (runs sc i).step p | none => runs sc i) = _
        rw [List.getElem?_eq_none (by omega)]
      rw [e]
      exact ih
theorem crI_ones (pe : List Ope) (m : Cn) : ∀ n, n ≤ pe.length → crI pe (List.replicate pe.length 1) m n = foldC (pe.take n) m
  | 0, _ => rfl
  | n + 1, h => by
    show stp pe[n]? (List.replicate pe.length (1 : Int))[n]? (crI pe (List.replicate pe.length 1) m n) = _
    rw [crI_ones pe m n (by omega), List.getElem?_eq_getElem (show n < pe.length by omega), List.getElem?_replicate, if_pos (by omega), List.take_add_one, List.getElem?_eq_getElem (show n < pe.length by omega)]
    show (match (pe[n]).rem 1 with | some o' => o'.cn (foldC (pe.take n) m) | none => foldC (pe.take n) m) = foldC (pe.take n ++ [pe[n]]) m
    rw [foldC_snoc]
    have : (pe[n]).rem 1 = some pe[n] := by unfold Ope.rem; rw [if_neg (by omega), if_pos rfl]
    rw [this]
/-- A store with its blocks where they are. -/
theorem Sto.now {O : Nat → Prop} {B : Nat} {M : Mm} {m0 m1 : Cn} {K : Nat} {W : World} (h : Sto O B M m0 m1 K W) : Sto (fun b => O b ∧ b < W.heap.size) B M m0 m1 K W := h.mono (fun _ hb q => ⟨q, hb⟩) (Nat.le_refl _) h.hK
theorem rk_ones {O : Nat → Prop} {W : World} {base N c : Nat} {a : Option Addr} (h : W.ownsRow base 3 1 (.slice a N c) N (ones N)) (hO : ∀ b, base ≤ b → ¬ O b) : Rk O W a (List.replicate N 1) := by
  rcases h.2 with ⟨q1, q2⟩ | ⟨g, cap, cur, q1, q2, q3, q4, _⟩
  · exact .inl (by rw [q2]; rfl)
  · injection q1 with q1 _ _
    subst q1
    refine .inr ⟨g, 0, rfl, blk_lt q3, hO g q2, fun j hj => ?_⟩
    have hj2 : j < N := by simpa using hj
    have := h.cells (g := g) rfl j (.int .i64 1) (by simp [ones, hj2])
    rw [Addr.add_mid] at this
    rw [this]
    simp
/-- What is there behind the three scripts. -/
structure W3s (W W3 : World) (m0 m1 : Cn) (n t1 t2 : Nat) : Prop where
  out : ∃ (Ms Mt Mu : Mm) (K : Nat), K ≤ 1000000000 ∧ Sto (Wn W.heap.size t1) W.heap.size Ms m0 m1 K W3 ∧ Sto (Wn t1 t2) t1 Mt m0 m1 K W3 ∧ Sto (Wn t2 W3.heap.size) t2 Mu m0 m1 K W3 ∧
    n = Ms.ps.length ∧ m0 = foldC (Ms.ps.map Opn.e) m1 ∧ W.heap.size ≤ t1 ∧ t1 ≤ t2 ∧ t2 ≤ W3.heap.size ∧ RowKit.Below W.heap.size W W3
theorem whole_start {W : World} {pa : Option Addr} {sc : List Sp} (pc : Nat) (hs : Rs W pa sc) (hK : Ks sc sc.length ≤ 1000000000) (hl : sc.length ≤ 1099511627776) : ∃ n : Nat,
    Calls Try.prog 18 #[.slice pa sc.length pc] W fun v W1 => v = .returned (.tuple #[.pointer (some ⟨W.heap.size, 0, none⟩), .bool true]) ∧
      Calls Try.prog 18 #[.slice pa sc.length pc] W1 fun v W2 => v = .returned (.tuple #[.pointer (some ⟨W1.heap.size, 0, none⟩), .bool true]) ∧
        Calls Try.prog 18 #[.slice pa sc.length pc] W2 fun v W3 => v = .returned (.tuple #[.pointer (some ⟨W2.heap.size, 0, none⟩), .bool true]) ∧ W3s W W3 (runs sc sc.length).m0 (runs sc sc.length).m1 n W1.heap.size W2.heap.size := by
  refine ⟨(runs sc sc.length).pe.length, (played_any pc hs (by omega) hl).mono fun v W1 ⟨q1, st1, b1⟩ => ⟨q1, ?_⟩⟩
  refine (played_any pc (hs.later b1) (by omega) hl).mono fun v W2 ⟨q2, st2, b2⟩ => ⟨q2, ?_⟩
  refine (played_any pc ((hs.later b1).later b2) (by omega) hl).mono fun v W3 ⟨q3, st3, b3⟩ => ⟨q3, ?_⟩
  obtain ⟨M1, h1, e1⟩ := st1.wn
  obtain ⟨M2, h2, _⟩ := st2.wn
  obtain ⟨M3, h3, _⟩ := st3.wn
  refine ⟨M1, M2, M3, _, hK, (h1.later b2).later b3, h2.later b3, h3, ?_, ?_, b1.size, b2.size, b3.size, bl_t b1 (bl_t b2 b3)⟩
  · rw [← e1]; simp
  · rw [e1]; exact runs_fold sc sc.length
theorem whole_rest {W W3 : World} {m0 m1 : Cn} {n t1 t2 : Nat} (w3 : W3s W W3 m0 m1 n t1 t2) {ka : Option Addr} {ks : List Int} (kc : Nat) (hks : Rz W ka ks) (hk64 : ∀ k ∈ ks, k ≤ 9223372036854775807) (hkl : ks.length ≤ 1099511627776) :
    Calls Try.prog 21 #[.pointer (some ⟨W.heap.size, 0, none⟩)] W3 fun v W4 => ∃ seen, v = .returned seen ∧
    Calls Try.prog 22 #[.pointer (some ⟨t1, 0, none⟩)] W4 fun v W5 => ∃ was, v = .returned was ∧
    Calls Try.prog 26 #[.pointer (some ⟨W.heap.size, 0, none⟩)] W5 fun v W5' => v = .returned (.int .i64 (n : Int)) ∧
    Calls Try.prog 30 #[.int .i64 (n : Int)] W5' fun v W6 => ∃ a c, v = .returned (.agg #[.slice a n c]) ∧
    Calls Try.prog 14 #[.pointer (some ⟨W.heap.size, 0, none⟩), .agg #[.slice a n c]] W6 fun v W7 => v = .returned (.int .i64 0) ∧
    Calls Try.prog 14 #[.pointer (some ⟨t1, 0, none⟩), .agg #[.slice none 0 0]] W7 fun v W8 => v = .returned (.int .i64 0) ∧
    Calls Try.prog 13 #[.pointer (some ⟨t2, 0, none⟩)] W8 fun v W9 => v = .returned (.int .i64 0) ∧
    Calls Try.prog 14 #[.pointer (some ⟨t2, 0, none⟩), .agg #[.slice ka ks.length kc]] W9 fun v W10 => v = .returned (.int .i64 0) ∧
    Calls Try.prog 26 #[.pointer (some ⟨W.heap.size, 0, none⟩)] W10 fun v W11 => v = .returned (.int .i64 0) ∧
    Calls Try.prog 31 #[.pointer (some ⟨W.heap.size, 0, none⟩)] W11 fun v W12 => v = .returned (.bool false) ∧
    Calls Try.prog 26 #[.pointer (some ⟨t2, 0, none⟩)] W12 fun v W13 => v = .returned (.int .i64 0) ∧
    Calls Try.prog 21 #[.pointer (some ⟨W.heap.size, 0, none⟩)] W13 fun v W14 => ∃ i1, v = .returned i1 ∧
    Calls Try.prog 29 #[i1, seen] W14 fun v W15 => v = .returned (.bool true) ∧
    Calls Try.prog 22 #[.pointer (some ⟨W.heap.size, 0, none⟩)] W15 fun v W16 => ∃ i2, v = .returned i2 ∧
    Calls Try.prog 29 #[i2, seen] W16 fun v W17 => v = .returned (.bool true) ∧
    Calls Try.prog 21 #[.pointer (some ⟨t1, 0, none⟩)] W17 fun v W18 => ∃ i3, v = .returned i3 ∧
    Calls Try.prog 29 #[i3, was] W18 fun v W19 => v = .returned (.bool true) ∧
    Calls Try.prog 21 #[.pointer (some ⟨t2, 0, none⟩)] W19 fun v W20 => ∃ i4, v = .returned i4 ∧
    Calls Try.prog 29 #[i4, seen] W20 fun v W21 => v = .returned (.bool true) ∧ RowKit.Below W.heap.size W W21 := by
  obtain ⟨Ms, Mt, Mu, K, hK, hS, hT, hU, rfl, hfold, g1, g2, g3, bw3⟩ := w3.out
  have hz0 : ∀ x bs, m0 x = some bs → bs.length ≤ 140737488355328 := fun x bs e => Nat.le_trans (hS.l0 x bs e) (by omega)
  have hz1 : ∀ x bs, m1 x = some bs → bs.length ≤ 140737488355328 := fun x bs e => by have := hS.l1 x bs e; omega
  have hnl : Ms.ps.length ≤ 1000000000 := by have := hS.lp; omega
  refine (Image_any hS (by omega)).mono fun v W4 ⟨seen, e4, ⟨L4, im4⟩, b4⟩ => ⟨seen, e4, ?_⟩
  have z4 := b4.size
  have hS := hS.later b4
  have hT := hT.later b4
  have hU := hU.later b4
  refine (Durable_any hT (by omega)).mono fun v W5 ⟨was, e5, ⟨L5, im5⟩, b5⟩ => ⟨was, e5, ?_⟩
  have z5 := b5.size
  have hS := hS.later b5
  have hT := hT.later b5
  have hU := hU.later b5
  have im4 := im4.later b5
  refine (Pending_any hS).mono fun v W5' ⟨e5', e5w⟩ => ⟨e5', ?_⟩
  obtain rfl : W5' = W5 := e5w
  refine (all_any W5' Ms.ps.length (by omega)).mono fun v W6 ⟨a, c, e6, r6, b6⟩ => ⟨a, c, e6, ?_⟩
  have z6 := b6.size
  have hS := hS.later b6
  have hT := hT.later b6
  have hU := hU.later b6
  have im4 := im4.later b6
  have im5 := im5.later b6
  have bw6 : RowKit.Below W.heap.size W W6 := bl_t bw3 (bl_t b4 (bl_t b5 b6))
  -- the first crash
  have C7 := crash_any hS (fun b q => by have := q.2; omega) (by omega) c (ks := List.replicate Ms.ps.length 1) (ka := a) (rk_ones r6 fun b hb q => by have := q.2; omega) (by rw [List.length_replicate]; omega) (fun k hk => by rw [(List.mem_replicate.1 hk).2]; omega)
  rw [List.length_replicate] at C7
  refine C7.mono fun v W7 ⟨e7, M7, hS7, p7, _, f7⟩ => ⟨e7, ?_⟩
  have em7 : crI (Ms.ps.map Opn.e) (List.replicate Ms.ps.length 1) m1 (min Ms.ps.length (List.replicate Ms.ps.length (1 : Int)).length) = m0 := by
    rw [List.length_replicate, Nat.min_self]
    have := crI_ones (Ms.ps.map Opn.e) m1 Ms.ps.length (by simp)
    rw [List.length_map] at this
    rw [this, List.take_of_length_le (by simp), ← hfold]
  rw [em7] at hS7
  have z7 := f7.size
  have hS := hS7.now
  clear hS7 C7
  have hT := hT.fx f7 fun b hb q1 q2 => by
    rcases q2 with q2 | q2
    · have := q2.2; have := q1.1; omega
    · have := q1.2; omega
  have hU := hU.fx f7 fun b hb q1 q2 => by
    rcases q2 with q2 | q2
    · have := q2.2; have := q1.1; omega
    · have := q1.2; omega
  have im4 := im4.fx f7 fun b l1 l2 q2 => by
    rcases q2 with q2 | q2
    · have := q2.2; omega
    · omega
  have im5 := im5.fx f7 fun b l1 l2 q2 => by
    rcases q2 with q2 | q2
    · have := q2.2; omega
    · omega
  have bw7 : RowKit.Below W.heap.size W W7 := bw6.trans (f7.below bw6.size fun b hb q => by
    rcases q with q | q
    · have := q.1; omega
    · have := bw6.size; omega)
  -- the second
  refine (crash_any hT (fun b q => by have := q.2; omega) (by omega) 0 (ks := []) (ka := none) (.inl rfl) (by simp) (fun k hk => by cases hk)).mono fun v W8 ⟨e8, M8, hT8, p8, _, f8⟩ => ⟨e8, ?_⟩
  have em8 : crI (Mt.ps.map Opn.e) [] m1 (min Mt.ps.length ([] : List Int).length) = m1 := by
    rw [show min Mt.ps.length ([] : List Int).length = 0 from Nat.min_zero _]
    rfl
  rw [em8] at hT8
  have z8 := f8.size
  have hT := hT8.now
  clear hT8
  have hS := hS.fx f8 fun b hb q1 q2 => by
    rcases q2 with q2 | q2
    · rcases q1.1 with q1 | q1
      · have := q2.1; have := q1.2; omega
      · have := q2.2; omega
    · have := q1.2; omega
  have hU := hU.fx f8 fun b hb q1 q2 => by
    rcases q2 with q2 | q2
    · have := q2.2; have := q1.1; omega
    · have := q1.2; omega
  have im4 := im4.fx f8 fun b l1 l2 q2 => by
    rcases q2 with q2 | q2
    · have := q2.2; omega
    · omega
  have im5 := im5.fx f8 fun b l1 l2 q2 => by
    rcases q2 with q2 | q2
    · have := q2.2; omega
    · omega
  have bw8 : RowKit.Below W.heap.size W W8 := bw7.trans (f8.below bw7.size fun b hb q => by
    rcases q with q | q
    · have := q.1; omega
    · have := bw7.size; omega)
  -- the Sync
  refine (Sync_any hU).mono fun v W9 ⟨e9, M9, hU9, p9, _, _, f9⟩ => ⟨e9, ?_⟩
  have z9 := f9.size
  have hU := hU9.now
  clear hU9
  have hS := hS.fx f9 fun b hb q1 q2 => by
    rcases q2 with q2 | q2
    · rcases q1.1 with q1 | q1
      · have := q2.1; have := q1.2; omega
      · have := q2.2; omega
    · have := q1.2; omega
  have hT := hT.fx f9 fun b hb q1 q2 => by
    rcases q2 with q2 | q2
    · rcases q1.1 with q1 | q1
      · have := q2.1; have := q1.2; omega
      · have := q2.2; omega
    · have := q1.2; omega
  have im4 := im4.fx f9 fun b l1 l2 q2 => by
    rcases q2 with q2 | q2
    · have := q2.2; omega
    · omega
  have im5 := im5.fx f9 fun b l1 l2 q2 => by
    rcases q2 with q2 | q2
    · have := q2.2; omega
    · omega
  have bw9 : RowKit.Below W.heap.size W W9 := bw8.trans (f9.below bw8.size fun b hb q => by
    rcases q with q | q
    · have := q.1; omega
    · have := bw8.size; omega)
  -- the third crash
  refine (crash_any hU (fun b q => q.2) (by omega) kc (ks := ks) (ka := ka) ?_ hkl hk64).mono fun v W10 ⟨e10, M10, hU10, p10, _, f10⟩ => ⟨e10, ?_⟩
  · rcases hks with q | ⟨b, o, q1, q2, q3⟩
    · exact .inl q
    · refine .inr ⟨b, o, q1, Nat.lt_of_lt_of_le q2 bw9.size, fun q => ?_, fun j hj => (bw9.cell (p := ⟨b, o + j, none⟩) q2).trans (q3 j hj)⟩
      rcases q.1 with q | q
      · have := q.1; omega
      · have := bw8.size; omega
  have em10 : crI (M9.ps.map Opn.e) ks m0 (min M9.ps.length ks.length) = m0 := by
    rw [p9, show min ([] : List Opn).length ks.length = 0 from Nat.zero_min _]
    rfl
  rw [em10] at hU10
  have z10 := f10.size
  have hS := hS.fx f10 fun b hb q1 q2 => by
    have q1b := q1.2
    rcases q2 with q2 | q2
    · rcases q1.1 with q1 | q1
      · rcases q2.1 with q2 | q2
        · have := q2.1; have := q1.2; omega
        · omega
      · rcases q2.1 with q2 | q2
        · have := q2.2; omega
        · omega
    · omega
  have hT := hT.fx f10 fun b hb q1 q2 => by
    have q1b := q1.2
    rcases q2 with q2 | q2
    · rcases q1.1 with q1 | q1
      · rcases q2.1 with q2 | q2
        · have := q2.1; have := q1.2; omega
        · omega
      · rcases q2.1 with q2 | q2
        · have := q2.2; omega
        · omega
    · omega
  have im4 := im4.fx f10 fun b l1 l2 q2 => by
    rcases q2 with q2 | q2
    · rcases q2.1 with q2 | q2
      · have := q2.2; omega
      · omega
    · omega
  have im5 := im5.fx f10 fun b l1 l2 q2 => by
    rcases q2 with q2 | q2
    · rcases q2.1 with q2 | q2
      · have := q2.2; omega
      · omega
    · omega
  have bw10 : RowKit.Below W.heap.size W W10 := bw9.trans (f10.below bw9.size fun b hb q => by
    rcases q with q | q
    · rcases q.1 with q | q
      · have := q.1; omega
      · have := bw8.size; omega
    · have := bw9.size; omega)
  have hU := hU10
  -- what is asked
  refine (Pending_any hS).mono fun v W11 ⟨e11, w11⟩ => ⟨by rw [e11, p7]; rfl, ?_⟩
  obtain rfl : W11 = W10 := w11
  refine (Dead_any hS).mono fun v W12 ⟨e12, w12⟩ => ⟨e12, ?_⟩
  obtain rfl : W12 = W11 := w12
  refine (Pending_any hU).mono fun v W13 ⟨e13, w13⟩ => ⟨by rw [e13, p10]; rfl, ?_⟩
  obtain rfl : W13 = W12 := w13
  refine (Image_any hS (by omega)).mono fun v W14 ⟨i1, e14, ⟨L14, im14⟩, b14⟩ => ⟨i1, e14, ?_⟩
  refine (sameFiles_yes im14 (im4.later b14) hz0).mono fun v W15 ⟨e15, t15, w15⟩ => ⟨e15, ?_⟩
  obtain rfl : W15 = W14.drewN t15 := w15
  have c15 := bl_t b14 (bl_drewN W14 t15)
  refine (Durable_any (hS.later c15) (by omega)).mono fun v W16 ⟨i2, e16, ⟨L16, im16⟩, b16⟩ => ⟨i2, e16, ?_⟩
  refine (sameFiles_yes im16 ((im4.later c15).later b16) hz0).mono fun v W17 ⟨e17, t17, w17⟩ => ⟨e17, ?_⟩
  obtain rfl : W17 = W16.drewN t17 := w17
  have c17 := bl_t c15 (bl_t b16 (bl_drewN W16 t17))
  refine (Image_any (hT.later c17) (by omega)).mono fun v W18 ⟨i3, e18, ⟨L18, im18⟩, b18⟩ => ⟨i3, e18, ?_⟩
  refine (sameFiles_yes im18 ((im5.later c17).later b18) hz1).mono fun v W19 ⟨e19, t19, w19⟩ => ⟨e19, ?_⟩
  obtain rfl : W19 = W18.drewN t19 := w19
  have c19 := bl_t c17 (bl_t b18 (bl_drewN W18 t19))
  refine (Image_any (hU.later c19) (by omega)).mono fun v W20 ⟨i4, e20, ⟨L20, im20⟩, b20⟩ => ⟨i4, e20, ?_⟩
  refine (sameFiles_yes im20 ((im4.later c19).later b20) hz0).mono fun v W21 ⟨e21, t21, w21⟩ => ⟨e21, ?_⟩
  rw [w21]
  exact bl_t bw10 (bl_t c19 (bl_t b20 (bl_drewN W20 t21)))
set_option maxRecDepth 100000 in
set_option maxHeartbeats 16000000 in
theorem whole_walk {W : World} {pa : Option Addr} {sc : List Sp} (pc : Nat) (hs : Rs W pa sc) (hK : Ks sc sc.length ≤ 1000000000) (hl : sc.length ≤ 1099511627776) {ka : Option Addr} {ks : List Int} (kc : Nat) (hks : Rz W ka ks) (hk64 : ∀ k ∈ ks, k ≤ 9223372036854775807) (hkl : ks.length ≤ 1099511627776) :
    Calls Try.prog 7 #[.slice pa sc.length pc, .slice ka ks.length kc] W fun v W' => v = .returned (.bool true) ∧ RowKit.Below W.heap.size W W' := by
  obtain ⟨n, C⟩ := whole_start pc hs hK hl
  have HR := hide (fun W3 m0 m1 t1 t2 (w3 : W3s W W3 m0 m1 n t1 t2) => whole_rest w3 kc hks hk64 hkl)
  generalize sc.length = N at *
  generalize ks.length = KN at *
  clear hs hK hl hks hk64 hkl
  go_enter Try.func7, Try.ntmps7
  go_upto_region 4 with (first
    | (go_at_call 18; refine C.mono ?_; rintro x1 w1 ⟨rfl, C1⟩; clear C; have C := C1; clear C1))
  have C2 := unhide HR _ _ _ _ _ C
  clear C HR
  have C := C2
  clear C2
  go_wp2_with (first
    | (go_at_call 21; refine C.mono ?_; rintro x1 w2 ⟨iv, rfl, C1⟩; clear C; have C := C1; clear C1)
    | (go_at_call 22; refine C.mono ?_; rintro x1 w2 ⟨iv, rfl, C1⟩; clear C; have C := C1; clear C1)
    | (go_at_call 26; refine C.mono ?_; rintro x1 w2 ⟨rfl, C1⟩; clear C; have C := C1; clear C1)
    | (go_at_call 14; refine C.mono ?_; rintro x1 w2 ⟨rfl, C1⟩; clear C; have C := C1; clear C1)
    | (go_at_call 13; refine C.mono ?_; rintro x1 w2 ⟨rfl, C1⟩; clear C; have C := C1; clear C1)
    | (go_at_call 31; refine C.mono ?_; rintro x1 w2 ⟨rfl, C1⟩; clear C; have C := C1; clear C1)
    | (go_at_call 29; refine C.mono ?_; rintro x1 w2 ⟨rfl, C1⟩; clear C; have C := C1; clear C1)
    | (go_at_call 30; refine C.mono ?_; rintro x1 w2 ⟨av, cv, rfl, C1⟩; clear C; have C := C1; clear C1)
    | (go_at_call 11; refine (num_any _ _).mono ?_; rintro x8 w8 ⟨rfl, rfl⟩)
    | (go_at_call 9; refine (little_any _).mono ?_; rintro x9 w9 ⟨rfl, b9⟩; have HG := hide (bl_t C b9); clear b9))
  go_ret
  exact ⟨rfl, unhide HG⟩
end Go.Proofs.Ytokgegbodbnimaa
