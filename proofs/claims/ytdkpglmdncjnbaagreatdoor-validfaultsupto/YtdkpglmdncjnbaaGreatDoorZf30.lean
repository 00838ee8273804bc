import Derived.Test.YtdkpglmdncjnbaaGreatDoorZf29
namespace Go.Proofs.YtdkpglmdncjnbaaGreatDoor
section
open Go.RowKit Go.Maps
set_option maxRecDepth 100000 in
set_option maxHeartbeats 4000000 in
theorem without_own {w : World} {v : Value} {ps : List Pk} (sm : SmP ps) (pk : Pkl w v ps) :
 Calls Tryz.prog 45 #[v, .slice none 0 0] w fun e w' => e = .returned (.slice (some ⟨w.heap.size + 1, 0, none⟩) ps.length ps.length) ∧ Bb w' (w.heap.size + 1) ps.length (fun i => decide (i < ps.length)) ∧ RowKit.Below w.heap.size w w' := by
 obtain ⟨va, vc, rfl⟩ : ∃ a c, v = .slice a ps.length c := let ⟨a, c, e, _⟩ := pk; ⟨a, c, e⟩
 have hl := sm.l
 have HPK := hide (show ∀ X, RowKit.Below w.heap.size w X → ∀ (p : Nat), p < ps.length → ∃ (vb vo : Nat) (cs : List Value) (n u : Nm), va = some ⟨vb, vo, none⟩ ∧ vb < X.heap.size ∧ X.rangeAt vb (vo + p * 43) cs ∧ (Tryz.prog.info? 46).map (·.size) = some cs.length ∧ ∀ Y, Calls Tryz.prog 47 #[.agg cs.toArray] Y fun e w' => e = .returned (.agg #[.string n, .string u]) ∧ Below Y.heap.size Y w' from fun X hX p hp => by
  obtain ⟨vb, vo, vc2, cs, d, r, c, pv, f, e, hvb, hr, hpc, _⟩ := (pk.later hX).at2 (List.getElem?_eq_getElem hp)
  injection e with e _ _
  exact ⟨vb, vo, cs, _, _, e, hvb, hr, by rw [hpc.len]; kernel_rfl, fun Y => keyOf_any cs _ _ Y hpc.c0 hpc.c1⟩)
 obtain ⟨N, hN⟩ : ∃ N, N = ps.length := ⟨_, rfl⟩
 rw [← hN] at hl HPK ⊢
 have hmk := makeBl N hl
 have hmm := makeMk
 have HW := hide (wo_new w N)
 clear pk sm hN
 go_enter Tryz.func45, Tryz.ntmps45
 go_wp2_with fail
 refine wp_loop_rounds 1 ?_
 rw [rounds_succ]
 go_wp2_with fail
 clear hmm hmk
 go_loopw [30] (fun iv wr => ∃ i : Nat, iv = .int .i64 i ∧ i ≤ N ∧ Hid (Wo w wr N i)) (fun iv _ => N - (intOf iv).toNat)
 case atStart => exact ⟨0, rfl, Nat.zero_le _, HW⟩
 case round =>
  clear HW
  obtain ⟨i, rfl, hile, HU⟩ := hrel
  have hu := unhide HU
  by_cases hlt : i < N
  ·have hlt2 : (i : Int) < (N : Int) := by omega
   obtain ⟨vb, vo, cs, n, u, rfl, hvb, hr, hinf, hk⟩ := unhide HPK wr hu.bw i hlt
   have HR := hide hr
   have HI2 := hide hinf
   have HK := hide (hk wr)
   clear hr hinf hk
   go_wp2_with (first | ((with_reducible refine wpList_load_p (op := ⟨some 38, .load 46 (.tmp 37), 46, "part.go:24", #[⟨3, .data⟩], none⟩) ?wxa 46 (.tmp 37) ?wxb vb (vo + i * 43) ?wxc cs _ (unhide HR) Tryz.underlying46 ?wxd (unhide HI2) ?wxe); (case wxa => rfl); (case wxb => rfl); (case wxc => rfl); (case wxd => rfl)) | (go_at_call 47; refine (unhide HK).mono ?_; rintro e w5 ⟨rfl, hb5⟩; have HU5 := hide (hu.later hb5); have lk := lookE (unhide HU5).m n u; obtain ⟨c0, f0⟩ := (unhide HU5).b.cell hlt; have hz5 := (unhide HU5).b.lt; clear hb5 HK))
   have HU6 := hide (((unhide HU5).set hlt).later ((Below.refl _ (w5.setCell ⟨w.heap.size + 1, i, none⟩ (.bool true))).alloc (Nat.le_refl _) (.cells #[] 107)))
   go_roundw
   case rel => exact ⟨i + 1, by go_num, by omega, HU6⟩
   case measure => simp [intOf]; omega
  ·obtain rfl : i = N := by omega
   go_wp2_with fail
   go_ret
   exact ⟨rfl, hu.b, hu.bw⟩
theorem allOf_own {w : World} {v : Value} {ps : List Pk} (sm : SmP ps) (pk : Pkl w v ps) :
 Calls Tryz.prog 41 #[v] w fun e w' => e = .returned (.slice (some ⟨w.heap.size + 1, 0, none⟩) ps.length ps.length) ∧ Bb w' (w.heap.size + 1) ps.length (fun i => decide (i < ps.length)) ∧ RowKit.Below w.heap.size w w' := by
 have C := hide (without_own sm pk)
 clear sm pk
 go_enter Tryz.func41, Tryz.ntmps41
 go_wp2_with (go_at_call 45; refine (unhide C).mono ?_; rintro e w2 ⟨rfl, h1, h2⟩; have H := hide (And.intro h1 h2); clear h1 h2 C)
 go_ret
 exact ⟨rfl, unhide H⟩
theorem rise_len : ∀ (l : List Nat) (k n : Nat), l.Pairwise (· < ·) → (∀ x ∈ l, k ≤ x ∧ x < n) → l.length ≤ n - k
 | [], _, _, _, _ => Nat.zero_le _
 | a :: l, k, n, h, hb => by
   obtain ⟨h1, h2⟩ := List.pairwise_cons.1 h
   have ha := hb a List.mem_cons_self
   have := rise_len l (a + 1) n h2 fun x hx => ⟨h1 x hx, (hb x (List.mem_cons_of_mem _ hx)).2⟩
   rw [List.length_cons]
   omega
end
section
open Go.RowKit Go.Maps
structure Cw (X wr : World) (ps : List Pk) (gi : Nat) (u : Value) (inn : Nat → Bool) (D : List Nat) : Prop where
 b : Bb wr gi ps.length inn
 row : ∃ lo, gi < lo ∧ Pl lo wr u D
 len : D.length ≤ 1048576
 cr : Cr ps inn D
 bw : RowKit.Below X.heap.size X wr
set_option maxRecDepth 100000 in
set_option maxHeartbeats 4000000 in
theorem Closed_any {w : World} {v : Value} {ps : List Pk} (sm : SmP ps) (pk : Pkl w v ps) (ht : akK ps ps.length ≤ 1048576) :
 Calls Tryz.prog 15 #[v] w fun e w' => ∃ r inn, e = .returned r ∧ w'.ownsRow w.heap.size 3 1 r (plL inn ps.length).length (ints (plL inn ps.length)) ∧ (Clo ps inn ∧ (∀ G, Clo ps G → ∀ p, p < ps.length → G p = true → inn p = true) ∧ ∀ p, inn p = true → p < ps.length) ∧ RowKit.Below w.heap.size w w' := by
 obtain ⟨xs, hxs, hsim⟩ := sim_of pk (fun p hp => (sm.z p hp).2.1)
 obtain ⟨va, vc, rfl⟩ : ∃ a c, v = .slice a ps.length c := let ⟨a, c, e, _⟩ := pk; ⟨a, c, e⟩
 have hl := sm.l
 have htt := sm.tot hsim
 have C1 := hide (show ∀ X, RowKit.Below w.heap.size w X → Calls Tryz.prog 39 #[.slice va ps.length vc] X fun e w' => ∃ b1 b2, e = .returned (.agg #[.slice va ps.length vc, .map (some b1), .map (some b2)]) ∧ M2 (nmP xs xs.length) (pvP xs xs.length) w' b1 b2 ∧ RowKit.Below X.heap.size X w' from fun X hX => (setOf_any xs (.slice va ps.length vc) X (by rw [hsim.1]; omega) (by omega) (sm.sz hsim) (hxs.later hX)).mono fun e w' ⟨H1, k1, H2, k2, he, m1, m2, hb⟩ => ⟨_, _, he, ⟨_, H1, k1, H2, k2, m1, m2⟩, hb⟩)
 have HAS := hide (show ∀ X, RowKit.Below w.heap.size w X → Calls Tryz.prog 40 #[.slice va ps.length vc] X fun e w' => ∃ ba H k, e = .returned (.map (some ba)) ∧ Mi w' (X.heap.size + 1) (.map (some ba)) H (akP ps ps.length) k ∧ RowKit.Below X.heap.size X w' from fun X hX => (askingOf_any sm (pk.later hX) ht).mono fun e w' ⟨H, k, he, hm, hb⟩ => ⟨_, H, k, he, hm, hb⟩)
 have HALL := hide (show ∀ X, RowKit.Below w.heap.size w X → Calls Tryz.prog 41 #[.slice va ps.length vc] X fun e w' => e = .returned (.slice (some ⟨X.heap.size + 1, 0, none⟩) ps.length ps.length) ∧ Bb w' (X.heap.size + 1) ps.length (fun i => decide (i < ps.length)) ∧ RowKit.Below X.heap.size X w' from fun X hX => allOf_own sm (pk.later hX))
 have HPL := hide (show ∀ X gi inn, Bb X gi ps.length inn → Calls Tryz.prog 42 #[.slice (some ⟨gi, 0, none⟩) ps.length ps.length] X fun e w' => ∃ u, e = .returned u ∧ w'.ownsRow X.heap.size 3 1 u (plL inn ps.length).length (ints (plL inn ps.length)) ∧ RowKit.Below X.heap.size X w' from fun X gi inn hb => places_any (by omega) hb.bls)
 have HDR := hide (show ∀ (Z Y : World) (b1 b2 gi : Nat) (u : Value) (inn : Nat → Bool) (D : List Nat), RowKit.Below w.heap.size w Z → M2 (nmP xs xs.length) (pvP xs xs.length) Z b1 b2 → Z.heap.size ≤ gi → Cw Z Y ps gi u inn D → Calls Tryz.prog 43 #[.agg #[.slice va ps.length vc, .map (some b1), .map (some b2)], .slice (some ⟨gi, 0, none⟩) ps.length ps.length, u] Y fun e w' => ∃ u inn' L, e = .returned u ∧ w'.ownsRow Y.heap.size 3 1 u L.length (ints L) ∧ Bb w' gi ps.length inn' ∧ Dp ps inn D inn' L ∧ Fx (fun c => c = gi) Y w' from fun Z Y b1 b2 gi u inn D hZ hM hg hc => by
  obtain ⟨base, H1, k1, H2, k2, m1, m2⟩ := hM
  obtain ⟨lo, hlo, hpl⟩ := hc.row
  exact drop_any inn m1 m2 (hxs.later hZ) hsim sm (pk.later hZ) hc.bw hg hc.b hpl hlo hc.len hc.cr.lt)
 have HLE := hide (show ∀ (Y : World) (b1 b2 ba base ka lo : Nat) (HA : Nm → Option Hd) (u : Value) (L : List Nat), RowKit.Below w.heap.size w Y → Mi Y base (.map (some ba)) HA (akP ps ps.length) ka → Pl lo Y u L → L.length ≤ 1048576 → (∀ p ∈ L, p < ps.length) → Calls Tryz.prog 44 #[.agg #[.slice va ps.length vc, .map (some b1), .map (some b2)], .map (some ba), u] Y fun e w' => ∃ u D, e = .returned u ∧ Pl Y.heap.size w' u D ∧ D.Pairwise (· < ·) ∧ (∀ p, p ∈ D ↔ Ln ps L p) ∧ RowKit.Below Y.heap.size Y w' from fun Y b1 b2 ba base ka lo HA u L hY hm hp hl2 hlt => leaning_any b1 b2 sm (pk.later hY) hm ht hp hl2 hlt)
 have HCR := hide (Cr.start ps)
 clear sm pk ht hxs hsim htt
 generalize nmP xs xs.length = F1 at *
 generalize pvP xs xs.length = F2 at *
 generalize akP ps ps.length = FA at *
 go_enter Tryz.func15, Tryz.ntmps15
 go_wp2_with fail
 go_step3
 go_wp2_with (first
  | (go_at_call 39; refine (unhide C1 _ (Below.refl _ _)).mono ?_; rintro e w1 ⟨b1, b2, rfl, hM, hb1⟩; have HM := hide (And.intro hM hb1); clear hM hb1 C1)
  | (go_at_call 40; refine (unhide HAS _ (unhide HM).2).mono ?_; rintro e w2 ⟨ba, HA, ka, rfl, hma, hb2⟩; obtain ⟨X, hX⟩ : ∃ W, W = w2.alloc (.cells #[.slice va ps.length vc, .map (some b1), .map (some b2)] 62) := ⟨_, rfl⟩; have HX := hide (show M2 F1 F2 X b1 b2 ∧ X.heap[w2.heap.size]? = some (.cells #[.slice va ps.length vc, .map (some b1), .map (some b2)] 62 (0, 0)) ∧ RowKit.Below w.heap.size w X ∧ Mi X (w1.heap.size + 1) (.map (some ba)) HA FA ka from (by have h2 : RowKit.Below w2.heap.size w2 X := (by rw [hX]; exact (Below.refl _ w2).alloc (Nat.le_refl _) _); have h3 := bl_t hb2 h2; exact ⟨(unhide HM).1.mono fun j hj => h3.block j hj, by rw [hX]; exact World.alloc_heap_new w2 _, bl_t (unhide HM).2 h3, hma.later h2⟩)); clear hb2 hma HAS)
  | (go_at_call 41; rw [← hX]; clear hX; refine (unhide HALL _ (unhide HX).2.2.1).mono ?_; rintro e w4 ⟨rfl, hbl, hb4⟩; have H4 := hide (And.intro hbl hb4); clear hbl hb4)
  | (go_at_call 42; refine (unhide HPL _ _ _ (unhide H4).1).mono ?_; rintro e w5 ⟨u5, rfl, hu5, hb5⟩; have H5 := hide (And.intro hu5 hb5); clear hu5 hb5))
 have HC0 := hide (show Cw X w5 ps (X.heap.size + 1) u5 (fun i => decide (i < ps.length)) (List.range ps.length) from by
  have e : plL (fun i => decide (i < ps.length)) ps.length = List.range ps.length := by
   unfold plL
   exact List.filter_eq_self.2 fun x hx => decide_eq_true (List.mem_range.1 hx)
  have h5 := (unhide H5).1
  rw [e] at h5
  exact ⟨(unhide H4).1.later (unhide H5).2, ⟨_, (unhide H4).1.lt, own_pl h5⟩, by rw [List.length_range]; omega, unhide HCR, bl_t (unhide H4).2 (unhide H5).2⟩)
 have HW5 := hide (bl_t (unhide HX).2.2.1 (bl_t (unhide H4).2 (unhide H5).2))
 clear H4 H5 HM HALL HCR
 go_step3
 go_wp2_with fail
 go_loopg [6, 7] (ps.length + 1) (fun gq uv _ wr => ∃ (inn : Nat → Bool) (D : List Nat), (plL inn ps.length).length + 1 ≤ gq ∧ Hid (Cw X wr ps (X.heap.size + 1) uv inn D))
 case atStart => exact ⟨_, _, Nat.add_le_add_right (plL_len _ _) 1, HC0⟩
 case round =>
  clear HC0
  obtain ⟨inn, D, hgq, HC⟩ := hrel
  have hc := unhide HC
  have bwX := hc.bw
  have hblk := (bwX.block _ (blk_lt (unhide HX).2.1)).trans (unhide HX).2.1
  obtain ⟨s0, s1, s2, _, _, _⟩ := three hblk
  have CD := hide (unhide HDR X wr b1 b2 (X.heap.size + 1) _ inn D (unhide HX).2.2.1 (unhide HX).1 (by omega) hc)
  clear hc bwX hblk
  go_upto_region 5 with (go_at_call 43; refine (unhide CD).mono ?_; rintro e w6 ⟨u6, inn', L, rfl, hu6, hb6, hd6, hf6⟩; obtain ⟨⟨la, ln, lk⟩, rfl, hln⟩ := slice_hd hu6; simp only at hln; subst hln; unfold hv; have H6 := hide (And.intro hu6 (And.intro hb6 (And.intro hd6 hf6))); clear hu6 hb6 hd6 hf6 CD s0 s1 s2)
  have hbX6 := fx_below (unhide HC).bw (unhide H6).2.2.2 (Nat.le_succ _)
  by_cases h0 : L.length = 0
  ·have hL0 : L = [] := List.length_eq_zero_iff.1 h0
   have hz : ((L.length : Int) == 0) = true := by rw [h0]; rfl
   have HEND := hide (show Clo ps inn' ∧ (∀ G, Clo ps G → ∀ p, p < ps.length → G p = true → inn' p = true) ∧ ∀ p, inn' p = true → p < ps.length from by
    have hd := (unhide H6).2.2.1
    rw [hL0] at hd
    exact (unhide HC).cr.stop hd)
   clear h0 hL0
   go_wp2_with (go_at_call 42; refine (unhide HPL _ _ _ (unhide H6).2.1).mono ?_; rintro e w7 ⟨u7, rfl, hu7, hb7⟩; have H7 := hide (And.intro hu7 hb7); clear hu7 hb7)
   rw [Exit.noGoto_ret]
   go_ret
   have hbw6 := bl_t (unhide HX).2.2.1 hbX6
   exact ⟨_, inn', rfl, row_lo2 (unhide H7).1 hbw6.size, unhide HEND, bl_t hbw6 (unhide H7).2⟩
  ·have hz : ((L.length : Int) == 0) = false := by simpa using h0
   have hblk := (hbX6.block _ (blk_lt (unhide HX).2.1)).trans (unhide HX).2.1
   obtain ⟨s0, s1, s2, _, _, _⟩ := three hblk
   have hbw6 := bl_t (unhide HX).2.2.1 hbX6
   have hd6 := (unhide H6).2.2.1
   have CL := hide (unhide HLE w6 b1 b2 ba _ ka _ HA _ L hbw6 ((unhide HX).2.2.2.later hbX6) (own_pl (unhide H6).1) (Nat.le_trans hd6.len (unhide HC).len) (fun p hp => (unhide HC).cr.lt p (hd6.fal p hp).1))
   obtain ⟨f, hf⟩ : ∃ f, f ∈ L := by
    cases L with
    | nil => exact absurd rfl h0
    | cons f L => exact ⟨f, List.mem_cons_self⟩
   have hless := plL_less hd6.sub ((unhide HC).cr.lt f (hd6.fal f hf).1) (hd6.fal f hf).2.1 (hd6.fal f hf).2.2
   have HB6 := hide hbX6
   clear hblk hbw6 hd6 hf h0 hbX6
   go_wp2_with (go_at_call 44; refine (unhide CL).mono ?_; rintro e w7 ⟨u7, D7, rfl, hp7, hs7, hm7, hb7⟩; have H7 := hide (And.intro hp7 (And.intro hs7 (And.intro hm7 hb7))); clear hp7 hs7 hm7 hb7 CL s0 s1 s2)
   go_roundg ((plL inn' ps.length).length + 1)
   case measure => omega
   case rel =>
    refine ⟨inn', D7, Nat.le_refl _, hide ?_⟩
    have hcr := (unhide HC).cr.next (unhide H6).2.2.1 (unhide H7).2.2.1
    refine ⟨(unhide H6).2.1.later (unhide H7).2.2.2, ⟨_, (unhide H6).2.1.lt, (unhide H7).1⟩, ?_, hcr, bl_t (unhide HB6) (unhide H7).2.2.2⟩
    have := rise_len D7 0 ps.length (unhide H7).2.1 fun x hx => ⟨Nat.zero_le _, hcr.lt x hx⟩
    omega
end
section
open Go.RowKit Go.Maps
theorem Pl.at {lo : Nat} {w X : World} {a : Option Addr} {n c : Nat} {l : List Nat} (h : Pl lo w (.slice a n c) l) (hb : RowKit.Below w.heap.size w X) {i p : Nat} (hp : l[i]? = some p) : ∃ g, a = some ⟨g, 0, none⟩ ∧ X.cell? ⟨g, i, none⟩ = some (.int .i64 (p : Int)) := by
 obtain ⟨a2, c2, e, h2⟩ := h
 injection e with e
 obtain ⟨g, q1, _, q3, q4⟩ := h2 i p hp
 exact ⟨g, e.trans q1, (hb.cell (p := ⟨g, i, none⟩) q3).trans q4⟩
theorem makeBB (n : Nat) (hn : n ≤ 262144) (u : World) : (Instr.makeSlice 51 (.int .i64 (n : Int)) (.int .i64 (n : Int))).run Tryz.prog u = .ok (.slice (some ⟨u.heap.size, 0, none⟩) n n) (u.alloc (.cells (madeCells #[.bool false] n) 4)) := by
 obtain ⟨i0, hi, hz0, hz1, hz2⟩ := info_parts2 infoBo
 have h := run_make (P := Tryz.prog) u 51 4 i0 (.bool false) Tryz.underlying51 hi hz0 .i64 .i64 (n : Int) (n : Int) (by omega) (Int.le_refl _) (by rw [hz2]; omega) (by omega)
 simpa [hz1, Value.cells] using h
structure Gf (W wr : World) (n : Nat) (l : List Nat) : Prop where
 b : Bb wr W.heap.size n (fun p => decide (p ∈ l))
 bw : RowKit.Below W.heap.size W wr
theorem Gf.start (W : World) (n : Nat) : Gf W (W.alloc (.cells (madeCells #[.bool false] n) 4)) n [] := by
 refine ⟨?_, (Below.refl _ W).alloc (Nat.le_refl _) _⟩
 have := bb_new W n
 rw [show (fun p : Nat => decide (p ∈ ([] : List Nat))) = (fun _ => false) from by funext p; simp]
 exact this
theorem Gf.later {W wr X : World} {n : Nat} {l : List Nat} (h : Gf W wr n l) (hb : RowKit.Below wr.heap.size wr X) : Gf W X n l := ⟨h.b.later hb, bl_t h.bw hb⟩
theorem Gf.set {W wr : World} {n : Nat} {l : List Nat} (h : Gf W wr n l) {p : Nat} (hp : p < n) : Gf W (wr.setCell ⟨W.heap.size, p, none⟩ (.bool true)) n (l ++ [p]) := by
 refine ⟨?_, h.bw.setCell (p := ⟨W.heap.size, p, none⟩) (Nat.le_refl _) _⟩
 have := h.b.set hp true
 rw [show (fun x => decide (x ∈ l ++ [p])) = (fun i => if i = p then true else decide (i ∈ l)) from by
  funext i
  by_cases e : i = p
  ·rw [if_pos e]; exact decide_eq_true (by simp [e])
  ·rw [if_neg e]; exact decide_eq_decide.2 (by simp [e])]
 exact this
end
section
open Go.RowKit Go.Maps
theorem im_tr (ps : List Pk) (inn : Nat → Bool) (al : List At) (b1 b2 : Int) (hb : ∀ i p : Nat, (plL inn ps.length)[i]? = some p → ((i : Int) ≠ b1 ↔ (p : Int) ≠ b2)) : imP ((plL inn ps.length).map (pAt ps)) (fun _ => true) b1 al = imP ps inn b2 al := by
 obtain ⟨L, hL⟩ : ∃ L, L = plL inn ps.length := ⟨_, rfl⟩
 have hmem : ∀ p, p ∈ L ↔ p < ps.length ∧ inn p = true := fun p => by rw [hL]; unfold plL; rw [List.mem_filter, List.mem_range]
 rw [← hL] at hb ⊢
 have hat : ∀ i p, L[i]? = some p → (L.map (pAt ps))[i]? = some (pAt ps p) := fun i p h => by rw [List.getElem?_map, h]; rfl
 have hmp : ∀ (a : At) i p, L[i]? = some p → mP (L.map (pAt ps)) a i = mP ps a p := fun a i p h => by
  rw [mP_at (hat i p h), mP_at (pAt_at ((hmem p).1 (List.mem_of_getElem? h)).1)]
 rw [Bool.eq_iff_iff, imP_iff, imP_iff2]
 constructor
 ·rintro ⟨a, ha, i, hm, hi⟩
  obtain ⟨p, hp⟩ : ∃ p, L[i]? = some p := ⟨_, List.getElem?_eq_getElem (by have := mP_lt hm; rwa [List.length_map] at this)⟩
  exact ⟨a, ha, p, by rw [← hmp a i p hp]; exact hm, ((hmem p).1 (List.mem_of_getElem? hp)).2, (hb i p hp).1 hi⟩
 ·rintro ⟨a, ha, p, hm, hf, hp⟩
  obtain ⟨i, hi⟩ := List.getElem?_of_mem ((hmem p).2 ⟨mP_lt hm, hf⟩)
  exact ⟨a, ha, i, by rw [hmp a i p hi]; exact hm, (hb i p hi).2 hp⟩
theorem plL_rise (inn : Nat → Bool) (n : Nat) : (plL inn n).Pairwise (· < ·) := List.Pairwise.filter _ List.pairwise_lt_range
theorem plL_mem (inn : Nat → Bool) (n p : Nat) : p ∈ plL inn n ↔ p < n ∧ inn p = true := by unfold plL; rw [List.mem_filter, List.mem_range]
theorem plL_inj {inn : Nat → Bool} {n i j p : Nat} (hi : (plL inn n)[i]? = some p) (hj : (plL inn n)[j]? = some p) : i = j := by
 obtain ⟨h1, e1⟩ := List.getElem?_eq_some_iff.1 hi
 obtain ⟨h2, e2⟩ := List.getElem?_eq_some_iff.1 hj
 rcases Nat.lt_trichotomy i j with h | h | h
 ·have := List.pairwise_iff_getElem.1 (plL_rise inn n) i j h1 h2 h; omega
 ·exact h
 ·have := List.pairwise_iff_getElem.1 (plL_rise inn n) j i h2 h1 h; omega
theorem im_dep (ps : List Pk) (inn : Nat → Bool) (al : List At) : imP ((plL inn ps.length).map (pAt ps)) (fun _ => true) (-1) al = imP ps inn (-1) al :=
 im_tr ps inn al _ _ fun i p _ => ⟨fun _ => by omega, fun _ => by omega⟩
theorem im_pre (ps : List Pk) (inn : Nat → Bool) (al : List At) {i p : Nat} (hi : (plL inn ps.length)[i]? = some p) : imP ((plL inn ps.length).map (pAt ps)) (fun _ => true) (i : Int) al = imP ps inn (p : Int) al :=
 im_tr ps inn al _ _ fun j x hj => ⟨fun hne hx => hne (by have : x = p := by omega
                                                          subst this
                                                          rw [plL_inj hj hi]), fun hne hx => hne (by have : j = i := by omega
                                                                                                     subst this
                                                                                                     rw [hi] at hj; cases hj; rfl)⟩
theorem cl1_part (ps : List Pk) (inn : Nat → Bool) {i p : Nat} (hi : (plL inn ps.length)[i]? = some p) : Cl1 ((plL inn ps.length).map (pAt ps)) i (pAt ps p) ↔ Wh ps inn p (pAt ps p) := by
 unfold Cl1 Wh
 constructor
 ·rintro ⟨h1, h2⟩
  exact ⟨fun al ha => by rw [← im_dep]; exact h1 al ha, fun al ha => by rw [← im_pre ps inn al hi]; exact h2 al ha⟩
 ·rintro ⟨h1, h2⟩
  exact ⟨fun al ha => by rw [im_dep]; exact h1 al ha, fun al ha => by rw [im_pre ps inn al hi]; exact h2 al ha⟩
noncomputable def stay (ps : List Pk) (inn : Nat → Bool) (i : Nat) (p : Nat) : Bool := by
 classical
 exact inn p && !(decide (p ∈ (plL inn ps.length).take i) && !decide (Wh ps inn p (pAt ps p)))
theorem stay_zero (ps : List Pk) (inn : Nat → Bool) : stay ps inn 0 = inn := by
 funext p
 unfold stay
 simp
theorem stay_yes {ps : List Pk} {inn : Nat → Bool} {i p : Nat} (hi : (plL inn ps.length)[i]? = some p) (h : Wh ps inn p (pAt ps p)) : stay ps inn (i + 1) = stay ps inn i := by
 have hil := (List.getElem?_eq_some_iff.1 hi).1
 have e := (List.getElem?_eq_some_iff.1 hi).2
 funext x
 unfold stay
 rw [List.take_succ_eq_append_getElem hil, e]
 by_cases hx : x = p
 ·subst hx; simp [h]
 ·simp [hx]
theorem stay_no {ps : List Pk} {inn : Nat → Bool} {i p : Nat} (hi : (plL inn ps.length)[i]? = some p) (h : ¬ Wh ps inn p (pAt ps p)) : (fun x => if x = p then false else stay ps inn i x) = stay ps inn (i + 1) := by
 have hil := (List.getElem?_eq_some_iff.1 hi).1
 have e := (List.getElem?_eq_some_iff.1 hi).2
 funext x
 unfold stay
 rw [List.take_succ_eq_append_getElem hil, e]
 by_cases hx : x = p
 ·subst hx; simp [h]
 ·simp [hx]
theorem stay_sub {ps : List Pk} {inn : Nat → Bool} {i p : Nat} (h : stay ps inn i p = true) : inn p = true := by
 unfold stay at h
 rw [Bool.and_eq_true] at h
 exact h.1
theorem wh_mono2 {ps : List Pk} {G inn : Nat → Bool} {p : Nat} {q : Pk} (hw : Wh ps G p q) (h : ∀ x, x < ps.length → G x = true → inn x = true) : Wh ps inn p q := by
 have key : ∀ (but : Int) (al : List At), imP ps G but al = true → imP ps inn but al = true := fun but al e => by
  rw [imP_iff2] at e ⊢
  obtain ⟨a, ha, x, hm, hx, hn⟩ := e
  exact ⟨a, ha, x, hm, h x (mP_lt hm) hx, hn⟩
 exact ⟨fun al ha => key _ al (hw.1 al ha), fun al ha => key _ al (hw.2 al ha)⟩
structure Gb (ps : List Pk) (inn : Nat → Bool) : Prop where
 big : ∀ G, Clo ps G → ∀ p, p < ps.length → G p = true → inn p = true
 lt : ∀ p, inn p = true → p < ps.length
theorem Gb.start (ps : List Pk) : Gb ps (fun i => decide (i < ps.length)) := ⟨fun _ _ _ hp _ => decide_eq_true hp, fun _ h => of_decide_eq_true h⟩
theorem Gb.next {ps : List Pk} {inn : Nat → Bool} (h : Gb ps inn) (i : Nat) : Gb ps (stay ps inn i) := by
 refine ⟨fun G hG p hp hg => ?_, fun p hp => h.lt p (stay_sub hp)⟩
 have h1 := h.big G hG p hp hg
 have h2 : Wh ps inn p (pAt ps p) := wh_mono2 (hG p _ (pAt_at hp) hg) fun x hxl hx => h.big G hG x hxl hx
 unfold stay
 simp [h1, h2]
theorem Gb.stop {ps : List Pk} {inn : Nat → Bool} (h : ∀ i p : Nat, (plL inn ps.length)[i]? = some p → Wh ps inn p (pAt ps p)) : Clo ps inn := by
 intro p q hq hp
 have hpl := (List.getElem?_eq_some_iff.1 hq).1
 obtain ⟨i, hi⟩ := List.getElem?_of_mem ((plL_mem inn ps.length p).2 ⟨hpl, hp⟩)
 have e : pAt ps p = q := by have := pAt_at hpl; rw [hq] at this; exact (Option.some.inj this).symm
 have := h i p hi
 rw [e] at this
 exact this
end
section
open Go.RowKit Go.Maps
theorem gf_range (i : Nat) : (fun p : Nat => decide (p ∈ List.range i)) = fun p => decide (p < i) := by
 funext p
 exact decide_eq_decide.2 (by simp)
theorem sm_part {ps : List Pk} (sm : SmP ps) (inn : Nat → Bool) : SmP ((plL inn ps.length).map (pAt ps)) := by
 have e : plL inn ps.length = flP ps.length ((List.range ps.length).map inn) := by
  unfold plL flP
  refine List.filter_congr fun x hx => ?_
  have := List.mem_range.1 hx
  rw [List.getD_eq_getElem?_getD, List.getElem?_map, List.getElem?_range this]
  rfl
 rw [e]
 exact sm.part _
structure Rn (W w1 X : World) (gi : Nat) (ps : List Pk) (inn : Nat → Bool) (i g : Nat) : Prop where
 b : Bb X gi ps.length (stay ps inn i)
 fx : Fx (fun c => c = gi) w1 X
 none_ : g = 0 → ∀ j p, j < i → (plL inn ps.length)[j]? = some p → Wh ps inn p (pAt ps p)
 some_ : g ≠ 0 → ∃ j p, j < i ∧ (plL inn ps.length)[j]? = some p ∧ ¬ Wh ps inn p (pAt ps p)
theorem Rn.start {W w1 : World} {gi : Nat} {ps : List Pk} {inn : Nat → Bool} (h : Bb w1 gi ps.length inn) : Rn W w1 w1 gi ps inn 0 0 :=
 ⟨by rw [stay_zero]; exact h, Fx.refl _ _, fun _ j p hj => absurd hj (Nat.not_lt_zero _), fun h => absurd rfl h⟩
theorem Rn.yes {W w1 X Y : World} {gi : Nat} {ps : List Pk} {inn : Nat → Bool} {i g p : Nat} (h : Rn W w1 X gi ps inn i g) (hb : RowKit.Below X.heap.size X Y) (hi : (plL inn ps.length)[i]? = some p) (hw : Wh ps inn p (pAt ps p)) : Rn W w1 Y gi ps inn (i + 1) g := by
 refine ⟨by rw [stay_yes hi hw]; exact h.b.later hb, h.fx.trans (Fx.of hb), fun hg j q hj hq => ?_, fun hg => ?_⟩
 ·by_cases e : j = i
  ·subst e; rw [hi] at hq; cases hq; exact hw
  ·exact h.none_ hg j q (by omega) hq
 ·obtain ⟨j, q, h1, h2, h3⟩ := h.some_ hg
  exact ⟨j, q, by omega, h2, h3⟩
theorem Rn.no {W w1 X Y : World} {gi : Nat} {ps : List Pk} {inn : Nat → Bool} {i g p : Nat} (h : Rn W w1 X gi ps inn i g) (hb : RowKit.Below X.heap.size X Y) (hi : (plL inn ps.length)[i]? = some p) (hp : p < ps.length) (hw : ¬ Wh ps inn p (pAt ps p)) : Rn W w1 (Y.setCell ⟨gi, p, none⟩ (.bool false)) gi ps inn (i + 1) (g + 1) := by
 refine ⟨?_, (h.fx.trans (Fx.of hb)).set rfl _ _, fun hg => absurd hg (by omega), fun _ => ⟨i, p, by omega, hi, hw⟩⟩
 rw [← stay_no hi hw]
 exact (h.b.later hb).set hp false
set_option maxRecDepth 100000 in
set_option maxHeartbeats 8000000 in
theorem rClosed_any {w : World} {v : Value} {ps : List Pk} (sm : SmP ps) (pk : Pkl w v ps) :
 Calls Tryz.prog 14 #[v] w fun e w' => ∃ r inn, e = .returned r ∧ w'.ownsRow w.heap.size 3 1 r (plL inn ps.length).length (ints (plL inn ps.length)) ∧ (Clo ps inn ∧ (∀ G, Clo ps G → ∀ p, p < ps.length → G p = true → inn p = true) ∧ ∀ p, inn p = true → p < ps.length) ∧ RowKit.Below w.heap.size w w' := by
 obtain ⟨va, vc, rfl⟩ : ∃ a c, v = .slice a ps.length c := let ⟨a, c, e, _⟩ := pk; ⟨a, c, e⟩
 have hl := sm.l
 have hmk := makeBB ps.length hl w
 have CP := hide (fun (X : World) (inn : Nat → Bool) (hX : RowKit.Below w.heap.size w X) (hb : Bb X w.heap.size ps.length inn) => rfpart_gen hX sm pk hb)
 have CW := hide (fun (inn : Nat → Bool) (X : World) (r : Value) (i p : Nat) (hk : Pkl X r ((plL inn ps.length).map (pAt ps))) (hi : (plL inn ps.length)[i]? = some p) => rwhole_any (sm_part sm inn) hk (show ((plL inn ps.length).map (pAt ps))[i]? = some (pAt ps p) by rw [List.getElem?_map, hi]; rfl))
 have HS := hide (Gf.start w ps.length)
 have HGB := hide (Gb.start ps)
 clear sm pk
 obtain ⟨W1, hW1⟩ : ∃ W, W = w.alloc (.cells (madeCells #[.bool false] ps.length) 4) := ⟨_, rfl⟩
 rw [← hW1] at HS hmk
 clear hW1
 go_enter Tryz.func14, Tryz.ntmps14
 go_wp2_with fail
 go_loopg [4] ps.length (fun gq iv wr => ∃ i : Nat, iv = .int .i64 i ∧ i ≤ ps.length ∧ ps.length - i ≤ gq ∧ Hid (Gf w wr ps.length (List.range i)))
 case atStart => exact ⟨0, by go_num, by omega, by omega, HS⟩
 case round =>
  clear HS
  obtain ⟨i, rfl, hi, hgq, HF⟩ := hrel
  by_cases hlt : i < ps.length
  ·have hin : (i : Int) < (ps.length : Int) := by omega
   obtain ⟨k1, k2⟩ := (unhide HF).b.cell hlt
   have hlt2 := (unhide HF).b.lt
   have HF' := hide ((unhide HF).set hlt)
   rw [← List.range_succ] at HF'
   go_wp2_with fail
   go_roundg (ps.length - (i + 1))
   case measure => omega
   case rel => exact ⟨i + 1, by go_num, by omega, by omega, HF'⟩
  ·obtain rfl : i = ps.length := by omega
   have HB0 := hide (unhide HF).bw
   have HBB : Hid (Bb wr w.heap.size ps.length (fun p => decide (p < ps.length))) := hide (by rw [← gf_range ps.length]; exact (unhide HF).b)
   clear HF
   go_wp2_with fail
   go_loopg [7] (ps.length + 1) (fun gq _ X => ∃ inn : Nat → Bool, (plL inn ps.length).length + 1 ≤ gq ∧ Hid (Bb X w.heap.size ps.length inn ∧ RowKit.Below w.heap.size w X ∧ Gb ps inn))
   case atStart => exact ⟨_, Nat.add_le_add_right (plL_len _ _) 1, hide ⟨unhide HBB, unhide HB0, unhide HGB⟩⟩
   case round =>
    clear HBB HB0 HGB
    obtain ⟨inn, hgq, HI⟩ := hrel
    have CP' := hide (unhide CP _ inn (unhide HI).2.1 (unhide HI).1)
    go_wp2_with fail
    refine (unhide CP').mono ?_
    rintro e w1 ⟨r1, r2, rfl, hpk, hbl, hrow, hb1⟩
    have hbw1 := bl_t (unhide HI).2.1 hb1
    obtain ⟨ra, rc, rfl⟩ : ∃ a c, r1 = .slice a ((plL inn ps.length).map (pAt ps)).length c := let ⟨a, c, e, _⟩ := hpk w1 (fun _ _ => rfl) hbw1; ⟨a, c, e⟩
    rw [List.length_map] at hpk hbl ⊢
    obtain ⟨⟨la, ln, lk⟩, rfl, hln⟩ := slice_hd hrow
    simp only at hln
    subst hln
    unfold hv at *
    have HR := hide (And.intro hpk (And.intro hbl (And.intro hrow (And.intro hb1 hbw1))))
    have HS := hide (Rn.start (W := w) ((unhide HI).1.later hb1))
    clear hpk hbl hrow hb1 hbw1 CP'
    have hml := plL_len inn ps.length
    go_wp2_with fail
    go_loopg [7, 8] (plL inn ps.length).length (fun gq gv iv X => ∃ i g : Nat, iv = .int .i64 i ∧ gv = .int .i64 g ∧ g ≤ i ∧ i ≤ (plL inn ps.length).length ∧ (plL inn ps.length).length - i ≤ gq ∧ Hid (Rn w w1 X w.heap.size ps inn i g))
    case atStart => exact ⟨0, 0, by go_num, by go_num, by omega, by omega, by omega, HS⟩
    case round =>
     clear HS
     obtain ⟨i, g, rfl, rfl, hgi, hi, hgq2, HN⟩ := hrel
     have hfx := (unhide HN).fx
     have hbX := fx_below (unhide HR).2.2.2.2 hfx (Nat.le_refl _)
     by_cases hlt : i < (plL inn ps.length).length
     ·have hin : (i : Int) < ((plL inn ps.length).length : Int) := by omega
      obtain ⟨p, hp⟩ : ∃ p, (plL inn ps.length)[i]? = some p := ⟨_, List.getElem?_eq_getElem hlt⟩
      have hpl := ((plL_mem inn ps.length p).1 (List.mem_of_getElem? hp)).1
      have hgl := (unhide HI).1.lt
      have hrowX := own_same (unhide HR).2.2.1 (fun b e => hfx.blk b (World.ownsRow.lt (unhide HR).2.2.1 b e).2 (by have := (World.ownsRow.lt (unhide HR).2.2.1 b e).1; omega))
      have hpkX := (unhide HR).1 _ (fun b e => hfx.blk b ((unhide HR).2.1 b e).2 (by have := ((unhide HR).2.1 b e).1; omega)) hbX
      have CW' := hide (unhide CW inn _ _ i p hpkX hp)
      have HX := hide (And.intro hrowX hbX)
      clear hrowX hpkX hfx hbX hgl
      go_wp2_with fail
      refine (unhide CW').mono ?_
      rintro e Y ⟨b, rfl, hbi, hbY⟩
      rw [cl1_part ps inn hp] at hbi
      cases b
      ·have hw : ¬ Wh ps inn p (pAt ps p) := fun q => by have := hbi.2 q; cases this
       obtain ⟨g', rfl, hc⟩ := row_at (unhide HX).1 hbY hlt
       rw [show (plL inn ps.length)[i] = p from (List.getElem?_eq_some_iff.1 hp).2] at hc
       obtain ⟨k1, k2⟩ := ((unhide HN).b.later hbY).cell hpl
       have k3 := ((unhide HN).b.later hbY).lt
       have HN' := hide ((unhide HN).no hbY hp hpl hw)
       have hpi : (p : Int) < (ps.length : Int) := by omega
       clear hbi hw hbY CW' HN HX hp
       go_wp2_with fail
       go_roundg ((plL inn ps.length).length - (i + 1))
       case measure => omega
       case rel => exact ⟨i + 1, g + 1, by go_num, by go_num, by omega, by omega, by omega, HN'⟩
      ·have hw : Wh ps inn p (pAt ps p) := hbi.1 rfl
       have HN' := hide ((unhide HN).yes hbY hp hw)
       clear hbi hw hbY CW' HN HX hp
       go_wp2_with fail
       go_roundg ((plL inn ps.length).length - (i + 1))
       case measure => omega
       case rel => exact ⟨i + 1, g, by go_num, by go_num, by omega, by omega, by omega, HN'⟩
     ·have hie : i = (plL inn ps.length).length := by omega
      have hgl := (unhide HI).1.lt
      have hrowX := own_same (unhide HR).2.2.1 (fun b e => hfx.blk b (World.ownsRow.lt (unhide HR).2.2.1 b e).2 (by have := (World.ownsRow.lt (unhide HR).2.2.1 b e).1; omega))
      have HX := hide (And.intro (row_lo2 hrowX (unhide HI).2.1.size) hbX)
      clear hrowX hfx hbX
      by_cases hg0 : g = 0
      ·subst hg0
       have HE := hide (show Clo ps inn ∧ (∀ G, Clo ps G → ∀ p, p < ps.length → G p = true → inn p = true) ∧ ∀ p, inn p = true → p < ps.length from
        ⟨Gb.stop fun j q hq => (unhide HN).none_ rfl j q (by have := (List.getElem?_eq_some_iff.1 hq).1; omega) hq, (unhide HI).2.2.big, (unhide HI).2.2.lt⟩)
       clear HN
       go_wp2_with fail
       go_ret
       exact ⟨_, inn, rfl, (unhide HX).1, unhide HE, (unhide HX).2⟩
      ·have hgb : ((g : Int) == 0) = false := beq_eq_false_iff_ne.2 (by omega)
       have hgn : ¬ (g : Int) = 0 := by omega
       obtain ⟨j, q, hj, hq, hw⟩ := (unhide HN).some_ hg0
       have hqm := (plL_mem inn ps.length q).1 (List.mem_of_getElem? hq)
       have hless : (plL (stay ps inn i) ps.length).length < (plL inn ps.length).length := by
        refine plL_less (fun p hp => stay_sub hp) hqm.1 hqm.2 ?_
        have hm : q ∈ (plL inn ps.length).take i := by
         rw [List.take_of_length_le (by omega)]
         exact List.mem_of_getElem? hq
        unfold stay
        simp [hm, hw]
       have HI' := hide (show Bb wr w.heap.size ps.length (stay ps inn i) ∧ RowKit.Below w.heap.size w wr ∧ Gb ps (stay ps inn i) from ⟨(unhide HN).b, (unhide HX).2, (unhide HI).2.2.next i⟩)
       clear HN hj hq hw hqm HX
       go_wp2_with fail
       go_roundg ((plL (stay ps inn i) ps.length).length + 1)
       case measure => omega
       case rel => exact ⟨_, Nat.le_refl _, HI'⟩
end
end Go.Proofs.YtdkpglmdncjnbaaGreatDoor
