import Derived.Test.YtjnbnndocinicaaGreatDoorWvF
namespace Go.Proofs.YtjnbnndocinicaaGreatDoor
open Go.RowKit Go.Maps

theorem five {W : World} {g : Nat} {v0 v1 v2 v3 v4 : Value} {t : TypeId} (h : W.heap[g]? = some (.cells #[v0, v1, v2, v3, v4] t (0, 0))) : W.cell? ⟨g, 0, none⟩ = some v0 ∧ W.cell? ⟨g, 1, none⟩ = some v1 ∧ W.cell? ⟨g, 2, none⟩ = some v2 ∧ W.cell? ⟨g, 3, none⟩ = some v3 ∧ W.cell? ⟨g, 4, none⟩ = some v4 :=
  ⟨(cell_blk h 0).1, (cell_blk h 1).1, (cell_blk h 2).1, (cell_blk h 3).1, (cell_blk h 4).1⟩
theorem row_lo2 {w : World} {lo lo2 e size n : Nat} {v : Value} {xs : List Value} (h : w.ownsRow lo e size v n xs) (hl : lo2 ≤ lo) : w.ownsRow lo2 e size v n xs := by
  refine ⟨h.1, ?_⟩
  rcases h.2 with h | ⟨g, cap, cur, e, h1, h2, h3⟩
  · exact .inl h
  · exact .inr ⟨g, cap, cur, e, Nat.le_trans hl h1, h2, h3⟩
theorem cut_lt {L A rr : List Nat} {p : Nat} (h : L = A ++ rr) (hr : ∀ x ∈ rr, p ≤ x) (ha : ∀ x ∈ A, x < p) {j x : Nat} (hx : L[j]? = some x) : (x < p → A[j]? = some x) ∧ (p ≤ x → A.length ≤ j) := by
  subst h
  by_cases hj : j < A.length
  · rw [List.getElem?_append_left hj] at hx
    exact ⟨fun _ => hx, fun hp => absurd (ha x (List.mem_of_getElem? hx)) (by omega)⟩
  · rw [List.getElem?_append_right (by omega)] at hx
    exact ⟨fun hp => absurd (hr x (List.mem_of_getElem? hx)) (by omega), fun _ => by omega⟩
theorem map_take {β : Type} (f : Nat → β) {A : List Nat} {j x : Nat} (h : A[j]? = some x) : (A.take (j + 1)).map f = (A.take j).map f ++ [f x] := by
  rw [List.take_add_one, h, List.map_append]; rfl
set_option maxRecDepth 100000 in
set_option maxHeartbeats 8000000 in
theorem twice_any {w : World} {b1 : Nat} {v d2 av fv : Value} {xs : List Pd} {ps : List Pk} {base : Nat} {H1 : Nm → Option Hd} {k1 p : Nat} {q : Pk} (m1 : Mi w base (.map (some b1)) H1 (nmP xs xs.length) k1) (hs : Sim xs ps) (sm : SmP ps) (pk : Pkl w v ps) (hq : ps[p]? = some q) :
    Calls Tryz.prog 33 #[.agg #[v, .map (some b1), d2, av, fv], .int .i64 (p : Int)] w fun e w' => ∃ r, e = .returned r ∧ w'.ownsRow w.heap.size 59 6 r (twF ps p q).length (ftC (twF ps p q)) ∧ RowKit.Below w.heap.size w w' := by
  obtain ⟨i0, hi, hz0, hz1, hz2⟩ := info_parts2 infoFt
  have hpl := (List.getElem?_eq_some_iff.1 hq).1
  have hpn : (p : Int) < (ps.length : Int) := by omega
  obtain ⟨vb, vo, vc, cs, d, r, c, pv, f, rfl, hvb, hr, hpc, _⟩ := pk.at2 hq
  obtain ⟨W1, hW1⟩ : ∃ W, W = w.alloc (.cells #[.slice (some ⟨vb, vo, none⟩) ps.length vc, .map (some b1), d2, av, fv] 62) := ⟨_, rfl⟩
  have hb1 : RowKit.Below w.heap.size w W1 := by rw [hW1]; exact (Below.refl _ w).alloc (Nat.le_refl _) _
  have hx1 : W1.heap[w.heap.size]? = some (.cells #[.slice (some ⟨vb, vo, none⟩) ps.length vc, .map (some b1), d2, av, fv] 62 (0, 0)) := by rw [hW1]; exact World.alloc_heap_new w _
  have hqn := (sm.z q (List.mem_of_getElem? hq)).1
  obtain ⟨a1, d1, e1⟩ : ∃ a c, hv0 (H1 q.nm) = .slice a (nmP xs xs.length q.nm).length c := by
    obtain ⟨f, e, en⟩ := slice_hd (m1.own q.nm)
    exact ⟨f.a, f.c, by rw [e, ← en]; rfl⟩
  have o1 := m1.own q.nm
  rw [e1] at o1
  have HLK := hide (show ∀ X, RowKit.Below w.heap.size w X → (Instr.lookup 42 (.map (some b1)) (.string q.nm) false).run Tryz.prog X = .ok (.slice a1 (nmP xs xs.length q.nm).length d1) X from fun X hX => by rw [← e1]; exact look1 (m1.later hX).dm hqn)
  have HC0 := hide (show ∀ X, RowKit.Below w.heap.size w X → X.cell? ⟨vb, vo + p * 43, none⟩ = some (.string q.nm) from fun X hX => (hX.cell (p := ⟨vb, vo + p * 43, none⟩) hvb).trans (by have := hr 0 _ hpc.c0; rwa [Nat.add_zero] at this))
  have HF := hide (show ∀ X, RowKit.Below w.heap.size w X → ∀ (i : Nat) (q2 : Pk), ps[i]? = some q2 → Calls Tryz.prog 47 #[.agg #[.slice (some ⟨vb, vo, none⟩) ps.length vc, .map (some b1), d2, av, fv], .int .i64 1, .int .i64 (p : Int), .int .i64 (i : Int), .int .i64 (i : Int)] X fun e w' => e = .returned (Ft.v (twT ps q i)) ∧ RowKit.Below X.heap.size X w' from fun X hX i q2 h2 => by
    have := fault_two (d1 := .map (some b1)) (d2 := d2) (av := av) (fv := fv) 1 (i : Int) (pk.later hX) hq h2
    rw [show twT ps q i = ⟨1, q.nm, q.vr, i, q2.nm, q2.vr⟩ from by unfold twT nmA vrA; rw [h2]]
    exact this)
  rw [nmP_eq hs] at o1 HLK
  rw [hs.1] at o1 HLK
  obtain ⟨rr, hcut, hrest⟩ := cut_at (isN ps q.nm) (show p ≤ ps.length by omega)
  have HMEM := hide (show ∀ x ∈ (List.range ps.length).filter (isN ps q.nm), x < ps.length from fun x hx => List.mem_range.1 ((List.mem_filter.1 hx).1))
  have hll : ((List.range ps.length).filter (isN ps q.nm)).length ≤ ps.length := by
    refine Nat.le_trans (List.length_filter_le _ _) ?_
    rw [List.length_range]; exact Nat.le_refl _
  unfold twF
  have hAl : ((List.range p).filter (isN ps q.nm)).length ≤ p := by
    refine Nat.le_trans (List.length_filter_le _ _) ?_
    rw [List.length_range]; exact Nat.le_refl _
  have HALT := hide (show ∀ x ∈ (List.range p).filter (isN ps q.nm), x < p from fun x hx => List.mem_range.1 ((List.mem_filter.1 hx).1))
  have hsl := sm.l
  obtain ⟨L, hL⟩ : ∃ L, L = (List.range ps.length).filter (isN ps q.nm) := ⟨_, rfl⟩
  obtain ⟨A, hA⟩ : ∃ L, L = (List.range p).filter (isN ps q.nm) := ⟨_, rfl⟩
  rw [← hL] at o1 HLK hcut HMEM hll
  rw [← hA] at hcut HALT hAl ⊢
  obtain ⟨N, hN⟩ : ∃ N, N = L.length := ⟨_, rfl⟩
  rw [← hN] at o1 HLK hll
  have HN := hide hN
  have HO := hide o1
  have HCUT := hide hcut
  have HREST := hide hrest
  have HPS := hide (fun i (h : i < ps.length) => (⟨_, List.getElem?_eq_getElem h⟩ : ∃ q2, ps[i]? = some q2))
  have HST := hide (Fs.start W1)
  have HW1 := hide (And.intro hb1 hx1)
  have HS := hide (show ∀ X, RowKit.Below W1.heap.size W1 X → X.cell? ⟨w.heap.size, 0, none⟩ = some (.slice (some ⟨vb, vo, none⟩) ps.length vc) ∧ X.cell? ⟨w.heap.size, 1, none⟩ = some (.map (some b1)) ∧ X.cell? ⟨vb, vo + p * 43, none⟩ = some (.string q.nm) ∧ (Instr.lookup 42 (.map (some b1)) (.string q.nm) false).run Tryz.prog X = .ok (.slice a1 N d1) X from fun X hX => by
    obtain ⟨s0, s1, _, _, _⟩ := five ((hX.block _ (blk_lt hx1)).trans hx1)
    exact ⟨s0, s1, unhide HC0 X (bl_t hb1 hX), unhide HLK X (bl_t hb1 hX)⟩)
  have B0 := hide ((Below.refl W1.heap.size W1).drew)
  clear m1 hs sm pk hq hr hpc e1 o1 hcut hrest hb1 hx1 hL hA hN hqn
  go_enter Tryz.func33, Tryz.ntmps33
  go_wp2_with fail
  rw [← hW1]
  clear hW1
  go_region_held3 (fun w' => w'.cell? ⟨w.heap.size, 0, none⟩ = some (.slice (some ⟨vb, vo, none⟩) ps.length vc) ∧ w'.cell? ⟨w.heap.size, 1, none⟩ = some (.map (some b1)) ∧ w'.cell? ⟨vb, vo + p * 43, none⟩ = some (.string q.nm) ∧ (Instr.lookup 42 (.map (some b1)) (.string q.nm) false).run Tryz.prog w' = .ok (.slice a1 N d1) w') (first | exact unhide HS _ (unhide B0)) (fail)
  have HST2 := hide ((unhide HST).later (unhide B0))
  have HAFT := hide (show ∀ X, RowKit.Below W1.heap.size W1 X → X.heap[w.heap.size]? = some (.cells #[.slice (some ⟨vb, vo, none⟩) ps.length vc, .map (some b1), d2, av, fv] 62 (0, 0)) from fun X hX => (hX.block _ (blk_lt (unhide HW1).2)).trans (unhide HW1).2)
  clear HST HS HC0 HLK
  go_wp2_with fail
  go_loopw [5, 20] (fun sv jv wr => ∃ j : Nat, jv = .int .i64 j ∧ j ≤ A.length ∧ Hid (Fs W1 wr sv ((A.take j).map (twT ps q)))) (fun _ jv _ => N - (intOf jv).toNat)
  case atStart => exact ⟨0, rfl, Nat.zero_le _, HST2⟩
  case round =>
    clear HST2
    obtain ⟨j, rfl, hjA, HU⟩ := hrel
    have hu := unhide HU
    by_cases hlt : j < N
    · have hlt2 : (j : Int) < (N : Int) := by omega
      have hjp : j < L.length := by have := unhide HN; omega
      obtain ⟨g, rfl, cg⟩ := row_at (unhide HO) (bl_t (unhide HW1).1 hu.bw) hjp
      have hx : L[j]? = some L[j] := List.getElem?_eq_getElem hjp
      generalize L[j] = x at *
      have hcl := cut_lt (unhide HCUT) (unhide HREST) (unhide HALT) hx
      have hxl := unhide HMEM x (List.mem_of_getElem? hx)
      obtain ⟨q2, hq2⟩ := unhide HPS x hxl
      have hx5 := unhide HAFT wr hu.bw
      obtain ⟨s0, s1, s2, s3, s4⟩ := five hx5
      have hzw : w.heap.size < wr.heap.size := blk_lt hx5
      have C := hide (unhide HF wr (bl_t (unhide HW1).1 hu.bw) x q2 hq2)
      clear hx5 hjp hq2
      by_cases hxp : x < p
      · have hge : ¬ ((x : Int) ≥ (p : Int)) := by omega
        have hAj := hcl.1 hxp
        have hAj2 := (List.getElem?_eq_some_iff.1 hAj).1
        have HE := hide (map_take (twT ps q) hAj)
        have hLn : ((A.take j).map (twT ps q)).length ≤ p := by rw [List.length_map, List.length_take]; omega
        clear hcl hAj hx
        generalize (A.take j).map (twT ps q) = l at *
        go_wp2_with (first | (go_at_call 47; refine (unhide C).mono ?_; rintro e w5 ⟨rfl, hb⟩; have HU3 := hide (hu.later hb); clear hb C; have hbz := (unhide HU3).bw.size) | (at_builtin; go_must (refine wpList_append_own _ rfl _ _ 56 rfl W1.heap.size 59 i0 (.agg #[.int .i64 0, .string ⟨#[]⟩, .string ⟨#[]⟩, .int .i64 0, .string ⟨#[]⟩, .string ⟨#[]⟩]) 6 80 Tryz.underlying56 hi hz0 hz1 hz2 rfl (by decide) _ _ _ rfl ((unhide HU3).row.alloc _) ⟨w5.heap.size, 0, none⟩ 1 1 (twT ps q x).cs rfl rfl (news_ft w5 (twT ps q x) 59) (one_ft _) (by unfold maxLen; omega) (by omega) (by simp; omega) ?_); intro v' w9 hown hgrow _; have HU9 := hide ((unhide HU3).grow hown hgrow); clear hown hgrow))
        go_roundw
        case rel => exact ⟨j + 1, by go_num, by omega, by rw [unhide HE]; exact HU9⟩
        case measure => simp [intOf]; omega
      · have hge : (x : Int) ≥ (p : Int) := by omega
        have HE := hide (show A.take j = A from List.take_of_length_le (hcl.2 (by omega)))
        clear hcl hx C
        go_wp2_with fail
        go_ret
        refine ⟨_, rfl, ?_, bl_t (unhide HW1).1 hu.bw⟩
        have := hu.row
        rw [unhide HE] at this
        exact row_lo2 this (unhide HW1).1.size
    · have HE := hide (show A.take j = A from List.take_of_length_le (by
        have h1 := unhide HN
        have h2 : L.length = A.length + rr.length := by rw [unhide HCUT, List.length_append]
        omega))
      go_wp2_with fail
      go_ret
      refine ⟨_, rfl, ?_, bl_t (unhide HW1).1 hu.bw⟩
      have := hu.row
      rw [unhide HE] at this
      exact row_lo2 this (unhide HW1).1.size
end Go.Proofs.YtjnbnndocinicaaGreatDoor
