import Derived.Test.YtjflnpcpnoccjaaGrT
namespace Go.Proofs.Ytjflnpcpnoccjaa
open Go.RowKit Go.Shelf

theorem gst_mem (ls : Nat → List Nat) (t k j x : Nat) : x ∈ gst ls t k j ↔ x ∈ ls j ∨ (j = k ∧ x = t) := by
  unfold gst
  by_cases e : j = k
  · subst e
    rw [if_pos rfl]
    by_cases q : (ls j).getLast? = some t
    · rw [if_pos q]
      constructor
      · exact .inl
      · rintro (h | ⟨_, rfl⟩)
        · exact h
        · exact List.mem_of_getLast? q
    · rw [if_neg q, List.mem_append, List.mem_singleton]
      simp
  · rw [if_neg e]
    simp [e]
theorem gth_mem_from {n : Nat} (ps : List (Ky n)) : ∀ (ls : Nat → List Nat) (x j : Nat), x ∈ ps.foldl (fun ls x => gst ls x.1.1 x.1.2) ls j ↔ x ∈ ls j ∨ ∃ p, p ∈ ps ∧ p.1 = (x, j) := by
  induction ps with
  | nil => simp
  | cons p r ih =>
    intro ls x j
    rw [List.foldl_cons, ih, gst_mem]
    constructor
    · rintro ((h | ⟨rfl, rfl⟩) | ⟨p2, h1, h2⟩)
      · exact .inl h
      · exact .inr ⟨p, List.mem_cons_self, rfl⟩
      · exact .inr ⟨p2, List.mem_cons_of_mem _ h1, h2⟩
    · rintro (h | ⟨p2, h1, h2⟩)
      · exact .inl (.inl h)
      · rcases List.mem_cons.1 h1 with rfl | h1
        · refine .inl (.inr ?_)
          rw [h2]
          exact ⟨rfl, rfl⟩
        · exact .inr ⟨p2, h1, h2⟩
theorem gth_mem {n : Nat} (ps : List (Ky n)) (x j : Nat) : x ∈ gth ps j ↔ ∃ p, p ∈ ps ∧ p.1 = (x, j) := by
  unfold gth
  rw [gth_mem_from]
  simp
theorem uptE_mem (N : Nat) (ln : Nat → Nat) (L : Nat → Nat → Int) (p : Ky N) : p ∈ uptE N ln L N 0 ↔ ∃ u i, u < N ∧ i < ln u ∧ pk N L u i = some p := by
  unfold uptE
  simp only [List.range_zero, List.filterMap_nil, List.append_nil, List.mem_flatMap, List.mem_filterMap, List.mem_range]
  constructor
  · rintro ⟨u, hu, i, hi, e⟩
    exact ⟨u, i, hu, hi, e⟩
  · rintro ⟨u, i, hu, hi, e⟩
    exact ⟨u, hu, i, hi, e⟩
/-- WHO NEEDS A NODE. -/
def tw (N : Nat) (ln : Nat → Nat) (L : Nat → Nat → Int) : Nat → List Nat := gth (uptE N ln L N 0)
theorem tw_mem {N : Nat} {ln : Nat → Nat} {L : Nat → Nat → Int} (hr : rgt N ln L = true) (hN : N ≤ 1048576) (u v : Nat) : u ∈ tw N ln L v ↔ Eg N ln L u v := by
  unfold tw
  rw [gth_mem]
  constructor
  · rintro ⟨p, h1, h2⟩
    obtain ⟨u2, i, hu, hi, e⟩ := (uptE_mem N ln L p).1 h1
    obtain ⟨x, hx, ex⟩ := rgt_at hr hu hi
    obtain ⟨hp, e2⟩ := pk_some (N := N) (L := L) (u := u2) (i := i) (by omega) hx ex
    rw [e2] at e
    injection e with e
    rw [← e] at h2
    have h3 : (u2, x) = (u, v) := h2
    injection h3 with a1 a2
    subst a1
    subst a2
    exact ⟨hu, i, hi, ex⟩
  · rintro ⟨hu, i, hi, e⟩
    obtain ⟨x, hx, ex⟩ := rgt_at hr hu hi
    obtain rfl : x = v := by omega
    obtain ⟨hp, e2⟩ := pk_some (N := N) (L := L) (u := u) (i := i) (by omega) hx ex
    exact ⟨_, (uptE_mem N ln L _).2 ⟨u, i, hu, hi, e2⟩, rfl⟩
def twL (N : Nat) (ln : Nat → Nat) (L : Nat → Nat → Int) (v j : Nat) : Int := (((tw N ln L v).getD j 0 : Nat) : Int)
def twN (N : Nat) (ln : Nat → Nat) (L : Nat → Nat → Int) (v : Nat) : Nat := (tw N ln L v).length
theorem tw_eg {N : Nat} {ln : Nat → Nat} {L : Nat → Nat → Int} (hr : rgt N ln L = true) (hN : N ≤ 1048576) (u v : Nat) : Eg N (twN N ln L) (twL N ln L) v u ↔ Eg N ln L u v := by
  constructor
  · rintro ⟨hv, j, hj, e⟩
    rw [← tw_mem hr hN]
    have h1 : (tw N ln L v).getD j 0 = (tw N ln L v)[j] := by
      unfold twN at hj
      simp [hj]
    have h2 : (tw N ln L v)[j]'hj = u := by
      have h3 : (((tw N ln L v).getD j 0 : Nat) : Int) = (u : Int) := e
      rw [h1] at h3
      omega
    rw [← h2]
    exact List.getElem_mem hj
  · intro h
    have hv := Eg.lt hr h
    rw [← tw_mem hr hN] at h
    obtain ⟨j, hj, e⟩ := List.getElem_of_mem h
    refine ⟨hv, j, hj, ?_⟩
    show (((tw N ln L v).getD j 0 : Nat) : Int) = (u : Int)
    simp [hj, e]
theorem tw_rgt {N : Nat} {ln : Nat → Nat} {L : Nat → Nat → Int} (hr : rgt N ln L = true) (hN : N ≤ 1048576) : rgt N (twN N ln L) (twL N ln L) = true := by
  refine (bAll_iff _ _).2 fun v hv => (bAll_iff _ _).2 fun j hj => ?_
  rw [nd_iff]
  have h1 : Eg N (twN N ln L) (twL N ln L) v ((tw N ln L v).getD j 0) := ⟨hv, j, hj, rfl⟩
  have h2 := ((tw_eg hr hN _ _).1 h1).1
  show 0 ≤ (((tw N ln L v).getD j 0 : Nat) : Int) ∧ (((tw N ln L v).getD j 0 : Nat) : Int) < (N : Int)
  omega
theorem Gs.rr {lo n R : Nat} {ls : Nat → List Nat} {ga : Nat → Option Addr} {gc : Nat → Nat} {W : World} (h : Gs lo n R ls ga gc W) : Rr W (some ⟨R, 0, none⟩) n (fun v => (ls v).length) (fun v j => (((ls v).getD j 0 : Nat) : Int)) := by
  refine ⟨ga, gc, h.row.rv, fun k hk => ?_⟩
  have h1 := h.own k hk
  rw [tV_vl, nI_len] at h1
  refine (Rv.of_owns h1).congr fun j hj => ?_
  unfold iv nI
  congr 1
  simp [hj]
set_option maxRecDepth 100000 in
set_option maxHeartbeats 4000000 in
theorem turned_any {N : Nat} {ln : Nat → Nat} {L : Nat → Nat → Int} (hr : rgt N ln L = true) (hN : N ≤ 1048576) (hln : ∀ k, k < N → ln k ≤ 1048576) {na : Option Addr} {nc : Nat} {w : World} (hR : Rr w na N ln L) :
    Calls Try.prog 48 #[.slice na N nc] w fun x w' => ∃ R ga gc, x = .returned (.slice (some ⟨R, 0, none⟩) N N) ∧ w.heap.size ≤ R ∧ Gs (R + 2) N R (tw N ln L) ga gc w' ∧ Below w.heap.size w w' := by
  obtain ⟨W1, hW1⟩ : ∃ W, W = w.alloc (.cells #[.slice na N nc] 22) := ⟨_, rfl⟩
  have hb1 : Below w.heap.size w W1 := by rw [hW1]; exact al w _
  have hc1 : W1.cell? ⟨w.heap.size, 0, none⟩ = some (.slice na N nc) := by rw [hW1]; exact (cell_blk (heap_new _ _) 0).1
  have c1 := hide ((callsIn_wide (n := 3)).1 (edges_in N na nc 3 w))
  have c2 := hide ((callsIn_wide (n := 4)).1 (gathered_in hN (uptE N ln L N 0) (Nb := 1099511627776) (Nat.le_refl _) 4 (by omega) 70 #[.pointer (some ⟨w.heap.size, 0, none⟩)] (enters_of Try.func70 (by kernel_rfl) rfl) W1
    (fun l J Jx W hW _ _ hY h0 => edges1_in hr hN hln 3 (by omega) l w.heap.size hc1 (hR.later hb1) J Jx hY W hW h0)))
  have HB1 := hide hb1
  have HS := hide (show w.heap.size ≤ W1.heap.size from hb1.size)
  have HW1 := hide hW1
  clear hR hr hln hc1 hb1 hW1
  go_enter Try.func48, Try.ntmps48
  go_wp2_with (first | (go_at_call 61; refine (unhide c1).mono ?_; rintro x1 w1 ⟨rfl, hw1⟩; rw [← unhide HW1] at hw1; rw [hw1]; clear hw1 w1) | (go_at_call 60; refine (unhide c2).mono ?_; rintro x2 w2 ⟨R, ga, gc, rfl, hR2, hg2, hb2⟩; have HX := hide (And.intro (Nat.le_trans (unhide HS) hR2) (And.intro hg2 (bl_t (unhide HB1) hb2))); clear hR2 hg2 hb2))
  go_ret
  exact ⟨R, ga, gc, rfl, (unhide HX).1, (unhide HX).2.1, (unhide HX).2.2⟩
end Go.Proofs.Ytjflnpcpnoccjaa
