import Derived.Test.YtjflnpcpnoccjaaTjU
import Derived.Test.YtjflnpcpnoccjaaGrW
namespace Go.Proofs.Ytjflnpcpnoccjaa
open Go.RowKit

theorem srt_ext : ∀ {l m : List Nat}, l.Pairwise (· < ·) → m.Pairwise (· < ·) → (∀ x, x ∈ l ↔ x ∈ m) → l = m
  | [], [], _, _, _ => rfl
  | [], y :: m, _, _, h => absurd ((h y).2 List.mem_cons_self) List.not_mem_nil
  | x :: l, [], _, _, h => absurd ((h x).1 List.mem_cons_self) List.not_mem_nil
  | x :: l, y :: m, hl, hm, h => by
    obtain ⟨l1, l2⟩ := List.pairwise_cons.1 hl
    obtain ⟨m1, m2⟩ := List.pairwise_cons.1 hm
    have e : x = y := by
      have h1 := (h x).1 List.mem_cons_self
      have h2 := (h y).2 List.mem_cons_self
      rcases List.mem_cons.1 h1 with q | q
      · exact q
      · rcases List.mem_cons.1 h2 with r | r
        · exact r.symm
        · have := m1 x q; have := l1 y r; omega
    subst e
    rw [srt_ext l2 m2 fun z => ?_]
    constructor
    · intro hz
      rcases List.mem_cons.1 ((h z).1 (List.mem_cons_of_mem _ hz)) with q | q
      · subst q; exact absurd (l1 z hz) (Nat.lt_irrefl _)
      · exact q
    · intro hz
      rcases List.mem_cons.1 ((h z).2 (List.mem_cons_of_mem _ hz)) with q | q
      · subst q; exact absurd (m1 z hz) (Nat.lt_irrefl _)
      · exact q
/-- THE EDGES BETWEEN THE PARTS, AS THEY COME. -/
noncomputable def bk (N : Nat) (ln : Nat → Nat) (L : Nat → Nat → Int) (e : Ky N) : Option (Ky (pc N ln L)) :=
  if h : pn N ln L e.1.1 < 9007199254740992 ∧ pn N ln L e.1.2 < pc N ln L then (if pn N ln L e.1.1 = pn N ln L e.1.2 then none else some ⟨(pn N ln L e.1.1, pn N ln L e.1.2), h⟩) else none
noncomputable def bwE (N : Nat) (ln : Nat → Nat) (L : Nat → Nat → Int) (es : List (Ky N)) : List (Ky (pc N ln L)) := es.filterMap (bk N ln L)
theorem bk_some {N : Nat} {ln : Nat → Nat} {L : Nat → Nat → Int} {e : Ky N} {p : Ky (pc N ln L)} (h : bk N ln L e = some p) : p.1 = (pn N ln L e.1.1, pn N ln L e.1.2) ∧ pn N ln L e.1.1 ≠ pn N ln L e.1.2 := by
  unfold bk at h
  split at h
  · split at h
    · cases h
    · rename_i q
      injection h with h
      rw [← h]
      exact ⟨rfl, q⟩
  · cases h
theorem bk_is {N : Nat} {ln : Nat → Nat} {L : Nat → Nat → Int} {e : Ky N} (hN : N ≤ 1048576) (h1 : e.1.1 < N) (hne : pn N ln L e.1.1 ≠ pn N ln L e.1.2) : ∃ h, bk N ln L e = some ⟨(pn N ln L e.1.1, pn N ln L e.1.2), h⟩ := by
  have a1 := pn_lt N ln L h1
  have a2 := pc_le N ln L
  have a3 := pn_lt N ln L e.2.2
  have h : pn N ln L e.1.1 < 9007199254740992 ∧ pn N ln L e.1.2 < pc N ln L := ⟨by omega, a3⟩
  refine ⟨h, ?_⟩
  unfold bk
  rw [dif_pos h, if_neg hne]
/-- Which parts need a part, as they are gathered. -/
noncomputable def gw (N : Nat) (ln : Nat → Nat) (L : Nat → Nat → Int) : Nat → List Nat := gth (bwE N ln L (uptE N ln L N 0))
theorem gw_mem {N : Nat} {ln : Nat → Nat} {L : Nat → Nat → Int} (hr : rgt N ln L = true) (hN : N ≤ 1048576) (p q : Nat) : p ∈ gw N ln L q ↔ p ≠ q ∧ bt N ln L p q = true := by
  unfold gw
  rw [gth_mem, bt_iff]
  constructor
  · rintro ⟨x, hx, e⟩
    obtain ⟨y, hy, ey⟩ := List.mem_filterMap.1 hx
    obtain ⟨h1, h2⟩ := bk_some ey
    rw [h1] at e
    injection e with e1 e2
    obtain ⟨u, i, hu, hi, epk⟩ := (uptE_mem N ln L y).1 hy
    have hE : Eg N ln L y.1.1 y.1.2 := by
      rw [← tw_mem hr hN]
      exact (gth_mem _ _ _).2 ⟨y, hy, rfl⟩
    have hu2 := pk_fst epk
    refine ⟨by rw [← e1, ← e2]; exact h2, y.1.1, y.1.2, by rw [hu2]; exact hu, y.2.2, e1, e2, hE⟩
  · rintro ⟨hne, x, y, hx, hy, rfl, rfl, hE⟩
    have h1 : x ∈ tw N ln L y := (tw_mem hr hN x y).2 hE
    obtain ⟨e, he, ee⟩ := (gth_mem _ _ _).1 h1
    have e1 : e.1.1 = x := by rw [ee]
    have e2 : e.1.2 = y := by rw [ee]
    obtain ⟨hh, hb⟩ := bk_is (N := N) (ln := ln) (L := L) (e := e) hN (by rw [e1]; exact hx) (by rw [e1, e2]; exact hne)
    exact ⟨_, List.mem_filterMap.2 ⟨e, he, hb⟩, by show (pn N ln L e.1.1, pn N ln L e.1.2) = _; rw [e1, e2]⟩
noncomputable def gwN (N : Nat) (ln : Nat → Nat) (L : Nat → Nat → Int) (q : Nat) : Nat := (gw N ln L q).length
noncomputable def gwL (N : Nat) (ln : Nat → Nat) (L : Nat → Nat → Int) (q j : Nat) : Int := (((gw N ln L q).getD j 0 : Nat) : Int)
theorem gw_lt {N : Nat} {ln : Nat → Nat} {L : Nat → Nat → Int} (hr : rgt N ln L = true) (hN : N ≤ 1048576) {p q : Nat} (h : p ∈ gw N ln L q) : p < pc N ln L := by
  obtain ⟨_, hb⟩ := (gw_mem hr hN p q).1 h
  obtain ⟨x, y, hx, _, e, _⟩ := (bt_iff N ln L p q).1 hb
  rw [← e]
  exact pn_lt N ln L hx
theorem gw_rgt {N : Nat} {ln : Nat → Nat} {L : Nat → Nat → Int} (hr : rgt N ln L = true) (hN : N ≤ 1048576) : rgt (pc N ln L) (gwN N ln L) (gwL N ln L) = true := by
  refine (bAll_iff _ _).2 fun v hv => (bAll_iff _ _).2 fun j hj => ?_
  rw [nd_iff]
  have h1 : (gw N ln L v).getD j 0 ∈ gw N ln L v := by
    have : (gw N ln L v).getD j 0 = (gw N ln L v)[j]'hj := by
      unfold gwN at hj
      simp [hj]
    rw [this]
    exact List.getElem_mem hj
  have h2 := gw_lt hr hN h1
  show 0 ≤ (((gw N ln L v).getD j 0 : Nat) : Int) ∧ (((gw N ln L v).getD j 0 : Nat) : Int) < (pc N ln L : Int)
  omega
theorem gw_eg {N : Nat} {ln : Nat → Nat} {L : Nat → Nat → Int} (q p : Nat) (hq : q < pc N ln L) : Eg (pc N ln L) (gwN N ln L) (gwL N ln L) q p ↔ p ∈ gw N ln L q := by
  constructor
  · rintro ⟨_, j, hj, e⟩
    have h1 : (gw N ln L q).getD j 0 = (gw N ln L q)[j]'hj := by
      unfold gwN at hj
      simp [hj]
    have h3 : (((gw N ln L q).getD j 0 : Nat) : Int) = (p : Int) := e
    have h2 : (gw N ln L q)[j]'hj = p := by rw [h1] at h3; omega
    rw [← h2]
    exact List.getElem_mem hj
  · intro h
    obtain ⟨j, hj, e⟩ := List.getElem_of_mem h
    refine ⟨hq, j, hj, ?_⟩
    show (((gw N ln L q).getD j 0 : Nat) : Int) = (p : Int)
    simp [hj, e]
/-- THE CONDENSED GRAPH, as the program makes it and as it is defined. -/
theorem tw_gw {N : Nat} {ln : Nat → Nat} {L : Nat → Nat → Int} (hr : rgt N ln L = true) (hN : N ≤ 1048576) (p : Nat) : tw (pc N ln L) (gwN N ln L) (gwL N ln L) p = cdL N ln L p := by
  refine srt_ext (tw_srt _ _ _ _) ?_ fun q => ?_
  · unfold cdL cL
    exact List.Pairwise.sublist List.filter_sublist List.pairwise_lt_range
  · rw [tw_mem (gw_rgt hr hN) (Nat.le_trans (pc_le N ln L) hN)]
    unfold cdL cL
    rw [List.mem_filter, List.mem_range]
    constructor
    · intro h
      have hq := h.1
      have h2 := (gw_mem hr hN p q).1 ((gw_eg q p hq).1 h)
      exact ⟨hq, by simp [h2.2]; exact fun e => h2.1 e.symm⟩
    · rintro ⟨hq, h⟩
      have h2 : q ≠ p ∧ bt N ln L p q = true := by simpa using h
      exact (gw_eg q p hq).2 ((gw_mem hr hN p q).2 ⟨fun e => h2.1 e.symm, h2.2⟩)
end Go.Proofs.Ytjflnpcpnoccjaa
