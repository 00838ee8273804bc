import Derived.Test.YtkpkpebljkcmkaaDoorMfT
namespace Go.Proofs.YtkpkpebljkcmkaaDoor
open Go.RowKit

theorem Lm.pks {w wr : World} {g : Nat} {ps : List Pk} (h : Lm w wr g ps) (c : Nat) : Pks wr (.slice (some ⟨g, 0, none⟩) ps.length c) ps :=
  ⟨_, c, rfl, fun _ => ⟨g, 0, rfl, h.lt, fun i p hi => by
    obtain ⟨hil, rfl⟩ := List.getElem?_eq_some_iff.1 hi
    obtain ⟨cs, B, k1, k2, k3, _⟩ := h.each i hil
    exact ⟨cs, _, by rw [Nat.zero_add]; exact k1, k2, k3.rws _⟩⟩⟩
theorem Lm.later {w wr w2 : World} {g : Nat} {ps : List Pk} (h : Lm w wr g ps) (hb : Below wr.heap.size wr w2) : Lm w w2 g ps :=
  ⟨fun t => (hb.frozen (p := ⟨g, t, none⟩) h.lt).trans (h.fr t), Nat.lt_of_lt_of_le h.lt hb.size, h.ge, bl_t (h.bw.mono (Nat.le_refl _)) hb, cell_later h.mrk hb, fun j hj => by
    obtain ⟨cs, B, k1, k2, k3, k4⟩ := h.each j hj
    exact ⟨cs, B, rangeAt_later k1 h.lt hb, k2, k3.later hb, k4⟩⟩
/-- WHAT IS WRITTEN OVER. -/
theorem Lm.wr {w wr : World} {g : Nat} {ps : List Pk} (h : Lm w wr g ps) {i : Nat} (hi : i < ps.length) : ∃ B, g < B ∧ wr.cell? ⟨g, i * 43 + 7, none⟩ = some (.slice (some ⟨B, 0, none⟩) (ps[i]).fs.length ((ps[i]).fs.length + 1)) ∧ (∀ t, wr.frozen? ⟨B, t, none⟩ = false) ∧ ∀ k (hk : k < (ps[i]).fs.length), wr.cell? ⟨B, k * 34, none⟩ = some (.string (pth (ps[i]).fs[k])) ∧ (pth (ps[i]).fs[k]).size ≤ maxLen := by
  obtain ⟨cs, B, k1, k2, k3, k4⟩ := h.each i hi
  refine ⟨B, k4, k1 7 _ k2.c7, fun t => k3.blk.fr t, fun k hk => ?_⟩
  obtain ⟨b, o, e, _, hok, hr⟩ := (k3.rws 0).at hk
  cases e
  obtain ⟨s, hs0, hsp, hsz⟩ := hok.path2
  have := hr 0 _ hs0
  rw [Nat.zero_add, Nat.add_zero] at this
  rw [hsp]
  exact ⟨this, hsz⟩
end Go.Proofs.YtkpkpebljkcmkaaDoor
