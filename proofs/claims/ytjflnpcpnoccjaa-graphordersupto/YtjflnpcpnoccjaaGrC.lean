import Derived.Test.YtjflnpcpnoccjaaGrB
namespace Go.Proofs.Ytjflnpcpnoccjaa
open Go.RowKit

theorem set_blk {W : World} {g : Nat} {cur : Array Value} {t : TypeId} (h : W.heap[g]? = some (.cells cur t (0, 0))) (j : Nat) (u : Value) : (W.setCell ⟨g, j, none⟩ u).heap[g]? = some (.cells (cur.setIfInBounds j u) t (0, 0)) := by
  obtain ⟨hlt, hk⟩ := Array.getElem?_eq_some_iff.1 h
  show (W.heap.modify g _)[g]? = _
  rw [Array.getElem?_eq_getElem (by rw [Array.size_modify]; exact hlt), Array.getElem_modify_self, hk]
  rfl
theorem set_other (W : World) (g j : Nat) (u : Value) (k : Nat) (hk : k ≠ g) : (W.setCell ⟨g, j, none⟩ u).heap[k]? = W.heap[k]? := Below.heap_setCell W ⟨g, j, none⟩ u k hk
theorem set_size (W : World) (g j : Nat) (u : Value) : (W.setCell ⟨g, j, none⟩ u).heap.size = W.heap.size := by
  show (W.heap.modify g _).size = _
  rw [Array.size_modify]
theorem blk_ne {W : World} {g B : Nat} {c1 c2 : Array Value} {t1 t2 : TypeId} (ht : t1 ≠ t2) (h1 : W.heap[g]? = some (.cells c1 t1 (0, 0))) (h2 : W.heap[B]? = some (.cells c2 t2 (0, 0))) : B ≠ g := by
  rintro rfl
  rw [h1] at h2
  injection h2 with h2
  injection h2 with _ h2
  exact ht h2
/-- ROWS THAT MAY BE WRITTEN. -/
structure Wr (base B N : Nat) (ln g cp : Nat → Nat) (L : Nat → Nat → Int) (W : World) : Prop where
  blk : ∃ cur, W.heap[B]? = some (.cells cur 23 (0, 0)) ∧ (∀ k, k < N → cur[k]? = some (Hd g ln cp k))
  row : ∀ k, k < N → ∃ cur, W.heap[g k]? = some (.cells cur 3 (0, 0)) ∧ ∀ j, j < ln k → cur[j]? = some (.int .i64 (L k j))
  ge : ∀ k, k < N → base ≤ g k
  ne : ∀ i j, i < N → j < N → i ≠ j → g i ≠ g j
theorem Tw.wr {base B N cB : Nat} {ln g cp : Nat → Nat} {L : Nat → Nat → Int} {W : World} (h : Tw base B N cB ln g cp L W) : Wr base B N ln g cp L W := by
  obtain ⟨cur, h1, h2, _⟩ := h.blk
  refine ⟨⟨cur, h1, h2⟩, fun k hk => ?_, fun k hk => (h.row k hk).ge, h.ne⟩
  obtain ⟨c2, h3, h4, _⟩ := (h.row k hk).blk
  exact ⟨c2, h3, h4⟩
theorem Wr.later {base B N : Nat} {ln g cp : Nat → Nat} {L : Nat → Nat → Int} {W W2 : World} (h : Wr base B N ln g cp L W) (hb : Below W.heap.size W W2) : Wr base B N ln g cp L W2 := by
  obtain ⟨cur, h1, h2⟩ := h.blk
  refine ⟨⟨cur, (hb.block _ (blk_lt h1)).trans h1, h2⟩, fun k hk => ?_, h.ge, h.ne⟩
  obtain ⟨c2, h3, h4⟩ := h.row k hk
  exact ⟨c2, (hb.block _ (blk_lt h3)).trans h3, h4⟩
theorem Wr.congr {base B N : Nat} {ln g cp : Nat → Nat} {L L2 : Nat → Nat → Int} {W : World} (h : Wr base B N ln g cp L W) (e : ∀ k, k < N → ∀ j, j < ln k → L k j = L2 k j) : Wr base B N ln g cp L2 W :=
  ⟨h.blk, fun k hk => by obtain ⟨c2, h3, h4⟩ := h.row k hk; exact ⟨c2, h3, fun j hj => by rw [← e k hk j hj]; exact h4 j hj⟩, h.ge, h.ne⟩
theorem Wr.rr {base B N : Nat} {ln g cp : Nat → Nat} {L : Nat → Nat → Int} {W : World} (h : Wr base B N ln g cp L W) : Rr W (some ⟨B, 0, none⟩) N ln L := by
  obtain ⟨cur, h1, h2⟩ := h.blk
  refine ⟨fun k => some ⟨g k, 0, none⟩, cp, fun _ => ⟨B, 0, rfl, blk_lt h1, fun i hi => by rw [Nat.zero_add, (cell_blk h1 i).1]; exact h2 i hi⟩, fun k hk => ?_⟩
  obtain ⟨c2, h3, h4⟩ := h.row k hk
  exact fun _ => ⟨g k, 0, rfl, blk_lt h3, fun i hi => by rw [Nat.zero_add, (cell_blk h3 i).1]; exact h4 i hi⟩
theorem Wr.at {base B N : Nat} {ln g cp : Nat → Nat} {L : Nat → Nat → Int} {W : World} (h : Wr base B N ln g cp L W) {k : Nat} (hk : k < N) : W.cell? ⟨B, k, none⟩ = some (.slice (some ⟨g k, 0, none⟩) (ln k) (cp k)) ∧ (∀ j, j < ln k → W.cell? ⟨g k, j, none⟩ = some (.int .i64 (L k j))) ∧ (∀ j, W.frozen? ⟨g k, j, none⟩ = false) ∧ g k ≠ B ∧ g k < W.heap.size ∧ B < W.heap.size := by
  obtain ⟨cur, h1, h2⟩ := h.blk
  obtain ⟨c2, h3, h4⟩ := h.row k hk
  exact ⟨(cell_blk h1 k).1.trans (h2 k hk), fun j hj => (cell_blk h3 j).1.trans (h4 j hj), fun j => (cell_blk h3 j).2, (blk_ne (by decide) h1 h3), blk_lt h3, blk_lt h1⟩
theorem Wr.set {base B N : Nat} {ln g cp : Nat → Nat} {L : Nat → Nat → Int} {W : World} (h : Wr base B N ln g cp L W) {k j : Nat} (hk : k < N) (hj : j < ln k) (x : Int) :
    Wr base B N ln g cp (fun a b => if a = k ∧ b = j then x else L a b) (W.setCell ⟨g k, j, none⟩ (.int .i64 x)) ∧ Below base W (W.setCell ⟨g k, j, none⟩ (.int .i64 x)) := by
  obtain ⟨cur, h1, h2⟩ := h.blk
  obtain ⟨c2, h3, h4⟩ := h.row k hk
  refine ⟨⟨⟨cur, (set_other _ _ _ _ _ (blk_ne (by decide) h3 h1)).trans h1, h2⟩, fun a ha => ?_, h.ge, h.ne⟩, (Below.refl base W).setCell (p := ⟨g k, j, none⟩) (h.ge k hk) _⟩
  by_cases e : a = k
  · subst e
    refine ⟨_, set_blk h3 j _, fun b hb => ?_⟩
    by_cases e2 : b = j
    · subst e2
      have hlt := (Array.getElem?_eq_some_iff.1 (h4 b hb)).1
      simp [hlt]
    · simp only [e2, and_false, if_false]
      rw [Array.getElem?_setIfInBounds_ne (fun q => e2 q.symm)]
      exact h4 b hb
  · obtain ⟨c3, h5, h6⟩ := h.row a ha
    exact ⟨c3, (set_other _ _ _ _ _ (h.ne a k ha hk e)).trans h5, fun b hb => by simp only [e, false_and, if_false]; exact h6 b hb⟩
/-- NOTHING BUT THESE IS TOUCHED. -/
def Ot (N : Nat) (g : Nat → Nat) (w W : World) : Prop := ∀ q, (∀ k, k < N → q ≠ g k) → W.heap[q]? = w.heap[q]?
/-- VALUES THAT MAY BE WRITTEN. -/
def Mw (g n : Nat) (f : Nat → Bool) (W : World) : Prop := ∃ cur, W.heap[g]? = some (.cells cur 4 (0, 0)) ∧ ∀ k, k < n → cur[k]? = some (.bool (f k))
theorem Mw.later {g n : Nat} {f : Nat → Bool} {W W2 : World} (h : Mw g n f W) (hb : Below W.heap.size W W2) : Mw g n f W2 := by
  obtain ⟨cur, h1, h2⟩ := h
  exact ⟨cur, (hb.block _ (blk_lt h1)).trans h1, h2⟩
theorem Mw.rt {g n : Nat} {f : Nat → Bool} {W : World} (h : Mw g n f W) : Rt W (some ⟨g, 0, none⟩) n f := by
  obtain ⟨cur, h1, h2⟩ := h
  exact fun _ => ⟨g, 0, rfl, blk_lt h1, fun i hi => by rw [Nat.zero_add, (cell_blk h1 i).1]; exact h2 i hi⟩
theorem Mw.set {g n : Nat} {f : Nat → Bool} {W : World} (h : Mw g n f W) {k : Nat} (hk : k < n) (x : Bool) : Mw g n (fun j => if j = k then x else f j) (W.setCell ⟨g, k, none⟩ (.bool x)) := by
  obtain ⟨cur, h1, h2⟩ := h
  refine ⟨_, set_blk h1 k _, fun j hj => ?_⟩
  by_cases e : j = k
  · subst e
    have hlt := (Array.getElem?_eq_some_iff.1 (h2 j hj)).1
    simp [hlt]
  · simp only [e, if_false]
    rw [Array.getElem?_setIfInBounds_ne (fun q => e q.symm)]
    exact h2 j hj
theorem Wr.bset {base B N : Nat} {ln g cp : Nat → Nat} {L : Nat → Nat → Int} {W : World} (h : Wr base B N ln g cp L W) {q n : Nat} {f : Nat → Bool} (hq : Mw q n f W) (k : Nat) (u : Value) : Wr base B N ln g cp L (W.setCell ⟨q, k, none⟩ u) := by
  obtain ⟨cur, h1, h2⟩ := h.blk
  obtain ⟨c4, q1, _⟩ := hq
  refine ⟨⟨cur, (set_other _ _ _ _ _ (blk_ne (by decide) q1 h1)).trans h1, h2⟩, fun a ha => ?_, h.ge, h.ne⟩
  obtain ⟨c3, h5, h6⟩ := h.row a ha
  exact ⟨c3, (set_other _ _ _ _ _ (blk_ne (by decide) q1 h5)).trans h5, h6⟩
end Go.Proofs.Ytjflnpcpnoccjaa
