import Derived.Test.YtfembjjpmjfklaaDoorLawA
import Derived.OneCell
namespace Go.Proofs.YtfembjjpmjfklaaDoor
open Go.RowKit

/-- A CELL OF A ROW OF THE CALL'S OWN IS WRITTEN. -/
theorem ownsRow_set {W : World} {base : Nat} {e : TypeId} {z g n cap : Nat} {xs : List Value} (h : W.ownsRow base e z (.slice (some ⟨g, 0, none⟩) n cap) n xs) (k : Nat) (u : Value) :
    (W.setCell ⟨g, k, none⟩ u).ownsRow base e z (.slice (some ⟨g, 0, none⟩) n cap) n (xs.set k u) := by
  obtain ⟨h1, h2⟩ := h
  refine ⟨by rw [List.length_set]; exact h1, ?_⟩
  rcases h2 with ⟨h2, _⟩ | ⟨g', cap', cur, hv, hg, hh, r1, r2, r3, r4⟩
  · cases h2
  · cases hv
    refine Or.inr ⟨g, cap, cur.setIfInBounds k u, rfl, hg, ?_, r1, r2, by simpa using r3, ?_⟩
    · have hlt := lt_of_block hh
      have h' : W.heap[g] = .cells cur e (0, 0) := by simpa [Array.getElem?_eq_getElem hlt] using hh
      show (W.heap.modify g _)[g]? = _
      rw [Array.getElem?_eq_getElem (by simpa using hlt), Array.getElem_modify_self, h']
      rfl
    · rw [Array.toList_setIfInBounds, List.take_set, r4]
theorem ownsRow_free {W : World} {base : Nat} {e : TypeId} {z g n cap : Nat} {xs : List Value} (h : W.ownsRow base e z (.slice (some ⟨g, 0, none⟩) n cap) n xs) (k : Nat) : W.frozen? ⟨g, k, none⟩ = false := by
  rcases h.2 with ⟨h2, _⟩ | ⟨g', cap', cur, hv, hg, hh, _⟩
  · cases h2
  · cases hv
    simp [World.frozen?, hh]

theorem set3 (x : Am) : ∀ (al : List Am) (i : Nat), i < al.length → (((al.flatMap amCells).set (i * 3) (.string x.n)).set (i * 3 + 1) (.int .i64 x.op)).set (i * 3 + 2) (.string x.v) = (al.set i x).flatMap amCells
  | [], i, h => absurd h (Nat.not_lt_zero _)
  | a :: al, 0, _ => rfl
  | a :: al, i + 1, h => by
    have ih := set3 x al i (Nat.lt_of_succ_lt_succ h)
    have e : (i + 1) * 3 = i * 3 + 1 + 1 + 1 := by omega
    rw [e]
    show ((((amCells a ++ al.flatMap amCells).set (i * 3 + 1 + 1 + 1) _).set (i * 3 + 1 + 1 + 1 + 1) _).set (i * 3 + 1 + 1 + 1 + 2) _) = amCells a ++ (al.set i x).flatMap amCells
    rw [← ih]
    rfl
/-- AN ATOM OF A ROW OF ITS OWN IS WRITTEN. -/
theorem OwnA.set {W : World} {base g n cap : Nat} {al : List Am} (h : OwnA base W (.slice (some ⟨g, 0, none⟩) n cap) al) (hn : al.length = n) (i : Nat) (hi : i < n) (x : Am) :
    OwnA base (((W.setCell ⟨g, i * 3, none⟩ (.string x.n)).setCell ⟨g, i * 3 + 1, none⟩ (.int .i64 x.op)).setCell ⟨g, i * 3 + 2, none⟩ (.string x.v)) (.slice (some ⟨g, 0, none⟩) n cap) (al.set i x) := by
  subst hn
  unfold OwnA at h ⊢
  rw [List.length_set, ← set3 x al i hi]
  exact ownsRow_set (ownsRow_set (ownsRow_set h (i * 3) _) (i * 3 + 1) _) (i * 3 + 2) _
theorem OwnS.set {W : World} {base g n cap : Nat} {al : List ByteArray} (h : OwnS base W (.slice (some ⟨g, 0, none⟩) n cap) al) (hn : al.length = n) (i : Nat) (hi : i < n) (x : ByteArray) :
    OwnS base (W.setCell ⟨g, i, none⟩ (.string x)) (.slice (some ⟨g, 0, none⟩) n cap) (al.set i x) := by
  subst hn
  unfold OwnS at h ⊢
  rw [List.length_set, List.map_set]
  exact ownsRow_set h i _

/-- SLICES IN OTHER BLOCKS STAY. -/
theorem Ams.setOther {W : World} {v : Value} {al : List Am} (h : Ams W v al) {g k : Nat} (hne : v.ownBlock ≠ some g) (u : Value) : Ams (W.setCell ⟨g, k, none⟩ u) v al := by
  obtain ⟨a, c, rfl, h2, h3⟩ := h
  refine ⟨a, c, rfl, h2, fun i hi => ?_⟩
  obtain ⟨b, o, rfl, e2, e3, e4, e5⟩ := h3 i hi
  have hb : b ≠ g := fun e => hne (by rw [e]; rfl)
  have hk : (W.setCell ⟨g, k, none⟩ u).heap[b]? = W.heap[b]? := Below.heap_setCell _ _ _ _ hb
  exact ⟨b, o, rfl, by simpa [World.setCell] using e2, (World.cell?_of_block (a := ⟨b, _, none⟩) hk).trans e3, (World.cell?_of_block (a := ⟨b, _, none⟩) hk).trans e4, (World.cell?_of_block (a := ⟨b, _, none⟩) hk).trans e5⟩
theorem Sts.setOther {W : World} {v : Value} {al : List ByteArray} (h : Sts W v al) {g k : Nat} (hne : v.ownBlock ≠ some g) (u : Value) : Sts (W.setCell ⟨g, k, none⟩ u) v al := by
  obtain ⟨a, c, rfl, h2, h3⟩ := h
  refine ⟨a, c, rfl, h2, fun i hi => ?_⟩
  obtain ⟨b, o, rfl, e2, e3⟩ := h3 i hi
  have hb : b ≠ g := fun e => hne (by rw [e]; rfl)
  have hk : (W.setCell ⟨g, k, none⟩ u).heap[b]? = W.heap[b]? := Below.heap_setCell _ _ _ _ hb
  exact ⟨b, o, rfl, by simpa [World.setCell] using e2, (World.cell?_of_block (a := ⟨b, _, none⟩) hk).trans e3⟩
theorem Sts.grownO {w w' : World} {v : Value} {al : List ByteArray} {row : Option Nat} (h : Sts w v al) (hg : w.grownBy w' row) (hne : al ≠ [] → ∀ g, v.ownBlock = some g → g < w.heap.size → some g ≠ row) : Sts w' v al := by
  obtain ⟨a, c, rfl, h2, h3⟩ := h
  refine ⟨a, c, rfl, h2, fun i hi => ?_⟩
  obtain ⟨b, o, rfl, e2, e3⟩ := h3 i hi
  have hb : some b ≠ row := hne (fun e => by rw [e] at hi; exact absurd hi (Nat.not_lt_zero _)) b rfl e2
  exact ⟨b, o, rfl, Nat.lt_of_lt_of_le e2 hg.size, hg.cell e3 hb⟩

end Go.Proofs.YtfembjjpmjfklaaDoor
