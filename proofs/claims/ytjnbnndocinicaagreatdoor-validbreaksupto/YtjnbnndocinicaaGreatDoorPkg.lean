import Derived.Test.YtjnbnndocinicaaGreatDoorProv
namespace Go.Proofs.YtjnbnndocinicaaGreatDoor
open Go.RowKit

/-- THE CELLS OF A PACKAGE: NAME, VERSION, PROVIDES. -/
structure Pkg (cs : List Value) (nm vr : ByteArray) (pv : Value) : Prop where
  len : cs.length = 43
  n : cs[0]? = some (.string nm)
  v : cs[1]? = some (.string vr)
  p : cs[6]? = some pv

theorem pkgNew (w : World) (cs : List Value) (t : TypeId) : ∃ W, w.alloc (.cells cs.toArray t) = W ∧ (∀ i v, cs[i]? = some v → W.cell? ⟨w.heap.size, i, none⟩ = some v) ∧ w.heap.size < W.heap.size ∧ Below w.heap.size w W := by
  refine ⟨_, rfl, fun i v h => ?_, by simp, (Below.refl w.heap.size w).alloc (Nat.le_refl _) _⟩
  rw [World.cell?_alloc_new]
  simpa using h

end Go.Proofs.YtjnbnndocinicaaGreatDoor
