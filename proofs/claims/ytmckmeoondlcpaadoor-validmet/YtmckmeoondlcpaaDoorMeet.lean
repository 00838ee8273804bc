import Derived.Test.YtmckmeoondlcpaaDoorProv
import Derived.Test.YtmckmeoondlcpaaDoorPkg
namespace Go.Proofs.YtmckmeoondlcpaaDoor
open Go.RowKit

/-- AN ATOM, AS DATA. -/
structure At where
  n : ByteArray
  op : Int
  v : ByteArray
def atV (a : At) : Value := .agg #[.string a.n, .int .i64 a.op, .string a.v]

theorem atomNew (w : World) (v0 v1 v2 : Value) (t : TypeId) : ∃ W, w.alloc (.cells #[v0, v1, v2] t) = W ∧ W.cell? ⟨w.heap.size, 0, none⟩ = some v0 ∧ W.cell? ⟨w.heap.size, 1, none⟩ = some v1 ∧ W.cell? ⟨w.heap.size, 2, none⟩ = some v2 ∧ w.heap.size < W.heap.size ∧ Below w.heap.size w W := by
  refine ⟨_, rfl, ?_, ?_, ?_, by simp, (Below.refl w.heap.size w).alloc (Nat.le_refl _) _⟩
  all_goals go_simp

/-- BOTH IN BOXES OF THEIR OWN: AN ATOM AND A PACKAGE. -/
structure Boxes (W : World) (b c : Nat) (n : ByteArray) (op : Int) (bd nm vr : ByteArray) (pv : Value) : Prop where
  a0 : W.cell? ⟨b, 0, none⟩ = some (.string n)
  a1 : W.cell? ⟨b, 1, none⟩ = some (.int .i64 op)
  a2 : W.cell? ⟨b, 2, none⟩ = some (.string bd)
  p0 : W.cell? ⟨c, 0, none⟩ = some (.string nm)
  p1 : W.cell? ⟨c, 1, none⟩ = some (.string vr)
  p6 : W.cell? ⟨c, 6, none⟩ = some pv
  bl : b < W.heap.size
  cl : c < W.heap.size

theorem Boxes.later {W W' : World} {b c : Nat} {n : ByteArray} {op : Int} {bd nm vr : ByteArray} {pv : Value} (h : Boxes W b c n op bd nm vr pv) (hb : Below W.heap.size W W') : Boxes W' b c n op bd nm vr pv :=
  ⟨(hb.cell (p := ⟨b, 0, none⟩) h.bl).trans h.a0, (hb.cell (p := ⟨b, 1, none⟩) h.bl).trans h.a1, (hb.cell (p := ⟨b, 2, none⟩) h.bl).trans h.a2, (hb.cell (p := ⟨c, 0, none⟩) h.cl).trans h.p0, (hb.cell (p := ⟨c, 1, none⟩) h.cl).trans h.p1, (hb.cell (p := ⟨c, 6, none⟩) h.cl).trans h.p6, Nat.lt_of_lt_of_le h.bl hb.size, Nat.lt_of_lt_of_le h.cl hb.size⟩

theorem boxes_new (w : World) (n : ByteArray) (op : Int) (bd nm vr : ByteArray) (pv : Value) (cs : List Value) (hp : Pkg cs nm vr pv) :
    ∃ W, (w.alloc (.cells #[.string n, .int .i64 op, .string bd] 33)).alloc (.cells cs.toArray 38) = W ∧ Boxes W w.heap.size (w.heap.size + 1) n op bd nm vr pv ∧ (∀ i v, cs[i]? = some v → W.cell? ⟨w.heap.size + 1, i, none⟩ = some v) ∧ Below w.heap.size w W := by
  obtain ⟨W1, h1, k0, k1, k2, q1, B1⟩ := atomNew w (.string n) (.int .i64 op) (.string bd) 33
  have hs : W1.heap.size = w.heap.size + 1 := by rw [← h1]; simp
  obtain ⟨W2, h2, kc, q2, B2⟩ := pkgNew W1 cs 38
  rw [hs] at kc q2
  refine ⟨W2, by rw [h1, h2], ⟨(B2.cell (p := ⟨w.heap.size, 0, none⟩) q1).trans k0, (B2.cell (p := ⟨w.heap.size, 1, none⟩) q1).trans k1, (B2.cell (p := ⟨w.heap.size, 2, none⟩) q1).trans k2, kc 0 _ hp.n, kc 1 _ hp.v, kc 6 _ hp.p, by omega, q2⟩, kc, B1.trans (B2.mono (by omega))⟩

end Go.Proofs.YtmckmeoondlcpaaDoor
