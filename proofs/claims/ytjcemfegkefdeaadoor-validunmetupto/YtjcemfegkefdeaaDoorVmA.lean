import Derived.Test.YtjcemfegkefdeaaDoorFirst
import Derived.Test.YtjcemfegkefdeaaDoorFirstR
import Derived.Deep.LoopGhost
namespace Go.Proofs.YtjcemfegkefdeaaDoor
open Go.RowKit

theorem bl_t {w w1 w2 : World} (h : Below w.heap.size w w1) (h2 : Below w1.heap.size w1 w2) : Below w.heap.size w w2 := h.trans (h2.mono h.size)
/-- A PACKAGE: ITS CELLS, AND WHAT IS ASKED OF IT. -/
structure Pd where
  cs : List Value
  nm : ByteArray
  vr : ByteArray
  pv : Value
  pl : List ByteArray
def PdOk (w : World) (x : Pd) : Prop := Pkg x.cs x.nm x.vr x.pv ∧ Strs w x.pv x.pl ∧ x.vr.size ≤ maxLen
theorem PdOk.later {w w' : World} {x : Pd} (h : PdOk w x) (hb : Below w.heap.size w w') : PdOk w' x := ⟨h.1, h.2.1.later hb, h.2.2⟩
/-- PACKAGES AS THEY LIE. -/
def Pks (w : World) (v : Value) (ps : List Pd) : Prop := ∃ a c, v = .slice a ps.length c ∧ (0 < ps.length → ∃ b o, a = some ⟨b, o, none⟩ ∧ b < w.heap.size ∧ ∀ (i : Nat) (x : Pd), ps[i]? = some x → w.rangeAt b (o + i * 43) x.cs ∧ PdOk w x)
theorem range_bel {w w' : World} {b o : Nat} {cs : List Value} (h : w.rangeAt b o cs) (hb : b < w.heap.size) (hB : Below w.heap.size w w') : w'.rangeAt b o cs := fun j v hj => (hB.cell (p := ⟨b, _, none⟩) hb).trans (h j v hj)
theorem Pks.later {w w' : World} {v : Value} {ps : List Pd} (h : Pks w v ps) (hb : Below w.heap.size w w') : Pks w' v ps := by
  obtain ⟨a, c, h1, h2⟩ := h
  refine ⟨a, c, h1, fun h0 => ?_⟩
  obtain ⟨b, o, h3, h4, h5⟩ := h2 h0
  exact ⟨b, o, h3, Nat.lt_of_lt_of_le h4 hb.size, fun i x hx => ⟨range_bel (h5 i x hx).1 h4 hb, (h5 i x hx).2.later hb⟩⟩
/-- IS A CLAUSE MET FOR THE ONE AT A PLACE? -/
def hitA (who : Int) (pre : Bool) (al : List At) (i : Nat) (x : Pd) : Bool := !(pre && ((i : Int) == who)) && (firstA al x.nm x.vr x.pl).2
def metA (ps : List Pd) (who : Int) (pre : Bool) (al : List At) : Bool := ps.zipIdx.any fun q => hitA who pre al q.2 q.1
theorem metA_hit {ps : List Pd} {who : Int} {pre : Bool} {al : List At} {i : Nat} {x : Pd} (hx : ps[i]? = some x) (h : hitA who pre al i x = true) : metA ps who pre al = true := by
  unfold metA
  rw [List.any_eq_true]
  exact ⟨(x, i), List.mk_mem_zipIdx_iff_getElem?.2 hx, h⟩
theorem metA_miss {ps : List Pd} {who : Int} {pre : Bool} {al : List At} (h : ∀ (i : Nat) (x : Pd), ps[i]? = some x → hitA who pre al i x = false) : metA ps who pre al = false := by
  unfold metA
  rw [List.any_eq_false]
  rintro ⟨x, i⟩ hq
  rw [h i x (List.mk_mem_zipIdx_iff_getElem?.1 hq)]
  decide
theorem ret_bb {a b : Bool} (h : a = b) : Ending.returned (.bool a) = .returned (.bool b) := by rw [h]
end Go.Proofs.YtjcemfegkefdeaaDoor
