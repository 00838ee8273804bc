import Derived.Test.YtjcemfegkefdeaaDoorMeetA
import Derived.Test.YtjcemfegkefdeaaDoorSame2
namespace Go.Proofs.YtjcemfegkefdeaaDoor
open Go.RowKit

/-- WHICH ATOM IS SATISFIED FIRST? -/
def firstA (al : List At) (nm vr : ByteArray) (pl : List ByteArray) : Int × Bool :=
  match al.findIdx? (fun a => meetsA a.n a.op a.v nm vr pl) with
  | some i => ((i : Int), true)
  | none => (0, false)

theorem firstA_hit (al : List At) (nm vr : ByteArray) (pl : List ByteArray) (k : Nat) (h : k < al.length) (hk : meetsA al[k].n al[k].op al[k].v nm vr pl = true) (hb : ∀ j (hj : j < al.length), j < k → meetsA al[j].n al[j].op al[j].v nm vr pl = false) : firstA al nm vr pl = ((k : Int), true) := by
  unfold firstA
  have : al.findIdx? (fun a => meetsA a.n a.op a.v nm vr pl) = some k := by
    rw [List.findIdx?_eq_some_iff_getElem]
    exact ⟨h, hk, fun j hj => by rw [hb j (by omega) hj]; simp⟩
  rw [this]
theorem firstA_miss (al : List At) (nm vr : ByteArray) (pl : List ByteArray) (hb : ∀ j (hj : j < al.length), meetsA al[j].n al[j].op al[j].v nm vr pl = false) : firstA al nm vr pl = (0, false) := by
  unfold firstA
  have : al.findIdx? (fun a => meetsA a.n a.op a.v nm vr pl) = none := by
    rw [List.findIdx?_eq_none_iff]
    intro a ha
    obtain ⟨j, hj, rfl⟩ := List.getElem_of_mem ha
    exact hb j hj
  rw [this]

theorem wpList_load_p {P : Program} {ops : Array Oper} {rest : List Oper} {op : Oper} {a : Act} {w : World} {Q : Exit → Act → World → Prop} (hgd : op.guard = none) (ty : TypeId) (x : Operand) (ho : op.op = .load ty x)
    (b o : Nat) (hx : a.eval x = .pointer (some ⟨b, o, none⟩)) (cs : List Value) (d : TypeDesc) (hc : w.rangeAt b o cs)
    (hu : P.underlying ty = some d) (hd : d.isRow = true) (hi : (P.info? ty).map (·.size) = some cs.length)
    (h : wpList P ops Q rest (a.put op.dst (.agg cs.toArray)) w) : wpList P ops Q (op :: rest) a w :=
  wpList_load_mid hgd ty x ho b o hx cs d hc hu hd hi h

theorem range_of1 {W : World} {c : Nat} {cs : List Value} (h : ∀ i v, cs[i]? = some v → W.cell? ⟨c, i, none⟩ = some v) : W.rangeAt c 0 cs := fun j v hj => by rw [Nat.zero_add]; exact h j v hj
theorem range_later1 {W W' : World} {c : Nat} {cs : List Value} (h : W.rangeAt c 0 cs) (hc : c < W.heap.size) (hb : Below W.heap.size W W') : W'.rangeAt c 0 cs := fun j v hj => (hb.cell (p := ⟨c, _, none⟩) hc).trans (h j v hj)

end Go.Proofs.YtjcemfegkefdeaaDoor
