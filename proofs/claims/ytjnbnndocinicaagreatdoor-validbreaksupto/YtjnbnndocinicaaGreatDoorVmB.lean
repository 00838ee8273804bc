import Derived.Test.YtjnbnndocinicaaGreatDoorVmA
import Derived.Deep.QuietTactic
import Derived.BigQuiet
import Derived.Deep.RegionHeld3
namespace Go.Proofs.YtjnbnndocinicaaGreatDoor
open Go.RowKit

/-- CLAUSES AS THEY LIE. -/
def Cls (w : World) (v : Value) (cl : List (List At)) : Prop := ∃ a c, v = .slice a cl.length c ∧ (0 < cl.length → ∃ b o, a = some ⟨b, o, none⟩ ∧ b < w.heap.size ∧ ∀ (i : Nat) (al : List At), cl[i]? = some al → ∃ xa xc, w.cell? ⟨b, o + i, none⟩ = some (.slice xa al.length xc) ∧ Ats w (.slice xa al.length xc) al)
theorem cell_later {W W2 : World} {p : Addr} {v : Value} (h : W.cell? p = some v) (hb : Below W.heap.size W W2) : W2.cell? p = some v := by
  have hlt := World.block_lt_of_cell? _ _ h
  exact (hb.cell hlt).trans h
theorem Cls.later {w w' : World} {v : Value} {cl : List (List At)} (h : Cls w v cl) (hb : Below w.heap.size w w') : Cls w' v cl := by
  obtain ⟨a, c, h1, h2⟩ := h
  refine ⟨a, c, h1, fun h0 => ?_⟩
  obtain ⟨b, o, h3, h4, h5⟩ := h2 h0
  refine ⟨b, o, h3, Nat.lt_of_lt_of_le h4 hb.size, fun i al hi => ?_⟩
  obtain ⟨xa, xc, h6, h7⟩ := h5 i al hi
  exact ⟨xa, xc, cell_later h6 hb, h7.later hb⟩
theorem atm_neq (n : ByteArray) (op : Int) (v : ByteArray) (w : World) :
    (binOp .neq 55 (.agg #[.string n, .int .i64 op, .string v]) (.agg #[.string n, .int .i64 op, .string v])).run Tryz.prog w = .ok (.bool false) w := by
  go_simp
theorem Ats.at {w : World} {xa : Option Addr} {n xc : Nat} {al : List At} (h : Ats w (.slice xa n xc) al) {k : Nat} {x : At} (hx : al[k]? = some x) : ∃ b o, xa = some ⟨b, o, none⟩ ∧ b < w.heap.size ∧ w.cell? ⟨b, o + k * 3, none⟩ = some (.string x.n) ∧ w.cell? ⟨b, o + k * 3 + 1, none⟩ = some (.int .i64 x.op) ∧ w.cell? ⟨b, o + k * 3 + 2, none⟩ = some (.string x.v) := by
  obtain ⟨hk, rfl⟩ := List.getElem?_eq_some_iff.1 hx
  obtain ⟨a, c, e, _, h2⟩ := h
  obtain ⟨b, o, h3, h4, h5⟩ := h2 k hk
  cases e
  exact ⟨b, o, h3, h4, h5⟩
end Go.Proofs.YtjnbnndocinicaaGreatDoor
