import Derived.Test.YtimjknjpelmdeaaRows
import Derived.WalkKit
import Derived.ProofKit
import Derived.OpenShut
import Derived.ShutString
import Derived.ChangeOld
import Derived.Below
import Derived.SizedLaws
namespace Go.Proofs.Ytimjknjpelmdeaa
open Go.ChangeShapes Go.WideShapes Go.ChangeAt Go.RowKit
open Go.ChangeMaps (open_string shut_string)

theorem own : ownKnob Try.prog.godebug = none := by kernel_rfl
theorem laidOut : laidOutB Try.prog = true := by kernel_rfl
theorem cellsPin : Try.prog.cellsOf 23 = 4 := by kernel_rfl

theorem array4 {α : Type} {cs : Array α} (h : cs.size = 4) : ∃ c0 c1 c2 c3, cs = #[c0, c1, c2, c3] := by
  obtain ⟨l⟩ := cs
  match l, h with
  | [c0, c1, c2, c3], _ => exact ⟨c0, c1, c2, c3, rfl⟩

theorem cells9 : Try.prog.cellsOf 9 = 1 := by kernel_rfl
theorem cells3 : Try.prog.cellsOf 3 = 1 := by kernel_rfl

set_option maxRecDepth 100000 in
/-- A PIN THAT CAME IN, BY VALUE, OPENED. -/
theorem open_pin {H : Type} {enc : TypeId × Value → H} {w : World} {base : Nat} {spare : Nat → Bool} {held : Bool} {r : Reach} {b0 : Nat} {v : Value} {d : DataW H} {p : List MemPlace}
    (hv : Value.okWide Try.prog w r b0 23 v) (h : DataW.Trod enc Try.prog w base spare held 23 v d p) :
    ∃ (n : ByteArray) (op : Int) (r : ByteArray) (pr : Int), v = .agg #[.string n, .int .i64 op, .string r, .int .i64 pr] ∧ d = .agg [.lit (.string n.data.toList), .lit (.int .i64 op), .lit (.string r.data.toList), .lit (.int .i64 pr)] ∧ p = [] ∧ n.size ≤ maxLen ∧ r.size ≤ maxLen := by
  obtain ⟨cs, rfl, hsz⟩ := okWide_struct Try.underlying23 hv
  obtain ⟨c0, c1, c2, c3, rfl⟩ := array4 (hsz.trans cellsPin)
  obtain ⟨fuel, hf⟩ := h
  obtain ⟨xs, n, _, hx, hl, hlen, hfs⟩ := DataW.trod_struct Try.underlying23 hf
  match xs, hlen with
  | [y0, y1, y2, y3], _ =>
    have g0 := hfs 0 _ rfl
    have g1 := hfs 1 _ rfl
    have g2 := hfs 2 _ rfl
    have g3 := hfs 3 _ rfl
    simp [Value.cells, cells9, cells3] at g0 g1 g2 g3
    obtain ⟨e, e0, rfl, z0⟩ := DataW.trod_string Try.underlying9 g0
    obtain ⟨o, e1, rfl, z1⟩ := DataW.trod_int Try.underlying3 g1
    obtain ⟨r, e2, rfl, z2⟩ := DataW.trod_string Try.underlying9 g2
    obtain ⟨o3, e3, rfl, z3⟩ := DataW.trod_int Try.underlying3 g3
    simp at e0 e1 e2 e3
    subst e0 e1 e2 e3
    simp only [Prod.mk.injEq] at hx
    obtain ⟨rfl, rfl⟩ := hx
    exact ⟨e, o, r, o3, rfl, rfl, rfl, z0, z2⟩

end Go.Proofs.Ytimjknjpelmdeaa
