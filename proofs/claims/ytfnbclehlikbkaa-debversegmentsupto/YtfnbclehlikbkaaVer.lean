import Derived.Test.YtfnbclehlikbkaaRows
import Derived.WalkKit
import Derived.ProofKit
import Derived.OpenShut
import Derived.ShutString
import Derived.ChangeOld
import Derived.Below
import Derived.SizedLaws
namespace Go.Proofs.Ytfnbclehlikbkaa
open Go.ChangeShapes Go.WideShapes Go.ChangeAt Go.RowKit
open Go.ChangeMaps (open_string shut_string)

theorem own : ownKnob Try.prog.godebug = none := by kernel_rfl
theorem laidOut : laidOutB Try.prog = true := by kernel_rfl
theorem cellsVer : Try.prog.cellsOf 29 = 5 := by kernel_rfl

theorem array5 {α : Type} {cs : Array α} (h : cs.size = 5) : ∃ c0 c1 c2 c3 c4, cs = #[c0, c1, c2, c3, c4] := by
  obtain ⟨l⟩ := cs
  match l, h with
  | [c0, c1, c2, c3, c4], _ => exact ⟨c0, c1, c2, c3, c4, rfl⟩

theorem cells9 : Try.prog.cellsOf 9 = 1 := by kernel_rfl
theorem cells4 : Try.prog.cellsOf 4 = 1 := by kernel_rfl

set_option maxRecDepth 100000 in
/-- A VERSION THAT CAME IN, BY VALUE, OPENED. -/
theorem open_ver {H : Type} {enc : TypeId × Value → H} {w : World} {base : Nat} {spare : Nat → Bool} {held : Bool} {r : Reach} {b0 : Nat} {v : Value} {d : DataW H} {p : List MemPlace}
    (hv : Value.okWide Try.prog w r b0 29 v) (h : DataW.Trod enc Try.prog w base spare held 29 v d p) :
    ∃ (e u r : ByteArray) (c k : Bool), v = .agg #[.string e, .string u, .string r, .bool c, .bool k] ∧ d = .agg [.lit (.string e.data.toList), .lit (.string u.data.toList), .lit (.string r.data.toList), .lit (.bool c), .lit (.bool k)] ∧ p = [] ∧ e.size ≤ maxLen ∧ u.size ≤ maxLen ∧ r.size ≤ maxLen := by
  obtain ⟨cs, rfl, hsz⟩ := okWide_struct Try.underlying29 hv
  obtain ⟨c0, c1, c2, c3, c4, rfl⟩ := array5 (hsz.trans cellsVer)
  obtain ⟨fuel, hf⟩ := h
  obtain ⟨xs, n, _, hx, hl, hlen, hfs⟩ := DataW.trod_struct Try.underlying29 hf
  match xs, hlen with
  | [y0, y1, y2, y3, y4], _ =>
    have g0 := hfs 0 _ rfl
    have g1 := hfs 1 _ rfl
    have g2 := hfs 2 _ rfl
    have g3 := hfs 3 _ rfl
    have g4 := hfs 4 _ rfl
    simp [Value.cells, cells9, cells4] at g0 g1 g2 g3 g4
    obtain ⟨e, e0, rfl, z0⟩ := DataW.trod_string Try.underlying9 g0
    obtain ⟨u, e1, rfl, z1⟩ := DataW.trod_string Try.underlying9 g1
    obtain ⟨r, e2, rfl, z2⟩ := DataW.trod_string Try.underlying9 g2
    obtain ⟨c, e3, rfl⟩ := DataW.trod_bool Try.underlying4 g3
    obtain ⟨k, e4, rfl⟩ := DataW.trod_bool Try.underlying4 g4
    simp at e0 e1 e2 e3 e4
    subst e0 e1 e2 e3 e4
    simp only [Prod.mk.injEq] at hx
    obtain ⟨rfl, rfl⟩ := hx
    exact ⟨e, u, r, c, k, rfl, rfl, rfl, z0, z1, z2⟩

set_option maxRecDepth 100000 in
/-- OF A VERSION THAT IS READ THE REACH WEIGHS EACH PART. -/
theorem sized_ver {H : Type} {ts : List TypeId} {ds : List (DataW H)} (h : (DataW.weightsEach Try.prog ts ds).all (· ≤ reachBytes) = true) {j : Nat} {e u r : ByteArray} {c k : Bool} (ht : ts[j]? = some 29)
    (hd : ds[j]? = some (.agg [.lit (.string e.data.toList), .lit (.string u.data.toList), .lit (.string r.data.toList), .lit (.bool c), .lit (.bool k)])) :
    e.size ≤ reachBytes ∧ u.size ≤ reachBytes ∧ r.size ≤ reachBytes := by
  have hw : ∀ n, n ∈ DataW.weights Try.prog 29 (DataW.agg (H := H) [.lit (.string e.data.toList), .lit (.string u.data.toList), .lit (.string r.data.toList), .lit (.bool c), .lit (.bool k)]) → n ≤ reachBytes := fun n hn => by
    have := List.all_eq_true.1 h _ (DataW.weights_mem_each ht hd n hn)
    simpa using this
  simp [DataW.weights, DataW.weightsEach, Try.underlying29] at hw
  exact ⟨hw.1, hw.2.1, hw.2.2⟩

end Go.Proofs.Ytfnbclehlikbkaa
