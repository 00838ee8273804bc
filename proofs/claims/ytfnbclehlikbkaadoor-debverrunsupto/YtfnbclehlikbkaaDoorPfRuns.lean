import Derived.Test.YtfnbclehlikbkaaDoorVer
import Derived.Test.YtfnbclehlikbkaaDoorCards
import Derived.Test.YtfnbclehlikbkaaDoorTie
import Derived.Deep.DeepHandedRow
import Derived.Lib.LaidTab
import GoSem.PinnedTables
import Derived.Test.YtfnbclehlikbkaaDoorLawRuns
namespace Go.Proofs.YtfnbclehlikbkaaDoor.debverRuns
open Go.ChangeShapes Go.WideShapes Go.ChangeAt Go.RowKit
open Go.ChangeMaps (open_string shut_string)

set_option maxRecDepth 100000 in
/-- THE ROW's STEP. (The witness lies in the settled world, the two listed tables laid.) -/
theorem lifted (os : Os) (started : os.Started) (H : Type) (enc : TypeId × Value → H) (F : Stop.Interp) :
    ReturnsInHanded {} Tryd.checked os 8 .any ((Rows.OpenSpec.upto Rows.debverRunsSpec).preRow enc Tryd.prog Tryd.f8 Rows.debverRunsUptoRow.domain false Rows.debverRunsUptoRow.laid) (((Rows.OpenSpec.upto Rows.debverRunsSpec).at F).post enc Tryd.prog Tryd.f8 false true false false) := by
  refine returnsInHanded_of_row (C := Tryd.checked) (s := Rows.OpenSpec.upto Rows.debverRunsSpec) own started (by kernel_rfl) Tryd.func8
    (witness_row_at (enc := enc) (C := Tryd.checked) false
      { World.holding Tryd.prog os ⟨#[], #[], []⟩ with heap := Array.modify (Array.modify (World.holding Tryd.prog os ⟨#[], #[], []⟩).heap 1 (fun o => match o with | .cells _ t frozen => .cells (Go.Pinned.utf8FirstZ.map (fun (n : Nat) => Value.int .u8 (n : Int))).toArray t frozen | o => o)) 2 (fun o => match o with | .cells _ t frozen => .cells (([128, 191, 160, 191, 128, 159, 144, 191, 128, 143] ++ List.replicate 22 0).map (fun (n : Nat) => Value.int .u8 (n : Int))).toArray t frozen | o => o) }
      #[.agg #[.string ⟨#[]⟩, .string ⟨#[]⟩, .string ⟨#[]⟩, .bool false, .bool false], .agg #[.string ⟨#[]⟩, .string ⟨#[]⟩, .string ⟨#[]⟩, .bool false, .bool false]] rfl (by kernel_rfl) (by kernel_rfl) (by kernel_rfl)
      (OpenSpec.preRow_of_cond (x := ([.agg [.lit (.string []), .lit (.string []), .lit (.string []), .lit (.bool false), .lit (.bool false)], .agg [.lit (.string []), .lit (.string []), .lit (.string []), .lit (.bool false), .lit (.bool false)]], [], [])) 8 (by kernel_rfl) (by kernel_rfl) (fun k hk => by cases hk; kernel_rfl) (by kernel_rfl) (laidMet_of_run' 8 (by kernel_rfl) (by kernel_rfl)))) ?_
  intro W base args ds gs before hval0 hW _ hcond _ _ _ _
  have hval : ∀ (j : Nat) t v, Tryd.f8.params[j]? = some t → args[j]? = some v → Value.okWide Tryd.prog W .any base t v := hval0
  have hW' := hW
  obtain ⟨p, q, hA0, hV, rfl, hfz, hnd⟩ := hW
  have hA : DataW.TrodAll enc Tryd.prog W 0 (fun _ => true) true Tryd.f8.params.toList args.toList ds p := hA0
  rw [Tryd.params8] at hA hval
  obtain ⟨v0, vs0, d0, ds0, p0, q0, hargs, rfl, rfl, h0, r0⟩ := trodAll_cons hA
  obtain ⟨v1, vs1, d1, ds1, p1, q1, rfl, rfl, rfl, h1, r1⟩ := trodAll_cons r0
  obtain ⟨rfl, rfl, rfl⟩ := trodAll_nil r1
  obtain rfl : args = #[v0, v1] := by cases args; simp_all
  obtain ⟨rfl, rfl⟩ := trodVars_none hV
  have k0 := h0
  have lt0 : ∀ x ∈ p0, x.block < W.heap.size := by obtain ⟨m, hm⟩ := k0; exact DataW.trod_lt m _ _ _ hm
  have k1 := h1
  have lt1 : ∀ x ∈ p1, x.block < W.heap.size := by obtain ⟨m, hm⟩ := k1; exact DataW.trod_lt m _ _ _ hm
  obtain ⟨e0, u0, w0, c0, b0, rfl, rfl, rfl, ze0, zu0, zr0⟩ := open_ver (hval 0 24 v0 rfl rfl) h0
  obtain ⟨e1, u1, w1, c1, b1, rfl, rfl, rfl, ze1, zu1, zr1⟩ := open_ver (hval 1 24 v1 rfl rfl) h1
  have hk := of_decide_eq_true (hcond _ rfl)
  simp only [List.append_nil, Rows.uptoBulkAll, Rows.uptoBulk] at hk
  have le0 : e0.size ≤ 1048576 ∧ u0.size ≤ 1048576 ∧ w0.size ≤ 1048576 ∧ e1.size ≤ 1048576 ∧ u1.size ≤ 1048576 ∧ w1.size ≤ 1048576 := by
    have l1 : e0.data.toList.length = e0.size := by simp
    have l2 : u0.data.toList.length = u0.size := by simp
    have l3 : w0.data.toList.length = w0.size := by simp
    have l4 : e1.data.toList.length = e1.size := by simp
    have l5 : u1.data.toList.length = u1.size := by simp
    have l6 : w1.data.toList.length = w1.size := by simp
    omega
  obtain ⟨q1, q2, q3, q4, q5, q6⟩ := le0
  clear hA0 hval0
  refine (debverRuns_walk e0 u0 w0 c0 b0 e1 u1 w1 c1 b1 q1 q2 q3 q4 q5 q6 W).mono fun x W' ⟨he, bel⟩ => ?_
  subst he
  exact ⟨_, rfl, _, _, _, [], _, [], hW', trodAll_mk1 (shut_bool Tryd.underlying4 _), (trodAll_cons_mk (Below.trod laidOut (by kernel_rfl) (of_decide_eq_true (by kernel_rfl)) k0 bel lt0) (trodAll_cons_mk (Below.trod laidOut (by kernel_rfl) (of_decide_eq_true (by kernel_rfl)) k1 bel lt1) trodAll_mk0)), rfl, bel.frame _, fun h => by cases h⟩

theorem said : Rows.DebverRunsUptoSaid :=
  OpenClaim.holds_of_cond 8 Tryd.f8 rfl rfl rfl rfl rfl rfl rfl ⟨rfl, rfl, rfl, rfl, rfl⟩ rfl rfl rfl rfl rfl (by kernel_rfl) Tryd.func8 (by kernel_rfl)
    (of_decide_eq_true (by kernel_rfl)) (by unfold Func.isWrapper; first | (rw [if_pos (by decide +kernel)]; kernel_rfl) | (rw [if_neg (by decide +kernel)]; exact ⟨rfl, rfl⟩))
    (fun os started H enc _ F => by rw [OpenClaim.pre_eq_preRow]; exact lifted os started H enc F)

theorem plain (f : FuncId) (fn : Func) (hf : Tryd.pinned.checked.prog.funcNamed "larder/larderlaw01.DebverRuns" = some f) (hfn : Tryd.pinned.checked.prog.funcs[f]? = some fn) :
    false = Tryd.pinned.checked.prog.looks [] ∧ ∀ (j : Nat) t, fn.params[j]? = some t → Tryd.pinned.checked.prog.wantsStandIn t = false := by
  obtain rfl : f = 8 := Option.some.inj ((show Tryd.prog.funcNamed "larder/larderlaw01.DebverRuns" = some 8 by kernel_rfl).symm.trans hf) |>.symm
  obtain rfl : fn = Tryd.f8 := (Option.some.inj (Tryd.func8.symm.trans hfn)).symm
  refine ⟨by kernel_rfl, fun j t ht => ?_⟩
  rw [Tryd.params8] at ht
  have hm := Array.mem_of_getElem? ht
  have hall : (([24, 24] : List TypeId).all fun t => !Tryd.prog.wantsStandIn t) = true := by kernel_rfl
  have hm2 : t ∈ ([24, 24] : List TypeId) := by simpa using hm
  have h3 := List.all_eq_true.1 hall t hm2
  exact (Bool.not_eq_true' _).mp h3

end Go.Proofs.YtfnbclehlikbkaaDoor.debverRuns

namespace Go.Proofs.YtfnbclehlikbkaaDoor
theorem debverRunsUpto_card : Rows.DebverRunsUptoCardSaid :=
  Claim7.holds_tied_plain_at .later [] _ _ _ _ debverRuns.said (fun _ h => by cases h) (by kernel_rfl) (fun _ h => by cases h) debverRunsUpto_row_tie rfl ⟨rfl, rfl⟩ (by kernel_rfl) rfl debverRuns.plain (by kernel_rfl)
end Go.Proofs.YtfnbclehlikbkaaDoor
