import Derived.Test.YtfembjjpmjfklaaDoorOpenQ
import Derived.Test.YtfembjjpmjfklaaDoorGlobR
import Derived.Deep.DeepHandedRow
import Derived.Lib.LaidTab
import GoSem.PinnedTables
namespace Go.Proofs.YtfembjjpmjfklaaDoor.relationPrints
open Go.ChangeShapes Go.WideShapes Go.ChangeAt Go.RowKit
open Go.ChangeMaps (open_string shut_string)

set_option maxRecDepth 100000 in
theorem lifted (os : Os) (started : os.Started) (H : Type) (enc : TypeId × Value → H) (F : Stop.Interp) :
    ReturnsInHanded {} Tryd.checked os 6 .any ((OpenSpec.ofChange Rows.relationPrintsSpec).preRow enc Tryd.prog Tryd.f6 Rows.relationPrintsRow.domain false Rows.relationPrintsRow.laid) (((OpenSpec.ofChange Rows.relationPrintsSpec).at F).post enc Tryd.prog Tryd.f6 false true false false) := by
  refine returnsInHanded_of_row (C := Tryd.checked) (s := OpenSpec.ofChange Rows.relationPrintsSpec) own started (by kernel_rfl) Tryd.func6
    (witness_row_at (enc := enc) (C := Tryd.checked) false
      { World.holding Tryd.prog os ⟨#[], #[], []⟩ with heap := Array.modify (World.holding Tryd.prog os ⟨#[], #[], []⟩).heap 0 (fun o => match o with | .cells _ t frozen => .cells #[.string ⟨#[]⟩, .string ⟨#[60, 60]⟩, .string ⟨#[60, 61]⟩, .string ⟨#[61]⟩, .string ⟨#[62, 61]⟩, .string ⟨#[62, 62]⟩] t frozen | o => o) }
      #[.agg #[.string ⟨#[]⟩, .int .i64 0, .string ⟨#[]⟩], .slice none 0 0, .slice none 0 0, .slice none 0 0] rfl (by kernel_rfl) (by kernel_rfl) (by kernel_rfl)
      (OpenSpec.preRow_of_cond (x := ([.agg [.lit (.string []), .lit (.int .i64 0), .lit (.string [])], .nil, .nil, .nil], [], [])) 8 (by kernel_rfl) (by kernel_rfl) (fun k hk => by cases hk) (by kernel_rfl) (laidMet_of_run' 8 (by kernel_rfl) (by kernel_rfl)))) ?_
  intro W base args ds gs before hval0 hW _ _ hsz hlaid hshape _
  have hG : Glob W := glob_of hlaid hshape
  have hval : ∀ (j : Nat) t v, Tryd.f6.params[j]? = some t → args[j]? = some v → Value.okWide Tryd.prog W .any base t v := hval0
  have hW' := hW
  obtain ⟨p, q, hA0, hV, rfl, hfz, hnd⟩ := hW
  have hA : DataW.TrodAll enc Tryd.prog W 0 (fun _ => true) true Tryd.f6.params.toList args.toList ds p := hA0
  rw [Tryd.params6] at hA hval hsz
  obtain ⟨v0, vs0, d0, ds0, p0, q0, hargs, rfl, rfl, h0, r0⟩ := trodAll_cons hA
  obtain ⟨v1, vs1, d1, ds1, p1, q1, rfl, rfl, rfl, h1, r1⟩ := trodAll_cons r0
  obtain ⟨v2, vs2, d2, ds2, p2, q2, rfl, rfl, rfl, h2, r2⟩ := trodAll_cons r1
  obtain ⟨v3, vs3, d3, ds3, p3, q3, rfl, rfl, rfl, h3, r3⟩ := trodAll_cons r2
  obtain ⟨rfl, rfl, rfl⟩ := trodAll_nil r3
  obtain rfl : args = #[v0, v1, v2, v3] := by cases args; simp_all
  obtain ⟨rfl, rfl⟩ := trodVars_none hV
  have k0 := h0
  have lt0 : ∀ x ∈ p0, x.block < W.heap.size := by obtain ⟨m, hm⟩ := k0; exact DataW.trod_lt m _ _ _ hm
  have k1 := h1
  have lt1 : ∀ x ∈ p1, x.block < W.heap.size := by obtain ⟨m, hm⟩ := k1; exact DataW.trod_lt m _ _ _ hm
  have k2 := h2
  have lt2 : ∀ x ∈ p2, x.block < W.heap.size := by obtain ⟨m, hm⟩ := k2; exact DataW.trod_lt m _ _ _ hm
  have k3 := h3
  have lt3 : ∀ x ∈ p3, x.block < W.heap.size := by obtain ⟨m, hm⟩ := k3; exact DataW.trod_lt m _ _ _ hm
  obtain ⟨n, op, bd, rfl, rfl, rfl, z0, zb⟩ := open_atom (hval 0 34 v0 rfl rfl) h0
  obtain ⟨sa1, sl1, sc1, rfl⟩ := okWide_slice Tryd.underlying22 (hval 1 22 v1 rfl rfl)
  obtain ⟨sa2, sl2, sc2, rfl⟩ := okWide_slice Tryd.underlying39 (hval 2 39 v2 rfl rfl)
  obtain ⟨sa3, sl3, sc3, rfl⟩ := okWide_slice Tryd.underlying44 (hval 3 44 v3 rfl rfl)
  obtain ⟨f1, hc1⟩ := h1
  obtain ⟨f2, hc2⟩ := h2
  obtain ⟨f3, hc3⟩ := h3
  obtain ⟨cl, hcl, zcl, hd1⟩ := open_clauses (v := .slice sa1 sl1 sc1) hc1
  obtain ⟨al, hal, zal, hd2⟩ := open_atoms (v := .slice sa2 sl2 sc2) Tryd.underlying39 hc2
  obtain ⟨nl, hnl, znl, hd3⟩ := open_texts (v := .slice sa3 sl3 sc3) hc3
  clear hA0 hval0
  have hx : reachBytes = 0x7ffffffff000 := rfl
  have b1 : cl.length ≤ 5864062014804 := by
    rcases hd1 with ⟨_, rfl⟩ | ⟨e, s, h, h', _⟩
    · simp
    · have h5 : (e.length + s.length) * Tryd.prog.bytesOf 52 ≤ reachBytes := sized_slice hsz (j := 1) (e := 52) (elems := e) (spare := s) rfl (congrArg some h) Tryd.underlying22
      rw [bytesC] at h5
      omega
  have b2 : ∀ i (h : i < cl.length), cl[i].length ≤ 3518437208883 := fun i hi => by
    rcases hd1 with ⟨_, rfl⟩ | ⟨e, s, h, h', hn⟩
    · simp at hi
    · obtain ⟨d, h6, h7⟩ := hn i hi
      rcases h7 with ⟨_, h8⟩ | ⟨e2, s2, rfl, h8⟩
      · rw [h8]; simp
      · have h5 := sized_clause hsz (j := 1) rfl (congrArg some h) h6
        omega
  have b3 : al.length ≤ 3518437208883 := by
    rcases hd2 with ⟨_, rfl⟩ | ⟨e, s, h, h'⟩
    · simp
    · have h5 : (e.length + s.length) * Tryd.prog.bytesOf 34 ≤ reachBytes := sized_slice hsz (j := 2) (e := 34) (elems := e) (spare := s) rfl (congrArg some h) Tryd.underlying39
      rw [bytesA] at h5
      omega
  have b4 : nl.length ≤ 8796093022206 := by
    rcases hd3 with ⟨_, rfl⟩ | ⟨e, s, h, h'⟩
    · simp
    · have h5 : (e.length + s.length) * Tryd.prog.bytesOf 9 ≤ reachBytes := sized_slice hsz (j := 3) (e := 9) (elems := e) (spare := s) rfl (congrArg some h) Tryd.underlying44
      rw [bytes9] at h5
      omega
  refine (relationPrints_walk n op bd cl (.slice sa1 sl1 sc1) al (.slice sa2 sl2 sc2) nl (.slice sa3 sl3 sc3) W hG z0 zb hcl hal hnl b1 b2 b3 b4 zcl zal znl).mono fun x W' ⟨he, bel⟩ => ?_
  subst he
  exact ⟨_, rfl, _, _, _, [], _, [], hW', trodAll_mk1 (shut_bool Tryd.underlying4 _), (trodAll_cons_mk (Below.trod laidOut (by kernel_rfl) (of_decide_eq_true (by kernel_rfl)) k0 bel lt0) (trodAll_cons_mk (Below.trod laidOut (by kernel_rfl) (of_decide_eq_true (by kernel_rfl)) k1 bel lt1) (trodAll_cons_mk (Below.trod laidOut (by kernel_rfl) (of_decide_eq_true (by kernel_rfl)) k2 bel lt2) (trodAll_cons_mk (Below.trod laidOut (by kernel_rfl) (of_decide_eq_true (by kernel_rfl)) k3 bel lt3) trodAll_mk0)))), rfl, bel.frame _, fun h => by cases h⟩

theorem said : Rows.RelationPrintsSaid :=
  OpenClaim.holds_of_cond 6 Tryd.f6 rfl rfl rfl rfl rfl rfl rfl ⟨rfl, rfl, rfl, rfl, rfl⟩ rfl rfl rfl rfl rfl (by kernel_rfl) Tryd.func6 (by kernel_rfl)
    (of_decide_eq_true (by kernel_rfl)) (by unfold Func.isWrapper; first | (rw [if_pos (by decide +kernel)]; kernel_rfl) | (rw [if_neg (by decide +kernel)]; exact ⟨rfl, rfl⟩))
    (fun os started H enc _ F => by rw [OpenClaim.pre_eq_preRow]; exact lifted os started H enc F)

theorem plain (f : FuncId) (fn : Func) (hf : Tryd.pinned.checked.prog.funcNamed "larder/larderlaw02.RelationPrints" = some f) (hfn : Tryd.pinned.checked.prog.funcs[f]? = some fn) :
    false = Tryd.pinned.checked.prog.looks [] ∧ ∀ (j : Nat) t, fn.params[j]? = some t → Tryd.pinned.checked.prog.wantsStandIn t = false := by
  obtain rfl : f = 6 := Option.some.inj ((show Tryd.prog.funcNamed "larder/larderlaw02.RelationPrints" = some 6 by kernel_rfl).symm.trans hf) |>.symm
  obtain rfl : fn = Tryd.f6 := (Option.some.inj (Tryd.func6.symm.trans hfn)).symm
  refine ⟨by kernel_rfl, fun j t ht => ?_⟩
  rw [Tryd.params6] at ht
  have hm := Array.mem_of_getElem? ht
  have hall : (([34, 22, 39, 44] : List TypeId).all fun t => !Tryd.prog.wantsStandIn t) = true := by kernel_rfl
  have hm2 : t ∈ ([34, 22, 39, 44] : List TypeId) := by simpa using hm
  have h3 := List.all_eq_true.1 hall t hm2
  exact (Bool.not_eq_true' _).mp h3

end Go.Proofs.YtfembjjpmjfklaaDoor.relationPrints

namespace Go.Proofs.YtfembjjpmjfklaaDoor
theorem relationPrints_card : Rows.RelationPrintsCardSaid :=
  Claim7.holds_tied_plain_at .later [] _ _ _ _ relationPrints.said (fun _ h => by cases h) (by kernel_rfl) (fun _ h => by cases h) relationPrints_row_tie rfl ⟨rfl, rfl⟩ (by kernel_rfl) rfl relationPrints.plain (by kernel_rfl)
end Go.Proofs.YtfembjjpmjfklaaDoor
