import Derived.Test.YtapkhfblhdicbaaOpB
namespace Go.Proofs.Ytapkhfblhdicbaa.storeTorn
open Go.ChangeShapes Go.WideShapes Go.ChangeAt Go.RowKit

set_option maxRecDepth 100000 in
theorem lifted (os : Os) (started : os.Started) (H : Type) (enc : TypeId × Value → H) :
    ReturnsInHanded {} Try.checked os 3 .any (Rows.storeTornSpec.pre6 enc Try.prog Try.f3 Rows.storeTornRow.domain false) (Rows.storeTornSpec.post enc Try.prog Try.f3 false true false false) := by
  refine returnsInHanded_of_change_sized (C := Try.checked) own started (by kernel_rfl) Try.func3
    (ChangeSpec.witness6 (enc := enc) (C := Try.checked) false ⟨#[], #[.slice none 0 0, .slice none 0 0, .int .i64 0], []⟩ 8 (by kernel_rfl) (by kernel_rfl) (by kernel_rfl) (by kernel_rfl)) ?_
  intro W base args ds gs before hval0 hW _ hsz _
  have hval : ∀ (j : Nat) t v, Try.f3.params[j]? = some t → args[j]? = some v → Value.okWide Try.prog W .any base t v := hval0
  have hW' := hW
  obtain ⟨p, q, hA0, hV, rfl, hfz, hnd⟩ := hW
  have hA : DataW.TrodAll enc Try.prog W 0 (fun _ => true) true Try.f3.params.toList args.toList ds p := hA0
  rw [Try.params3] at hA hval hsz
  obtain ⟨v0, vs0, d0, ds0, p0, q0, hargs, rfl, rfl, h0, r0⟩ := trodAll_cons hA
  obtain ⟨v1, vs1, d1, ds1, p1, q1, rfl, rfl, rfl, h1, r1⟩ := trodAll_cons r0
  obtain ⟨v2, vs2, d2, ds2, p2, q2, rfl, rfl, rfl, h2, r2⟩ := trodAll_cons r1
  obtain ⟨rfl, rfl, rfl⟩ := trodAll_nil r2
  obtain rfl : args = #[v0, v1, v2] := by cases args; simp_all
  obtain ⟨rfl, rfl⟩ := trodVars_none hV
  have k0 := h0
  have k1 := h1
  have k2 := h2
  have lt0 : ∀ x ∈ p0, x.block < W.heap.size := by obtain ⟨m, hm⟩ := k0; exact DataW.trod_lt m _ _ _ hm
  have lt1 : ∀ x ∈ p1, x.block < W.heap.size := by obtain ⟨m, hm⟩ := k1; exact DataW.trod_lt m _ _ _ hm
  have lt2 : ∀ x ∈ p2, x.block < W.heap.size := by obtain ⟨m, hm⟩ := k2; exact DataW.trod_lt m _ _ _ hm
  have hall := List.all_eq_true.1 hsz
  have hw0 : ∀ n ∈ d0.weights Try.prog 22, n ≤ 140737488351232 := fun n hn => by
    exact of_decide_eq_true (hall n (List.mem_append_left _ hn))
  have hw1 : ∀ n ∈ d1.weights Try.prog 22, n ≤ 140737488351232 := fun n hn => by
    exact of_decide_eq_true (hall n (List.mem_append_right _ (List.mem_append_left _ hn)))
  obtain ⟨os, oa, oc, rfl, ho, ho0, hoc, how⟩ := open_b (hval 0 22 v0 rfl rfl) h0
  obtain ⟨ds, da, dc, rfl, hd, hd0, hdc, hdw⟩ := open_b (hval 1 22 v1 rfl rfl) h1
  obtain ⟨k, rfl, rfl, rfl, zk⟩ := open_int Try.underlying3 (hval 2 3 v2 rfl rfl) h2
  have e0 : os.length ≤ 140737488355328 := by
    by_cases h : 0 < os.length
    · obtain ⟨z, a, b⟩ := how h
      have := hw0 _ a
      omega
    · omega
  have e1 : ds.length ≤ 140737488355328 := by
    by_cases h : 0 < ds.length
    · obtain ⟨z, a, b⟩ := hdw h
      have := hw1 _ a
      omega
    · omega
  have ek : k ≤ 9223372036854775807 := by
    have h2 : IntKind.i64.max = 9223372036854775807 := rfl
    simp only [Lit.wf, Bool.and_eq_true, decide_eq_true_eq] at zk
    omega
  clear hA0 hval0
  refine (torn_walk oc dc ho hd ho0 hd0 e0 e1 hdc k ek).mono fun x W' ⟨he, bel⟩ => ?_
  subst he
  exact ⟨_, rfl, _, _, _, [], _, [], hW', trodAll_mk1 (shut_bool Try.underlying4 _), (trodAll_cons_mk (Below.trod laidOut (by kernel_rfl) (of_decide_eq_true (by kernel_rfl)) k0 bel lt0) (trodAll_cons_mk (Below.trod laidOut (by kernel_rfl) (of_decide_eq_true (by kernel_rfl)) k1 bel lt1) (trodAll_cons_mk (Below.trod laidOut (by kernel_rfl) (of_decide_eq_true (by kernel_rfl)) k2 bel lt2) trodAll_mk0))), rfl, bel.frame _, fun h => by cases h⟩

theorem over : Rows.storeTornRow.holds Try.pinned (OpenSpec.ofChange Rows.storeTornSpec) :=
  OpenClaim.holds_of_wide 3 Try.f3 rfl rfl rfl rfl rfl rfl rfl ⟨rfl, rfl, rfl, rfl, rfl⟩ rfl rfl rfl rfl rfl (by kernel_rfl) Try.func3 (by kernel_rfl)
    (of_decide_eq_true (by kernel_rfl)) (by unfold Func.isWrapper; first | (rw [if_pos (by decide +kernel)]; kernel_rfl) | (rw [if_neg (by decide +kernel)]; exact ⟨rfl, rfl⟩))
    (fun os started H enc _ => lifted os started H enc)

end Go.Proofs.Ytapkhfblhdicbaa.storeTorn

namespace Go.Proofs.Ytapkhfblhdicbaa
theorem storeTorn_proved : Rows.StoreTornSaid := storeTorn.over
end Go.Proofs.Ytapkhfblhdicbaa
