import Derived.Test.YtlknhpeeemhfgaaGreatDoorNnE
namespace Go.Proofs.YtlknhpeeemhfgaaGreatDoor
open Go.RowKit

theorem ca {W : World} {a : Addr} {v : Value} (o : Obj) (h : W.cell? a = some v) : (W.alloc o).cell? a = some v := cell_kept h (World.grownBy_alloc W o none) (fun r e => by cases e)

set_option maxRecDepth 100000 in
set_option maxHeartbeats 1000000 in
theorem Satisfiers_nil (w : World) :
    Calls Tryz.prog 10 #[.pointer none, .agg #[.string ⟨#[97, 97]⟩, .int .i64 0, .string ⟨#[]⟩]] w fun e w' => e = .returned (.slice none 0 0) ∧ Below w.heap.size w w' := by
  have hlk := fun w => look50 w ⟨#[97, 97]⟩ (by decide)
  go_enter Tryz.func10, Tryz.ntmps10
  go_wp2_with (first | (go_at_call 13; refine (orNothing_nil _).mono ?_; rintro e w' ⟨rfl, rfl⟩))
  obtain ⟨W0, hW0, B0, c0, c1, c2, s0⟩ : ∃ W0, (w.alloc (.cells #[.string ⟨#[97, 97]⟩, .int .i64 0, .string ⟨#[]⟩] 44)).alloc tab0 = W0 ∧ Below w.heap.size w W0 ∧ W0.cell? ⟨w.heap.size + 1, 2, none⟩ = some (.map none) ∧ W0.cell? ⟨w.heap.size + 1, 3, none⟩ = some (.map none) ∧ W0.cell? ⟨w.heap.size, 0, none⟩ = some (.string ⟨#[97, 97]⟩) ∧ w.heap.size + 1 < W0.heap.size :=
    ⟨_, rfl, ((Below.refl _ _).alloc (Nat.le_refl _) _).alloc (by simp) _, by go_simp, by go_simp, by go_simp, by simp⟩
  rw [hW0]
  clear hW0
  go_region_held3 (fun w' => w'.cell? ⟨w.heap.size + 1, 2, none⟩ = some (.map none) ∧ w'.cell? ⟨w.heap.size + 1, 3, none⟩ = some (.map none) ∧ w'.cell? ⟨w.heap.size, 0, none⟩ = some (.string ⟨#[97, 97]⟩)) (first | exact ⟨c0, c1, c2⟩ | exact ⟨ca _ c0, ca _ c1, ca _ c2⟩ | exact ⟨ca _ (ca _ (ca _ c0)), ca _ (ca _ (ca _ c1)), ca _ (ca _ (ca _ c2))⟩) (first | (go_at_call 18; refine (Concat_nil _ _ (by go_simp) (by go_simp)).mono ?_; rintro e w' ⟨rfl, rfl⟩) | (go_at_call 17; refine (choose_nil _ _ _).mono ?_; rintro e w' ⟨rfl, rfl⟩))
  all_goals
    go_wp2
    go_ret
    refine ⟨rfl, ?_⟩
    have hs := B0.size
    exact (((B0.alloc hs _).alloc (by simp; omega) _).alloc (by simp; omega) _).drew

end Go.Proofs.YtlknhpeeemhfgaaGreatDoor
