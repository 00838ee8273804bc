import Derived.Test.YtlknhpeeemhfgaaGreatDoorNnD
namespace Go.Proofs.YtlknhpeeemhfgaaGreatDoor
open Go.RowKit

set_option maxRecDepth 100000 in
set_option maxHeartbeats 1000000 in
theorem Versions_nil (w : World) :
    Calls Tryz.prog 8 #[.pointer none, .string ⟨#[97, 97]⟩] w fun e w' => (∃ q k, e = .returned (.slice q 0 k)) ∧ Below w.heap.size w w' := by
  have hlk := fun w => look50 w ⟨#[97, 97]⟩ (by decide)
  have m3 := make25
  go_enter Tryz.func8, Tryz.ntmps8
  go_wp2_with (first | (go_at_call 13; refine (orNothing_nil _).mono ?_; rintro e w' ⟨rfl, rfl⟩))
  go_loop [26] (fun i => i = .int .i64 0) (fun _ => 0)
  case atStart => rfl
  case round =>
    obtain rfl := hrel
    go_wp2_with (go_at_call 15; refine (DSort_nil _ _ _).mono ?_; rintro e w' ⟨⟨q, k, rfl⟩, hb⟩; have HB := hide hb; clear hb)
    go_loop [50] (fun i => i = .int .i64 0) (fun _ => 0)
    case atStart => rfl
    case round =>
      obtain rfl := hrel
      go_wp2
      go_ret
      exact ⟨⟨_, _, rfl⟩, bl_t (((Below.refl _ _).alloc (Nat.le_refl _) _).alloc (by simp) _) (unhide HB)⟩

end Go.Proofs.YtlknhpeeemhfgaaGreatDoor
