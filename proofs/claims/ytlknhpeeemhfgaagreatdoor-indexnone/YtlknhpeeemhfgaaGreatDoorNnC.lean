import Derived.Test.YtlknhpeeemhfgaaGreatDoorNnB
namespace Go.Proofs.YtlknhpeeemhfgaaGreatDoor
open Go.RowKit

set_option maxRecDepth 100000 in
set_option maxHeartbeats 1000000 in
theorem Concat_nil (b : Nat) (w : World) (h0 : w.cell? ⟨b, 0, none⟩ = some (.slice none 0 0)) (h1 : w.cell? ⟨b, 1, none⟩ = some (.slice none 0 0)) :
    Calls Tryz.prog 18 #[.slice (some ⟨b, 0, none⟩) 2 2] w fun e w' => e = .returned (.slice none 0 0) ∧ w' = w := by
  go_enter Tryz.func18, Tryz.ntmps18
  go_wp2
  go_loop [3, 11] (fun s i => s = .int .i64 0 ∧ (i = .int .i64 0 ∨ i = .int .i64 1 ∨ i = .int .i64 2)) (fun _ i => (2 - intOf i).toNat)
  case atStart => exact ⟨rfl, .inl rfl⟩
  case round =>
    obtain ⟨rfl, (rfl | rfl | rfl)⟩ := hrel
    · go_wp2
      go_round
      case rel => exact ⟨rfl, .inr (.inl rfl)⟩
      case measure => decide
    · go_wp2
      go_round
      case rel => exact ⟨rfl, .inr (.inr rfl)⟩
      case measure => decide
    · go_wp2_with (go_at_call 38; refine (Grow_nil _).mono ?_; rintro e w' ⟨rfl, rfl⟩)
      go_loop [6, 27] (fun s i => s = .slice none 0 0 ∧ (i = .int .i64 0 ∨ i = .int .i64 1 ∨ i = .int .i64 2)) (fun _ i => (2 - intOf i).toNat)
      case atStart => exact ⟨rfl, .inl rfl⟩
      case round =>
        obtain ⟨rfl, (rfl | rfl | rfl)⟩ := hrel
        · go_wp2
          go_round
          case rel => exact ⟨rfl, .inr (.inl rfl)⟩
          case measure => decide
        · go_wp2
          go_round
          case rel => exact ⟨rfl, .inr (.inr rfl)⟩
          case measure => decide
        · go_wp2
          go_ret
          exact ⟨rfl, rfl⟩

end Go.Proofs.YtlknhpeeemhfgaaGreatDoor
