import Derived.Test.YtmckmeoondlcpaaDoorLeaf
namespace Go.Proofs.YtmckmeoondlcpaaDoor
open Go.RowKit

theorem ret_i64 {a b : Int} (h : a = b) : Ending.returned (.int .i64 a) = .returned (.int .i64 b) := by rw [h]
theorem ret_str {a b : ByteArray} (h : a = b) : Ending.returned (.string a) = .returned (.string b) := by rw [h]

set_option maxHeartbeats 1000000 in
theorem checkParts_any (e u r : ByteArray) (c d : Bool) (w : World) (he : e.size ≤ maxLen) (hu : u.size ≤ maxLen) (hr : r.size ≤ maxLen) :
    Calls Tryd.prog 30 #[.agg #[.string e, .string u, .string r, .bool c, .bool d]] w fun x w' => x = .returned (.int .i64 (chk e u r c d)) ∧ Below w.heap.size w w' := by
  have hsz : u.toList.isEmpty = false → 0 < u.size := by
    intro h
    have : u.toList ≠ [] := by intro h'; simp [h'] at h
    rw [Lib.toList_data] at this
    have := List.length_pos_iff.2 this
    simpa using this
  cases h1 : u.toList.isEmpty
  · have h0 := hsz h1
    have hb0 := b0_eq u h0
    clear hsz
    cases hd : isDig (b0 u)
    all_goals
      have HD := hide hd
      rw [hb0] at hd
      clear hb0
    all_goals cases h2 : e.toList.isEmpty <;> cases h3 : allB (kind 41) e <;> cases c <;> cases d
    all_goals
      go_enter Tryd.func30, Tryd.ntmps30
      go_wp2_with (first | (go_at_call 41; refine (isDigit_any _ _).mono ?_; rintro e w' ⟨rfl, rfl⟩) | (go_at_call 40; refine (consists_any _ _ (by decide) _ (by assumption)).mono ?_; rintro e w' ⟨rfl, rfl⟩))
    all_goals go_ret
    all_goals exact ⟨ret_i64 (by simp [chk, unhide HD, *]), (Below.refl _ _).alloc (Nat.le_refl _) _⟩
  · go_enter Tryd.func30, Tryd.ntmps30
    go_wp2
    go_ret
    exact ⟨ret_i64 (by simp [chk, h1]), (Below.refl _ _).alloc (Nat.le_refl _) _⟩

end Go.Proofs.YtmckmeoondlcpaaDoor
