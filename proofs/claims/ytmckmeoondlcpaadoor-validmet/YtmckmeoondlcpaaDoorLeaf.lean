import Derived.Test.YtmckmeoondlcpaaDoorProg
import Derived.Test.YtmckmeoondlcpaaDoorPlain
import Derived.WalkKit
import Derived.WalkSpells
import Derived.WalkLawsBesides
namespace Go.Proofs.YtmckmeoondlcpaaDoor
open Go.RowKit

theorem ret_bool {a b : Bool} (h : a = b) : Ending.returned (.bool a) = .returned (.bool b) := by rw [h]

set_option maxHeartbeats 400000 in
theorem isDigit_any (b : Int) (w : World) :
    Calls Tryd.prog 41 #[.int .u8 b] w fun e w' => e = .returned (.bool (isDig b)) ∧ w' = w := by
  go_enter Tryd.func41, Tryd.ntmps41
  go_wp2
  all_goals go_ret
  all_goals exact ⟨ret_bool (by simp [isDig, *] <;> omega), rfl⟩

set_option maxHeartbeats 400000 in
theorem isLetter_any (b : Int) (w : World) :
    Calls Tryd.prog 58 #[.int .u8 b] w fun e w' => e = .returned (.bool (isLet b)) ∧ w' = w := by
  go_enter Tryd.func58, Tryd.ntmps58
  go_wp2
  all_goals go_ret
  all_goals exact ⟨ret_bool (by simp [isLet, *] <;> omega), rfl⟩

set_option maxHeartbeats 400000 in
theorem mayBeRevision_any (b : Int) (w : World) :
    Calls Tryd.prog 43 #[.int .u8 b] w fun e w' => e = .returned (.bool (isRev b)) ∧ w' = w := by
  cases h1 : isLet b <;> cases h2 : isDig b <;> cases h3 : (b == 46) <;> cases h4 : (b == 43) <;> cases h5 : (b == 126)
  all_goals
    go_enter Tryd.func43, Tryd.ntmps43
    go_wp2_with (first | (go_at_call 58; refine (isLetter_any _ _).mono ?_; rintro e w' ⟨rfl, rfl⟩) | (go_at_call 41; refine (isDigit_any _ _).mono ?_; rintro e w' ⟨rfl, rfl⟩))
    go_ret
    exact ⟨ret_bool (by simp [isRev, h1, h2, h3, h4, h5]), rfl⟩

set_option maxHeartbeats 400000 in
theorem mayBeUpstream_any (b : Int) (w : World) :
    Calls Tryd.prog 42 #[.int .u8 b] w fun e w' => e = .returned (.bool (isUp b)) ∧ w' = w := by
  cases h1 : isRev b <;> cases h2 : (b == 45) <;> cases h3 : (b == 58)
  all_goals
    go_enter Tryd.func42, Tryd.ntmps42
    go_wp2_with (go_at_call 43; refine (mayBeRevision_any _ _).mono ?_; rintro e w' ⟨rfl, rfl⟩)
    go_ret
    exact ⟨ret_bool (by simp [isUp, h1, h2, h3]), rfl⟩

set_option maxHeartbeats 400000 in
theorem consists_dig (s : ByteArray) (w : World) (hs : s.size ≤ maxLen) :
    Calls Tryd.prog 40 #[.string s, .func (.func 41) #[] #[]] w fun e w' => e = .returned (.bool (allB isDig s)) ∧ w' = w := by
  unfold maxLen at hs
  go_enter Tryd.func40, Tryd.ntmps40
  go_wp2
  go_loop [5, 8] (fun _ i => ∃ k : Nat, k ≤ s.size ∧ i = .int .i64 k ∧ ∀ j (hj : j < s.size), j < k → isDig (s[j].toNat : Int) = true) (fun _ i => s.size - (intOf i).toNat)
  case atStart => exact ⟨0, Nat.zero_le _, rfl, fun j hj h => absurd h (Nat.not_lt_zero _)⟩
  case round =>
    obtain ⟨k, hk, rfl, hall⟩ := hrel
    have HA : Hid (∀ j (hj : j < s.size), j < k → isDig (s[j].toNat : Int) = true) := hall
    clear hall
    by_cases hlt : k < s.size
    · cases hp : isDig (s[k].toNat : Int)
      · have HP : Hid (isDig (s[k].toNat : Int) = false) := hp
        go_wp2_with (go_at_call 41; refine (isDigit_any _ _).mono ?_; rintro e w' ⟨rfl, rfl⟩)
        go_ret
        exact ⟨ret_bool (allB_no _ s k hlt HP.out).symm, rfl⟩
      · have HP : Hid (isDig (s[k].toNat : Int) = true) := hp
        go_wp2_with (go_at_call 41; refine (isDigit_any _ _).mono ?_; rintro e w' ⟨rfl, rfl⟩)
        go_round
        case rel =>
          refine ⟨k + 1, by omega, by go_num, fun j hj h => ?_⟩
          by_cases e : j = k
          · subst e; exact HP.out
          · exact HA.out j hj (by omega)
        case measure => simp [intOf]; omega
    · go_wp2
      go_ret
      exact ⟨ret_bool (allB_yes _ s fun j hj => HA.out j hj (by omega)).symm, rfl⟩

set_option maxHeartbeats 400000 in
theorem consists_up (s : ByteArray) (w : World) (hs : s.size ≤ maxLen) :
    Calls Tryd.prog 40 #[.string s, .func (.func 42) #[] #[]] w fun e w' => e = .returned (.bool (allB isUp s)) ∧ w' = w := by
  unfold maxLen at hs
  go_enter Tryd.func40, Tryd.ntmps40
  go_wp2
  go_loop [5, 8] (fun _ i => ∃ k : Nat, k ≤ s.size ∧ i = .int .i64 k ∧ ∀ j (hj : j < s.size), j < k → isUp (s[j].toNat : Int) = true) (fun _ i => s.size - (intOf i).toNat)
  case atStart => exact ⟨0, Nat.zero_le _, rfl, fun j hj h => absurd h (Nat.not_lt_zero _)⟩
  case round =>
    obtain ⟨k, hk, rfl, hall⟩ := hrel
    have HA : Hid (∀ j (hj : j < s.size), j < k → isUp (s[j].toNat : Int) = true) := hall
    clear hall
    by_cases hlt : k < s.size
    · cases hp : isUp (s[k].toNat : Int)
      · have HP : Hid (isUp (s[k].toNat : Int) = false) := hp
        go_wp2_with (go_at_call 42; refine (mayBeUpstream_any _ _).mono ?_; rintro e w' ⟨rfl, rfl⟩)
        go_ret
        exact ⟨ret_bool (allB_no _ s k hlt HP.out).symm, rfl⟩
      · have HP : Hid (isUp (s[k].toNat : Int) = true) := hp
        go_wp2_with (go_at_call 42; refine (mayBeUpstream_any _ _).mono ?_; rintro e w' ⟨rfl, rfl⟩)
        go_round
        case rel =>
          refine ⟨k + 1, by omega, by go_num, fun j hj h => ?_⟩
          by_cases e : j = k
          · subst e; exact HP.out
          · exact HA.out j hj (by omega)
        case measure => simp [intOf]; omega
    · go_wp2
      go_ret
      exact ⟨ret_bool (allB_yes _ s fun j hj => HA.out j hj (by omega)).symm, rfl⟩

set_option maxHeartbeats 400000 in
theorem consists_rev (s : ByteArray) (w : World) (hs : s.size ≤ maxLen) :
    Calls Tryd.prog 40 #[.string s, .func (.func 43) #[] #[]] w fun e w' => e = .returned (.bool (allB isRev s)) ∧ w' = w := by
  unfold maxLen at hs
  go_enter Tryd.func40, Tryd.ntmps40
  go_wp2
  go_loop [5, 8] (fun _ i => ∃ k : Nat, k ≤ s.size ∧ i = .int .i64 k ∧ ∀ j (hj : j < s.size), j < k → isRev (s[j].toNat : Int) = true) (fun _ i => s.size - (intOf i).toNat)
  case atStart => exact ⟨0, Nat.zero_le _, rfl, fun j hj h => absurd h (Nat.not_lt_zero _)⟩
  case round =>
    obtain ⟨k, hk, rfl, hall⟩ := hrel
    have HA : Hid (∀ j (hj : j < s.size), j < k → isRev (s[j].toNat : Int) = true) := hall
    clear hall
    by_cases hlt : k < s.size
    · cases hp : isRev (s[k].toNat : Int)
      · have HP : Hid (isRev (s[k].toNat : Int) = false) := hp
        go_wp2_with (go_at_call 43; refine (mayBeRevision_any _ _).mono ?_; rintro e w' ⟨rfl, rfl⟩)
        go_ret
        exact ⟨ret_bool (allB_no _ s k hlt HP.out).symm, rfl⟩
      · have HP : Hid (isRev (s[k].toNat : Int) = true) := hp
        go_wp2_with (go_at_call 43; refine (mayBeRevision_any _ _).mono ?_; rintro e w' ⟨rfl, rfl⟩)
        go_round
        case rel =>
          refine ⟨k + 1, by omega, by go_num, fun j hj h => ?_⟩
          by_cases e : j = k
          · subst e; exact HP.out
          · exact HA.out j hj (by omega)
        case measure => simp [intOf]; omega
    · go_wp2
      go_ret
      exact ⟨ret_bool (allB_yes _ s fun j hj => HA.out j hj (by omega)).symm, rfl⟩

theorem consists_any (s : ByteArray) (g : Nat) (hg : g = 41 ∨ g = 42 ∨ g = 43) (w : World) (hs : s.size ≤ maxLen) :
    Calls Tryd.prog 40 #[.string s, .func (.func g) #[] #[]] w fun e w' => e = .returned (.bool (allB (kind g) s)) ∧ w' = w := by
  rcases hg with rfl | rfl | rfl
  · exact consists_dig s w hs
  · exact consists_up s w hs
  · exact consists_rev s w hs

end Go.Proofs.YtmckmeoondlcpaaDoor
