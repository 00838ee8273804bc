import Derived.Test.YtimjknjpelmdeaaNmPlain
namespace Go.Proofs.Ytimjknjpelmdeaa
open Go.RowKit

theorem ckName_no (s : ByteArray) (h : okName s = false) : ckName s = 20 := by unfold ckName; rw [h]; rfl
theorem ckName_yes (s : ByteArray) (h : okName s = true) : ckName s = 0 := by unfold ckName; rw [if_pos h]

theorem okName_of (s : ByteArray) (h2 : 2 ≤ s.size) (h3 : s.size ≤ 128) (hb : isN0 (s[0].toNat : Int) = true) : okName s = allB isNF s := by
  unfold okName
  rw [b0_eq s (by omega), hb, decide_eq_true h2, decide_eq_true h3]; rfl
theorem okName_short (s : ByteArray) (h2 : s.size < 2) : okName s = false := by
  unfold okName
  rw [decide_eq_false (by omega)]; rfl
theorem okName_long (s : ByteArray) (h2 : 128 < s.size) : okName s = false := by
  unfold okName
  rw [decide_eq_false (p := s.size ≤ 128) (by omega)]; simp
theorem okName_first (s : ByteArray) (h2 : 2 ≤ s.size) (hb : isN0 (s[0].toNat : Int) = false) : okName s = false := by
  unfold okName
  rw [b0_eq s (by omega), hb]; simp

set_option maxHeartbeats 1000000 in
theorem CheckName_any (s : ByteArray) (w : World) (hs : s.size ≤ maxLen) :
    Calls Try.prog 10 #[.string s] w fun e w' => e = .returned (.int .i64 (ckName s)) ∧ w' = w := by
  unfold maxLen at hs
  by_cases h2 : s.size < 2
  · have HF := hide (ckName_no s (okName_short s h2))
    go_enter Try.func10, Try.ntmps10
    go_wp2
    go_ret
    exact ⟨ret_i64 (unhide HF).symm, rfl⟩
  · by_cases h3 : 128 < s.size
    · have HF := hide (ckName_no s (okName_long s h3))
      go_enter Try.func10, Try.ntmps10
      go_wp2
      go_ret
      exact ⟨ret_i64 (unhide HF).symm, rfl⟩
    · cases hb : isN0 (s[0].toNat : Int)
      · have HF := hide (ckName_no s (okName_first s (by omega) hb))
        go_enter Try.func10, Try.ntmps10
        go_wp2_with (go_at_call 14; refine (mayBegin_any _ _).mono ?_; rintro e w' ⟨rfl, rfl⟩)
        go_ret
        exact ⟨ret_i64 (unhide HF).symm, rfl⟩
      · have HF := hide (okName_of s (by omega) (by omega) hb)
        go_enter Try.func10, Try.ntmps10
        go_wp2_with (go_at_call 14; refine (mayBegin_any _ _).mono ?_; rintro e w' ⟨rfl, rfl⟩)
        go_loop [3, 20] (fun _ i => ∃ k : Nat, k ≤ s.size ∧ i = .int .i64 k ∧ ∀ j (hj : j < s.size), j < k → isNF (s[j].toNat : Int) = true) (fun _ i => s.size - (intOf i).toNat)
        case atStart => exact ⟨0, Nat.zero_le _, rfl, fun j hj h => absurd h (Nat.not_lt_zero _)⟩
        case round =>
          obtain ⟨k, hk, rfl, hall⟩ := hrel
          have HA := hide hall
          clear hall
          by_cases hlt : k < s.size
          · cases hp : isNF (s[k].toNat : Int)
            · have HP := hide hp
              go_wp2_with (go_at_call 15; refine (mayFollow_any _ _).mono ?_; rintro e w' ⟨rfl, rfl⟩)
              go_ret
              exact ⟨ret_i64 (ckName_no s ((unhide HF).trans (allB_no _ s k hlt (unhide HP)))).symm, rfl⟩
            · have HP := hide hp
              go_wp2_with (go_at_call 15; refine (mayFollow_any _ _).mono ?_; rintro e w' ⟨rfl, rfl⟩)
              go_round
              case rel =>
                refine ⟨k + 1, by omega, by go_num, fun j hj h => ?_⟩
                by_cases e : j = k
                · subst e; exact unhide HP
                · exact unhide HA j hj (by omega)
              case measure => simp [intOf]; omega
          · go_wp2
            go_ret
            exact ⟨ret_i64 (ckName_yes s ((unhide HF).trans (allB_yes _ s fun j hj => unhide HA j hj (by omega)))).symm, rfl⟩

def mkB (n : Int) : Bool := (n == 43) || (n == 45) || (n == 46)
theorem isNF_mk (n : Int) : isNF n = (isN0 n || mkB n) := by unfold isNF mkB; cases isN0 n <;> cases (n == 43) <;> cases (n == 45) <;> rfl

theorem okName_at (s : ByteArray) (k : Nat) (h2 : 2 ≤ s.size) (h : k < s.size) (hw : isN0 (s[k].toNat : Int) = false) (hm : k = 0 ∨ mkB (s[k].toNat : Int) = false) : okName s = false := by
  rcases hm with rfl | hm
  · exact okName_first s h2 hw
  · unfold okName
    rw [allB_no _ s k h (by rw [isNF_mk, hw, hm]; rfl)]
    simp

set_option maxHeartbeats 1000000 in
theorem rCheckName_any (s : ByteArray) (w : World) (hs : s.size ≤ maxLen) :
    Calls Try.prog 12 #[.string s] w fun e w' => e = .returned (.int .i64 (ckName s)) ∧ w' = w := by
  unfold maxLen at hs
  by_cases h2 : s.size < 2
  · have HF := hide (ckName_no s (okName_short s h2))
    go_enter Try.func12, Try.ntmps12
    go_wp2
    go_ret
    exact ⟨ret_i64 (unhide HF).symm, rfl⟩
  · by_cases h3 : 128 < s.size
    · have HF := hide (ckName_no s (okName_long s h3))
      go_enter Try.func12, Try.ntmps12
      go_wp2
      go_ret
      exact ⟨ret_i64 (unhide HF).symm, rfl⟩
    · go_enter Try.func12, Try.ntmps12
      go_wp2
      go_loop [3, 4, 5, 6] (fun i _ _ _ => ∃ k : Nat, k ≤ s.size ∧ i = .int .i64 k ∧ ∀ j (hj : j < s.size), j < k → (isN0 (s[j].toNat : Int) = true ∨ (0 < j ∧ mkB (s[j].toNat : Int) = true))) (fun i _ _ _ => s.size - (intOf i).toNat)
      case atStart => exact ⟨0, Nat.zero_le _, rfl, fun j hj h => absurd h (Nat.not_lt_zero _)⟩
      case round =>
        obtain ⟨k, hk, rfl, hall⟩ := hrel
        have HA := hide hall
        clear hall
        by_cases hlt : k < s.size
        · have HN := hide (show s.size ≤ maxLen from hs)
          have HS := hide (okName_at s k (by omega) hlt)
          clear HN
          by_cases hk0 : k = 0
          · subst hk0
            go_wp2
            all_goals first
              | (go_ret
                 exact ⟨ret_i64 (ckName_no s (unhide HS (by clear HS HA; simp [isN0] <;> (try simp at *) <;> omega) (.inl (by trivial)))).symm, rfl⟩)
              | (go_round
                 case rel =>
                   refine ⟨1, by omega, by go_num, fun j hj h => ?_⟩
                   obtain rfl : j = 0 := by omega
                   refine .inl ?_
                   clear HS HA
                   simp [isN0] <;> (try simp at *) <;> omega
                 case measure => simp [intOf]; omega)
          · go_wp2
            all_goals first
              | (go_ret
                 exact ⟨ret_i64 (ckName_no s (unhide HS (by clear HS HA; simp [isN0] <;> (try simp at *) <;> omega) (.inr (by clear HS HA; simp [mkB] <;> (try simp at *) <;> omega)))).symm, rfl⟩)
              | (go_round
                 case rel =>
                   refine ⟨k + 1, by omega, by go_num, fun j hj h => ?_⟩
                   by_cases e : j = k
                   · subst e
                     clear HS HA
                     simp [isN0, mkB] <;> (try simp at *) <;> omega
                   · exact unhide HA j hj (by omega)
                 case measure => simp [intOf]; omega)
        · go_wp2
          go_ret
          exact ⟨ret_i64 (ckName_yes s (by
            rw [okName_of s (by omega) (by omega) (by
              rcases unhide HA 0 (by omega) (by omega) with h | ⟨h, -⟩
              · exact h
              · omega)]
            exact allB_yes _ s fun j hj => by
              rw [isNF_mk]
              rcases unhide HA j hj (by omega) with h | ⟨-, h⟩
              · rw [h]; rfl
              · rw [h]; simp)).symm, rfl⟩

end Go.Proofs.Ytimjknjpelmdeaa
