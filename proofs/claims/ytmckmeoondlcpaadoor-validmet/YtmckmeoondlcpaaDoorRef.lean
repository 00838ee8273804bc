import Derived.Test.YtmckmeoondlcpaaDoorParse
namespace Go.Proofs.YtmckmeoondlcpaaDoor
open Go.RowKit

set_option maxHeartbeats 400000 in
theorem rdigit_any (b : Int) (w : World) :
    Calls Tryd.prog 50 #[.int .u8 b] w fun e w' => e = .returned (.bool (isDig b)) ∧ w' = w := by
  go_enter Tryd.func50, Tryd.ntmps50
  go_wp2
  all_goals go_ret
  all_goals exact ⟨ret_bool (by simp [isDig, *] <;> omega), rfl⟩

set_option maxHeartbeats 400000 in
theorem rletter_any (b : Int) (w : World) :
    Calls Tryd.prog 68 #[.int .u8 b] w fun e w' => e = .returned (.bool (isLet b)) ∧ w' = w := by
  go_enter Tryd.func68, Tryd.ntmps68
  go_wp2
  all_goals go_ret
  all_goals exact ⟨ret_bool (by simp [isLet, *] <;> omega), rfl⟩

set_option maxHeartbeats 400000 in
theorem rplain_any (b : Int) (w : World) :
    Calls Tryd.prog 51 #[.int .u8 b] w fun e w' => e = .returned (.bool (isRev b)) ∧ w' = w := by
  cases h1 : isLet b <;> cases h2 : isDig b <;> cases h3 : (b == 46) <;> cases h4 : (b == 43) <;> cases h5 : (b == 126)
  all_goals
    go_enter Tryd.func51, Tryd.ntmps51
    go_wp2_with (first | (go_at_call 68; refine (rletter_any _ _).mono ?_; rintro e w' ⟨rfl, rfl⟩) | (go_at_call 50; refine (rdigit_any _ _).mono ?_; rintro e w' ⟨rfl, rfl⟩))
    go_ret
    exact ⟨ret_bool (by simp [isRev, h1, h2, h3, h4, h5]), rfl⟩

theorem isEmpty_size (s : ByteArray) : s.toList.isEmpty = decide (s.size = 0) := by
  have h : s.data.toList.length = s.size := by simp
  rw [Lib.toList_data, Bool.eq_iff_iff, List.isEmpty_iff, ← List.length_eq_zero_iff, h, decide_eq_true_eq]

set_option maxHeartbeats 400000 in
theorem rdigits_any (s : ByteArray) (w : World) (hs : s.size ≤ maxLen) :
    Calls Tryd.prog 49 #[.string s] w fun e w' => e = .returned (.bool (allB isDig s && !s.toList.isEmpty)) ∧ w' = w := by
  unfold maxLen at hs
  go_enter Tryd.func49, Tryd.ntmps49
  go_wp2
  go_loop [3] (fun i => ∃ k : Nat, k ≤ s.size ∧ i = .int .i64 k ∧ ∀ j (hj : j < s.size), j < k → isDig (s[j].toNat : Int) = true) (fun i => s.size - (intOf i).toNat)
  case atStart => exact ⟨0, Nat.zero_le _, rfl, fun j hj h => absurd h (Nat.not_lt_zero _)⟩
  case round =>
    obtain ⟨k, hk, rfl, hall⟩ := hrel
    have HA := hide hall
    clear hall
    by_cases hlt : k < s.size
    · cases hp : isDig (s[k].toNat : Int)
      · have HP := hide hp
        go_wp2_with (go_at_call 50; refine (rdigit_any _ _).mono ?_; rintro e w' ⟨rfl, rfl⟩)
        go_ret
        exact ⟨ret_bool (by rw [allB_no _ s k hlt (unhide HP)]; rfl), rfl⟩
      · have HP := hide hp
        go_wp2_with (go_at_call 50; refine (rdigit_any _ _).mono ?_; rintro e w' ⟨rfl, rfl⟩)
        go_round
        case rel =>
          refine ⟨k + 1, by omega, by go_num, fun j hj h => ?_⟩
          by_cases e : j = k
          · subst e; exact unhide HP
          · exact unhide HA j hj (by omega)
        case measure => simp [intOf]; omega
    · go_wp2
      all_goals go_ret
      all_goals exact ⟨ret_bool (by rw [allB_yes _ s fun j hj => unhide HA j hj (by omega), isEmpty_size]; rw [Bool.eq_iff_iff]; simp only [Bool.true_and, Bool.not_eq_true', decide_eq_true_eq, decide_eq_false_iff_not]; omega), rfl⟩

def upR (c d : Bool) (n : Int) : Bool := isRev n || (n == 45 && d) || (n == 58 && c)

/-- ref's first error of parts. -/
def wrong (e u r : ByteArray) (c d : Bool) : Int :=
  if u.toList.isEmpty = true then 11
  else if (c && !(allB isDig e && !e.toList.isEmpty)) = true then 12
  else if (d && r.toList.isEmpty) = true then 13
  else if isDig (b0 u) = false then 14
  else if allB (upR c d) u = false then 15
  else if allB isRev r = false then 15 else 0

set_option maxHeartbeats 4000000 in
theorem rwrong_loops_false_false (e u r : ByteArray) (w : World) (hu' : u.size ≤ 9223372036854775807) (hr' : r.size ≤ 9223372036854775807) (h0 : 0 < u.size) (h1 : u.toList.isEmpty = false)  (hd : isDig (u[0].toNat : Int) = true)
     (HB : Below w.heap.size w (w.alloc (.cells #[.string e, .string u, .string r, .bool false, .bool false] 55)))
    (hf : wrong e u r false false = if allB (upR false false) u = false then 15 else if allB isRev r = false then 15 else 0) :
    Calls Tryd.prog 35 #[.agg #[.string e, .string u, .string r, .bool false, .bool false]] w fun x w' => x = .returned (.int .i64 (wrong e u r false false)) ∧ Below w.heap.size w w' := by
        have HF := hide hf
        clear hf
        have hB := hide HB
        clear HB
        skip

        go_enter Tryd.func35, Tryd.ntmps35
        go_wp2_with (first | (go_at_call 50; refine (rdigit_any _ _).mono ?_; rintro e w' ⟨rfl, rfl⟩))
        go_loop [3, 4] (fun i _ => ∃ k : Nat, k ≤ u.size ∧ i = .int .i64 k ∧ ∀ j (hj : j < u.size), j < k → upR false false (u[j].toNat : Int) = true) (fun i _ => u.size - (intOf i).toNat)
        case atStart => exact ⟨0, Nat.zero_le _, rfl, fun j hj h => absurd h (Nat.not_lt_zero _)⟩
        case round =>
          obtain ⟨k, hk, rfl, hall⟩ := hrel
          have HA := hide hall
          clear hall
          by_cases hlt : k < u.size
          · cases a1 : isRev (u[k].toNat : Int) <;> cases a2 : ((u[k].toNat : Int) == 45) <;> cases a3 : ((u[k].toNat : Int) == 58)
            all_goals
              have HP := hide (show upR false false (u[k].toNat : Int) = _ by simp only [upR, a1, a2, a3]; rfl)
              go_wp2_with (go_at_call 51; refine (rplain_any _ _).mono ?_; rintro e w' ⟨rfl, rfl⟩)
            all_goals first
              | (go_ret
                 exact ⟨ret_i64 (by simp only [unhide HF]; rw [allB_no _ u k hlt (unhide HP)]; rfl), unhide hB⟩)
              | (go_round
                 case rel =>
                   refine ⟨k + 1, by omega, by go_num, fun j hj h => ?_⟩
                   by_cases e : j = k
                   · subst e; exact unhide HP
                   · exact unhide HA j hj (by omega)
                 case measure => simp [intOf]; omega)
          · have HU := hide (allB_yes _ u fun j hj => unhide HA j hj (by omega))
            clear HA
            go_wp2
            go_loop [5] (fun i => ∃ k : Nat, k ≤ r.size ∧ i = .int .i64 k ∧ ∀ j (hj : j < r.size), j < k → isRev (r[j].toNat : Int) = true) (fun i => r.size - (intOf i).toNat)
            case atStart => exact ⟨0, Nat.zero_le _, rfl, fun j hj h => absurd h (Nat.not_lt_zero _)⟩
            case round =>
              obtain ⟨m, hm, rfl, hall⟩ := hrel
              have HA := hide hall
              clear hall
              by_cases hlt2 : m < r.size
              · cases hp : isRev (r[m].toNat : Int)
                · have HP := hide hp
                  go_wp2_with (go_at_call 51; refine (rplain_any _ _).mono ?_; rintro e w' ⟨rfl, rfl⟩)
                  go_ret
                  exact ⟨ret_i64 (by rw [unhide HF, unhide HU, allB_no _ r m hlt2 (unhide HP)]; rfl), unhide hB⟩
                · have HP := hide hp
                  go_wp2_with (go_at_call 51; refine (rplain_any _ _).mono ?_; rintro e w' ⟨rfl, rfl⟩)
                  go_round
                  case rel =>
                    refine ⟨m + 1, by omega, by go_num, fun j hj h => ?_⟩
                    by_cases e : j = m
                    · subst e; exact unhide HP
                    · exact unhide HA j hj (by omega)
                  case measure => simp [intOf]; omega
              · go_wp2
                go_ret
                exact ⟨ret_i64 (by rw [unhide HF, unhide HU, allB_yes _ r fun j hj => unhide HA j hj (by omega)]; rfl), unhide hB⟩

set_option maxHeartbeats 4000000 in
theorem rwrong_loops_false_true (e u r : ByteArray) (w : World) (hu' : u.size ≤ 9223372036854775807) (hr' : r.size ≤ 9223372036854775807) (h0 : 0 < u.size) (h1 : u.toList.isEmpty = false) (h3 : r.toList.isEmpty = false) (hd : isDig (u[0].toNat : Int) = true)
     (HB : Below w.heap.size w (w.alloc (.cells #[.string e, .string u, .string r, .bool false, .bool true] 55)))
    (hf : wrong e u r false true = if allB (upR false true) u = false then 15 else if allB isRev r = false then 15 else 0) :
    Calls Tryd.prog 35 #[.agg #[.string e, .string u, .string r, .bool false, .bool true]] w fun x w' => x = .returned (.int .i64 (wrong e u r false true)) ∧ Below w.heap.size w w' := by
        have HF := hide hf
        clear hf
        have hB := hide HB
        clear HB
        skip

        go_enter Tryd.func35, Tryd.ntmps35
        go_wp2_with (first | (go_at_call 50; refine (rdigit_any _ _).mono ?_; rintro e w' ⟨rfl, rfl⟩))
        go_loop [3, 4] (fun i _ => ∃ k : Nat, k ≤ u.size ∧ i = .int .i64 k ∧ ∀ j (hj : j < u.size), j < k → upR false true (u[j].toNat : Int) = true) (fun i _ => u.size - (intOf i).toNat)
        case atStart => exact ⟨0, Nat.zero_le _, rfl, fun j hj h => absurd h (Nat.not_lt_zero _)⟩
        case round =>
          obtain ⟨k, hk, rfl, hall⟩ := hrel
          have HA := hide hall
          clear hall
          by_cases hlt : k < u.size
          · cases a1 : isRev (u[k].toNat : Int) <;> cases a2 : ((u[k].toNat : Int) == 45) <;> cases a3 : ((u[k].toNat : Int) == 58)
            all_goals
              have HP := hide (show upR false true (u[k].toNat : Int) = _ by simp only [upR, a1, a2, a3]; rfl)
              go_wp2_with (go_at_call 51; refine (rplain_any _ _).mono ?_; rintro e w' ⟨rfl, rfl⟩)
            all_goals first
              | (go_ret
                 exact ⟨ret_i64 (by simp only [unhide HF]; rw [allB_no _ u k hlt (unhide HP)]; rfl), unhide hB⟩)
              | (go_round
                 case rel =>
                   refine ⟨k + 1, by omega, by go_num, fun j hj h => ?_⟩
                   by_cases e : j = k
                   · subst e; exact unhide HP
                   · exact unhide HA j hj (by omega)
                 case measure => simp [intOf]; omega)
          · have HU := hide (allB_yes _ u fun j hj => unhide HA j hj (by omega))
            clear HA
            go_wp2
            go_loop [5] (fun i => ∃ k : Nat, k ≤ r.size ∧ i = .int .i64 k ∧ ∀ j (hj : j < r.size), j < k → isRev (r[j].toNat : Int) = true) (fun i => r.size - (intOf i).toNat)
            case atStart => exact ⟨0, Nat.zero_le _, rfl, fun j hj h => absurd h (Nat.not_lt_zero _)⟩
            case round =>
              obtain ⟨m, hm, rfl, hall⟩ := hrel
              have HA := hide hall
              clear hall
              by_cases hlt2 : m < r.size
              · cases hp : isRev (r[m].toNat : Int)
                · have HP := hide hp
                  go_wp2_with (go_at_call 51; refine (rplain_any _ _).mono ?_; rintro e w' ⟨rfl, rfl⟩)
                  go_ret
                  exact ⟨ret_i64 (by rw [unhide HF, unhide HU, allB_no _ r m hlt2 (unhide HP)]; rfl), unhide hB⟩
                · have HP := hide hp
                  go_wp2_with (go_at_call 51; refine (rplain_any _ _).mono ?_; rintro e w' ⟨rfl, rfl⟩)
                  go_round
                  case rel =>
                    refine ⟨m + 1, by omega, by go_num, fun j hj h => ?_⟩
                    by_cases e : j = m
                    · subst e; exact unhide HP
                    · exact unhide HA j hj (by omega)
                  case measure => simp [intOf]; omega
              · go_wp2
                go_ret
                exact ⟨ret_i64 (by rw [unhide HF, unhide HU, allB_yes _ r fun j hj => unhide HA j hj (by omega)]; rfl), unhide hB⟩

set_option maxHeartbeats 4000000 in
theorem rwrong_loops_true_false (e u r : ByteArray) (w : World) (hu' : u.size ≤ 9223372036854775807) (hr' : r.size ≤ 9223372036854775807) (h0 : 0 < u.size) (h1 : u.toList.isEmpty = false)  (hd : isDig (u[0].toNat : Int) = true)
    (cD0 : ∀ w : World, Calls Tryd.prog 49 #[.string e] w fun e w' => e = .returned (.bool true) ∧ w' = w) (HB : Below w.heap.size w (w.alloc (.cells #[.string e, .string u, .string r, .bool true, .bool false] 55)))
    (hf : wrong e u r true false = if allB (upR true false) u = false then 15 else if allB isRev r = false then 15 else 0) :
    Calls Tryd.prog 35 #[.agg #[.string e, .string u, .string r, .bool true, .bool false]] w fun x w' => x = .returned (.int .i64 (wrong e u r true false)) ∧ Below w.heap.size w w' := by
        have HF := hide hf
        clear hf
        have hB := hide HB
        clear HB
        have cD := hide cD0
        clear cD0

        go_enter Tryd.func35, Tryd.ntmps35
        go_wp2_with (first | (go_at_call 49; refine (unhide cD _).mono ?_; rintro e w' ⟨rfl, rfl⟩) | (go_at_call 50; refine (rdigit_any _ _).mono ?_; rintro e w' ⟨rfl, rfl⟩))
        go_loop [3, 4] (fun i _ => ∃ k : Nat, k ≤ u.size ∧ i = .int .i64 k ∧ ∀ j (hj : j < u.size), j < k → upR true false (u[j].toNat : Int) = true) (fun i _ => u.size - (intOf i).toNat)
        case atStart => exact ⟨0, Nat.zero_le _, rfl, fun j hj h => absurd h (Nat.not_lt_zero _)⟩
        case round =>
          obtain ⟨k, hk, rfl, hall⟩ := hrel
          have HA := hide hall
          clear hall
          by_cases hlt : k < u.size
          · cases a1 : isRev (u[k].toNat : Int) <;> cases a2 : ((u[k].toNat : Int) == 45) <;> cases a3 : ((u[k].toNat : Int) == 58)
            all_goals
              have HP := hide (show upR true false (u[k].toNat : Int) = _ by simp only [upR, a1, a2, a3]; rfl)
              go_wp2_with (go_at_call 51; refine (rplain_any _ _).mono ?_; rintro e w' ⟨rfl, rfl⟩)
            all_goals first
              | (go_ret
                 exact ⟨ret_i64 (by simp only [unhide HF]; rw [allB_no _ u k hlt (unhide HP)]; rfl), unhide hB⟩)
              | (go_round
                 case rel =>
                   refine ⟨k + 1, by omega, by go_num, fun j hj h => ?_⟩
                   by_cases e : j = k
                   · subst e; exact unhide HP
                   · exact unhide HA j hj (by omega)
                 case measure => simp [intOf]; omega)
          · have HU := hide (allB_yes _ u fun j hj => unhide HA j hj (by omega))
            clear HA
            go_wp2
            go_loop [5] (fun i => ∃ k : Nat, k ≤ r.size ∧ i = .int .i64 k ∧ ∀ j (hj : j < r.size), j < k → isRev (r[j].toNat : Int) = true) (fun i => r.size - (intOf i).toNat)
            case atStart => exact ⟨0, Nat.zero_le _, rfl, fun j hj h => absurd h (Nat.not_lt_zero _)⟩
            case round =>
              obtain ⟨m, hm, rfl, hall⟩ := hrel
              have HA := hide hall
              clear hall
              by_cases hlt2 : m < r.size
              · cases hp : isRev (r[m].toNat : Int)
                · have HP := hide hp
                  go_wp2_with (go_at_call 51; refine (rplain_any _ _).mono ?_; rintro e w' ⟨rfl, rfl⟩)
                  go_ret
                  exact ⟨ret_i64 (by rw [unhide HF, unhide HU, allB_no _ r m hlt2 (unhide HP)]; rfl), unhide hB⟩
                · have HP := hide hp
                  go_wp2_with (go_at_call 51; refine (rplain_any _ _).mono ?_; rintro e w' ⟨rfl, rfl⟩)
                  go_round
                  case rel =>
                    refine ⟨m + 1, by omega, by go_num, fun j hj h => ?_⟩
                    by_cases e : j = m
                    · subst e; exact unhide HP
                    · exact unhide HA j hj (by omega)
                  case measure => simp [intOf]; omega
              · go_wp2
                go_ret
                exact ⟨ret_i64 (by rw [unhide HF, unhide HU, allB_yes _ r fun j hj => unhide HA j hj (by omega)]; rfl), unhide hB⟩

set_option maxHeartbeats 4000000 in
theorem rwrong_loops_true_true (e u r : ByteArray) (w : World) (hu' : u.size ≤ 9223372036854775807) (hr' : r.size ≤ 9223372036854775807) (h0 : 0 < u.size) (h1 : u.toList.isEmpty = false) (h3 : r.toList.isEmpty = false) (hd : isDig (u[0].toNat : Int) = true)
    (cD0 : ∀ w : World, Calls Tryd.prog 49 #[.string e] w fun e w' => e = .returned (.bool true) ∧ w' = w) (HB : Below w.heap.size w (w.alloc (.cells #[.string e, .string u, .string r, .bool true, .bool true] 55)))
    (hf : wrong e u r true true = if allB (upR true true) u = false then 15 else if allB isRev r = false then 15 else 0) :
    Calls Tryd.prog 35 #[.agg #[.string e, .string u, .string r, .bool true, .bool true]] w fun x w' => x = .returned (.int .i64 (wrong e u r true true)) ∧ Below w.heap.size w w' := by
        have HF := hide hf
        clear hf
        have hB := hide HB
        clear HB
        have cD := hide cD0
        clear cD0

        go_enter Tryd.func35, Tryd.ntmps35
        go_wp2_with (first | (go_at_call 49; refine (unhide cD _).mono ?_; rintro e w' ⟨rfl, rfl⟩) | (go_at_call 50; refine (rdigit_any _ _).mono ?_; rintro e w' ⟨rfl, rfl⟩))
        go_loop [3, 4] (fun i _ => ∃ k : Nat, k ≤ u.size ∧ i = .int .i64 k ∧ ∀ j (hj : j < u.size), j < k → upR true true (u[j].toNat : Int) = true) (fun i _ => u.size - (intOf i).toNat)
        case atStart => exact ⟨0, Nat.zero_le _, rfl, fun j hj h => absurd h (Nat.not_lt_zero _)⟩
        case round =>
          obtain ⟨k, hk, rfl, hall⟩ := hrel
          have HA := hide hall
          clear hall
          by_cases hlt : k < u.size
          · cases a1 : isRev (u[k].toNat : Int) <;> cases a2 : ((u[k].toNat : Int) == 45) <;> cases a3 : ((u[k].toNat : Int) == 58)
            all_goals
              have HP := hide (show upR true true (u[k].toNat : Int) = _ by simp only [upR, a1, a2, a3]; rfl)
              go_wp2_with (go_at_call 51; refine (rplain_any _ _).mono ?_; rintro e w' ⟨rfl, rfl⟩)
            all_goals first
              | (go_ret
                 exact ⟨ret_i64 (by simp only [unhide HF]; rw [allB_no _ u k hlt (unhide HP)]; rfl), unhide hB⟩)
              | (go_round
                 case rel =>
                   refine ⟨k + 1, by omega, by go_num, fun j hj h => ?_⟩
                   by_cases e : j = k
                   · subst e; exact unhide HP
                   · exact unhide HA j hj (by omega)
                 case measure => simp [intOf]; omega)
          · have HU := hide (allB_yes _ u fun j hj => unhide HA j hj (by omega))
            clear HA
            go_wp2
            go_loop [5] (fun i => ∃ k : Nat, k ≤ r.size ∧ i = .int .i64 k ∧ ∀ j (hj : j < r.size), j < k → isRev (r[j].toNat : Int) = true) (fun i => r.size - (intOf i).toNat)
            case atStart => exact ⟨0, Nat.zero_le _, rfl, fun j hj h => absurd h (Nat.not_lt_zero _)⟩
            case round =>
              obtain ⟨m, hm, rfl, hall⟩ := hrel
              have HA := hide hall
              clear hall
              by_cases hlt2 : m < r.size
              · cases hp : isRev (r[m].toNat : Int)
                · have HP := hide hp
                  go_wp2_with (go_at_call 51; refine (rplain_any _ _).mono ?_; rintro e w' ⟨rfl, rfl⟩)
                  go_ret
                  exact ⟨ret_i64 (by rw [unhide HF, unhide HU, allB_no _ r m hlt2 (unhide HP)]; rfl), unhide hB⟩
                · have HP := hide hp
                  go_wp2_with (go_at_call 51; refine (rplain_any _ _).mono ?_; rintro e w' ⟨rfl, rfl⟩)
                  go_round
                  case rel =>
                    refine ⟨m + 1, by omega, by go_num, fun j hj h => ?_⟩
                    by_cases e : j = m
                    · subst e; exact unhide HP
                    · exact unhide HA j hj (by omega)
                  case measure => simp [intOf]; omega
              · go_wp2
                go_ret
                exact ⟨ret_i64 (by rw [unhide HF, unhide HU, allB_yes _ r fun j hj => unhide HA j hj (by omega)]; rfl), unhide hB⟩

set_option maxHeartbeats 4000000 in
theorem rwrong_any (e u r : ByteArray) (c d : Bool) (w : World) (he : e.size ≤ maxLen) (hu : u.size ≤ maxLen) (hr : r.size ≤ maxLen) :
    Calls Tryd.prog 35 #[.agg #[.string e, .string u, .string r, .bool c, .bool d]] w fun x w' => x = .returned (.int .i64 (wrong e u r c d)) ∧ Below w.heap.size w w' := by
  have hu' := hu
  have hr' := hr
  unfold maxLen at hu' hr'
  have hB := hide ((Below.refl w.heap.size w).alloc (Nat.le_refl _) (.cells #[.string e, .string u, .string r, .bool c, .bool d] 55))
  have cD := hide (fun w => rdigits_any e w he)
  cases h1 : u.toList.isEmpty
  · have h0 : 0 < u.size := by rw [isEmpty_size] at h1; have := of_decide_eq_false h1; omega
    have hb0 := b0_eq u h0
    cases hd : isDig (b0 u)
    all_goals
      have HD := hide hd
      rw [hb0] at hd
      clear hb0
    · cases h2 : (allB isDig e && !e.toList.isEmpty) <;> cases h3 : r.toList.isEmpty <;> cases c <;> cases d
      all_goals
        rw [h2] at cD
        go_enter Tryd.func35, Tryd.ntmps35
        go_wp2_with (first | (go_at_call 49; refine (unhide cD _).mono ?_; rintro e w' ⟨rfl, rfl⟩) | (go_at_call 50; refine (rdigit_any _ _).mono ?_; rintro e w' ⟨rfl, rfl⟩))
        go_ret
        exact ⟨ret_i64 (by simp only [wrong, h1, h2, h3, unhide HD]; rfl), unhide hB⟩
    · cases h2 : (allB isDig e && !e.toList.isEmpty) <;> cases h3 : r.toList.isEmpty <;> cases c <;> cases d
      all_goals rw [h2] at cD
      · exact rwrong_loops_false_false e u r w hu' hr' h0 h1 hd (unhide hB) (by simp only [wrong, h1, h2, h3, unhide HD]; rfl)
      · exact rwrong_loops_false_true e u r w hu' hr' h0 h1 h3 hd (unhide hB) (by simp only [wrong, h1, h2, h3, unhide HD]; rfl)
      · have hfin := hide (show wrong e u r true false = _ by simp only [wrong, h1, h2, h3, unhide HD]; rfl)
        go_enter Tryd.func35, Tryd.ntmps35
        go_wp2_with (first | (go_at_call 49; refine (unhide cD _).mono ?_; rintro e w' ⟨rfl, rfl⟩) | (go_at_call 50; refine (rdigit_any _ _).mono ?_; rintro e w' ⟨rfl, rfl⟩))
        go_ret
        exact ⟨ret_i64 (unhide hfin).symm, unhide hB⟩
      · have hfin := hide (show wrong e u r true true = _ by simp only [wrong, h1, h2, h3, unhide HD]; rfl)
        go_enter Tryd.func35, Tryd.ntmps35
        go_wp2_with (first | (go_at_call 49; refine (unhide cD _).mono ?_; rintro e w' ⟨rfl, rfl⟩) | (go_at_call 50; refine (rdigit_any _ _).mono ?_; rintro e w' ⟨rfl, rfl⟩))
        go_ret
        exact ⟨ret_i64 (unhide hfin).symm, unhide hB⟩
      · exact rwrong_loops_false_false e u r w hu' hr' h0 h1 hd (unhide hB) (by simp only [wrong, h1, h2, h3, unhide HD]; rfl)
      · have hfin := hide (show wrong e u r false true = _ by simp only [wrong, h1, h2, h3, unhide HD]; rfl)
        go_enter Tryd.func35, Tryd.ntmps35
        go_wp2_with (first | (go_at_call 49; refine (unhide cD _).mono ?_; rintro e w' ⟨rfl, rfl⟩) | (go_at_call 50; refine (rdigit_any _ _).mono ?_; rintro e w' ⟨rfl, rfl⟩))
        go_ret
        exact ⟨ret_i64 (unhide hfin).symm, unhide hB⟩
      · have hfin := hide (show wrong e u r true false = _ by simp only [wrong, h1, h2, h3, unhide HD]; rfl)
        go_enter Tryd.func35, Tryd.ntmps35
        go_wp2_with (first | (go_at_call 49; refine (unhide cD _).mono ?_; rintro e w' ⟨rfl, rfl⟩) | (go_at_call 50; refine (rdigit_any _ _).mono ?_; rintro e w' ⟨rfl, rfl⟩))
        go_ret
        exact ⟨ret_i64 (unhide hfin).symm, unhide hB⟩
      · have hfin := hide (show wrong e u r true true = _ by simp only [wrong, h1, h2, h3, unhide HD]; rfl)
        go_enter Tryd.func35, Tryd.ntmps35
        go_wp2_with (first | (go_at_call 49; refine (unhide cD _).mono ?_; rintro e w' ⟨rfl, rfl⟩) | (go_at_call 50; refine (rdigit_any _ _).mono ?_; rintro e w' ⟨rfl, rfl⟩))
        go_ret
        exact ⟨ret_i64 (unhide hfin).symm, unhide hB⟩
      · exact rwrong_loops_false_false e u r w hu' hr' h0 h1 hd (unhide hB) (by simp only [wrong, h1, h2, h3, unhide HD]; rfl)
      · exact rwrong_loops_false_true e u r w hu' hr' h0 h1 h3 hd (unhide hB) (by simp only [wrong, h1, h2, h3, unhide HD]; rfl)
      · exact rwrong_loops_true_false e u r w hu' hr' h0 h1 hd (unhide cD) (unhide hB) (by simp only [wrong, h1, h2, h3, unhide HD]; rfl)
      · exact rwrong_loops_true_true e u r w hu' hr' h0 h1 h3 hd (unhide cD) (unhide hB) (by simp only [wrong, h1, h2, h3, unhide HD]; rfl)
      · exact rwrong_loops_false_false e u r w hu' hr' h0 h1 hd (unhide hB) (by simp only [wrong, h1, h2, h3, unhide HD]; rfl)
      · have hfin := hide (show wrong e u r false true = _ by simp only [wrong, h1, h2, h3, unhide HD]; rfl)
        go_enter Tryd.func35, Tryd.ntmps35
        go_wp2_with (first | (go_at_call 49; refine (unhide cD _).mono ?_; rintro e w' ⟨rfl, rfl⟩) | (go_at_call 50; refine (rdigit_any _ _).mono ?_; rintro e w' ⟨rfl, rfl⟩))
        go_ret
        exact ⟨ret_i64 (unhide hfin).symm, unhide hB⟩
      · exact rwrong_loops_true_false e u r w hu' hr' h0 h1 hd (unhide cD) (unhide hB) (by simp only [wrong, h1, h2, h3, unhide HD]; rfl)
      · have hfin := hide (show wrong e u r true true = _ by simp only [wrong, h1, h2, h3, unhide HD]; rfl)
        go_enter Tryd.func35, Tryd.ntmps35
        go_wp2_with (first | (go_at_call 49; refine (unhide cD _).mono ?_; rintro e w' ⟨rfl, rfl⟩) | (go_at_call 50; refine (rdigit_any _ _).mono ?_; rintro e w' ⟨rfl, rfl⟩))
        go_ret
        exact ⟨ret_i64 (unhide hfin).symm, unhide hB⟩
  · go_enter Tryd.func35, Tryd.ntmps35
    go_wp2
    go_ret
    exact ⟨ret_i64 (by simp [wrong, h1]), unhide hB⟩

end Go.Proofs.YtmckmeoondlcpaaDoor
