import Derived.Test.YtdkpglmdncjnbaaGreatDoorZf03
namespace Go.Proofs.YtdkpglmdncjnbaaGreatDoor
section
open Go.RowKit
set_option maxHeartbeats 400000 in
theorem rdigit_any (b : Int) (w : World) :
 Calls Tryz.prog 143 #[.int .u8 b] w fun e w' => e = .returned (.bool (isDig b)) ∧ w' = w := by
 go_enter Tryz.func143, Tryz.ntmps143
 go_wp2
 all_goals go_ret
 all_goals exact ⟨ret_bool (by simp [isDig, *] <;> omega), rfl⟩
set_option maxHeartbeats 400000 in
theorem rletter_any (b : Int) (w : World) :
 Calls Tryz.prog 159 #[.int .u8 b] w fun e w' => e = .returned (.bool (isLet b)) ∧ w' = w := by
 go_enter Tryz.func159, Tryz.ntmps159
 go_wp2
 all_goals go_ret
 all_goals exact ⟨ret_bool (by simp [isLet, *] <;> omega), rfl⟩
set_option maxHeartbeats 400000 in
theorem rplain_any (b : Int) (w : World) :
 Calls Tryz.prog 144 #[.int .u8 b] w fun e w' => e = .returned (.bool (isRev b)) ∧ w' = w := by
 cases h1 : isLet b <;> cases h2 : isDig b <;> cases h3 : (b == 46) <;> cases h4 : (b == 43) <;> cases h5 : (b == 126)
 all_goals
  go_enter Tryz.func144, Tryz.ntmps144
  go_wp2_with (first | (go_at_call 159; refine (rletter_any _ _).mono ?_; rintro e w' ⟨rfl, rfl⟩) | (go_at_call 143; refine (rdigit_any _ _).mono ?_; rintro e w' ⟨rfl, rfl⟩))
  go_ret
  exact ⟨ret_bool (by simp [isRev, h1, h2, h3, h4, h5]), rfl⟩
theorem isEmpty_size (s : ByteArray) : s.toList.isEmpty = decide (s.size = 0) := by
 have h : s.data.toList.length = s.size := by simp
 rw [Lib.toList_data, Bool.eq_iff_iff, List.isEmpty_iff, ← List.length_eq_zero_iff, h, decide_eq_true_eq]
set_option maxHeartbeats 400000 in
theorem rdigits_any (s : ByteArray) (w : World) (hs : s.size ≤ maxLen) :
 Calls Tryz.prog 142 #[.string s] w fun e w' => e = .returned (.bool (allB isDig s && !s.toList.isEmpty)) ∧ w' = w := by
 unfold maxLen at hs
 go_enter Tryz.func142, Tryz.ntmps142
 go_wp2
 go_loop [3] (fun i => ∃ k : Nat, k ≤ s.size ∧ i = .int .i64 k ∧ ∀ j (hj : j < s.size), j < k → isDig (s[j].toNat : Int) = true) (fun i => s.size - (intOf i).toNat)
 case atStart => exact ⟨0, Nat.zero_le _, rfl, fun j hj h => absurd h (Nat.not_lt_zero _)⟩
 case round =>
  obtain ⟨k, hk, rfl, hall⟩ := hrel
  have HA := hide hall
  clear hall
  by_cases hlt : k < s.size
  ·cases hp : isDig (s[k].toNat : Int)
   ·have HP := hide hp
    go_wp2_with (go_at_call 143; refine (rdigit_any _ _).mono ?_; rintro e w' ⟨rfl, rfl⟩)
    go_ret
    exact ⟨ret_bool (by rw [allB_no _ s k hlt (unhide HP)]; rfl), rfl⟩
   ·have HP := hide hp
    go_wp2_with (go_at_call 143; refine (rdigit_any _ _).mono ?_; rintro e w' ⟨rfl, rfl⟩)
    go_round
    case rel =>
     refine ⟨k + 1, by omega, by go_num, fun j hj h => ?_⟩
     by_cases e : j = k
     ·subst e; exact unhide HP
     ·exact unhide HA j hj (by omega)
    case measure => simp [intOf]; omega
  ·go_wp2
   all_goals go_ret
   all_goals exact ⟨ret_bool (by rw [allB_yes _ s fun j hj => unhide HA j hj (by omega), isEmpty_size]; rw [Bool.eq_iff_iff]; simp only [Bool.true_and, Bool.not_eq_true', decide_eq_true_eq, decide_eq_false_iff_not]; omega), rfl⟩
def upR (c d : Bool) (n : Int) : Bool := isRev n || (n == 45 && d) || (n == 58 && c)
def wrong (e u r : ByteArray) (c d : Bool) : Int :=
 if u.toList.isEmpty = true then 11
 else if (c && !(allB isDig e && !e.toList.isEmpty)) = true then 12
 else if (d && r.toList.isEmpty) = true then 13
 else if isDig (b0 u) = false then 14
 else if allB (upR c d) u = false then 15
 else if allB isRev r = false then 15 else 0
set_option maxHeartbeats 4000000 in
theorem rwrong_loops_false_false (e u r : ByteArray) (w : World) (hu' : u.size ≤ 9223372036854775807) (hr' : r.size ≤ 9223372036854775807) (h0 : 0 < u.size) (h1 : u.toList.isEmpty = false)  (hd : isDig (u[0].toNat : Int) = true)
 (HB : Below w.heap.size w (w.alloc (.cells #[.string e, .string u, .string r, .bool false, .bool false] 172)))
 (hf : wrong e u r false false = if allB (upR false false) u = false then 15 else if allB isRev r = false then 15 else 0) :
 Calls Tryz.prog 133 #[.agg #[.string e, .string u, .string r, .bool false, .bool false]] w fun x w' => x = .returned (.int .i64 (wrong e u r false false)) ∧ Below w.heap.size w w' := by
  have HF := hide hf
  clear hf
  have hB := hide HB
  clear HB
  skip
  go_enter Tryz.func133, Tryz.ntmps133
  go_wp2_with (first | (go_at_call 143; refine (rdigit_any _ _).mono ?_; rintro e w' ⟨rfl, rfl⟩))
  go_loop [3, 4] (fun i _ => ∃ k : Nat, k ≤ u.size ∧ i = .int .i64 k ∧ ∀ j (hj : j < u.size), j < k → upR false false (u[j].toNat : Int) = true) (fun i _ => u.size - (intOf i).toNat)
  case atStart => exact ⟨0, Nat.zero_le _, rfl, fun j hj h => absurd h (Nat.not_lt_zero _)⟩
  case round =>
   obtain ⟨k, hk, rfl, hall⟩ := hrel
   have HA := hide hall
   clear hall
   by_cases hlt : k < u.size
   ·cases a1 : isRev (u[k].toNat : Int) <;> cases a2 : ((u[k].toNat : Int) == 45) <;> cases a3 : ((u[k].toNat : Int) == 58)
    all_goals
     have HP := hide (show upR false false (u[k].toNat : Int) = _ by simp only [upR, a1, a2, a3]; rfl)
     go_wp2_with (go_at_call 144; refine (rplain_any _ _).mono ?_; rintro e w' ⟨rfl, rfl⟩)
    all_goals first
     | (go_ret
        exact ⟨ret_i64 (by simp only [unhide HF]; rw [allB_no _ u k hlt (unhide HP)]; rfl), unhide hB⟩)
     | (go_round
        case rel =>
         refine ⟨k + 1, by omega, by go_num, fun j hj h => ?_⟩
         by_cases e : j = k
         ·subst e; exact unhide HP
         ·exact unhide HA j hj (by omega)
        case measure => simp [intOf]; omega)
   ·have HU := hide (allB_yes _ u fun j hj => unhide HA j hj (by omega))
    clear HA
    go_wp2
    go_loop [5] (fun i => ∃ k : Nat, k ≤ r.size ∧ i = .int .i64 k ∧ ∀ j (hj : j < r.size), j < k → isRev (r[j].toNat : Int) = true) (fun i => r.size - (intOf i).toNat)
    case atStart => exact ⟨0, Nat.zero_le _, rfl, fun j hj h => absurd h (Nat.not_lt_zero _)⟩
    case round =>
     obtain ⟨m, hm, rfl, hall⟩ := hrel
     have HA := hide hall
     clear hall
     by_cases hlt2 : m < r.size
     ·cases hp : isRev (r[m].toNat : Int)
      ·have HP := hide hp
       go_wp2_with (go_at_call 144; refine (rplain_any _ _).mono ?_; rintro e w' ⟨rfl, rfl⟩)
       go_ret
       exact ⟨ret_i64 (by rw [unhide HF, unhide HU, allB_no _ r m hlt2 (unhide HP)]; rfl), unhide hB⟩
      ·have HP := hide hp
       go_wp2_with (go_at_call 144; refine (rplain_any _ _).mono ?_; rintro e w' ⟨rfl, rfl⟩)
       go_round
       case rel =>
        refine ⟨m + 1, by omega, by go_num, fun j hj h => ?_⟩
        by_cases e : j = m
        ·subst e; exact unhide HP
        ·exact unhide HA j hj (by omega)
       case measure => simp [intOf]; omega
     ·go_wp2
      go_ret
      exact ⟨ret_i64 (by rw [unhide HF, unhide HU, allB_yes _ r fun j hj => unhide HA j hj (by omega)]; rfl), unhide hB⟩
set_option maxHeartbeats 4000000 in
theorem rwrong_loops_false_true (e u r : ByteArray) (w : World) (hu' : u.size ≤ 9223372036854775807) (hr' : r.size ≤ 9223372036854775807) (h0 : 0 < u.size) (h1 : u.toList.isEmpty = false) (h3 : r.toList.isEmpty = false) (hd : isDig (u[0].toNat : Int) = true)
 (HB : Below w.heap.size w (w.alloc (.cells #[.string e, .string u, .string r, .bool false, .bool true] 172)))
 (hf : wrong e u r false true = if allB (upR false true) u = false then 15 else if allB isRev r = false then 15 else 0) :
 Calls Tryz.prog 133 #[.agg #[.string e, .string u, .string r, .bool false, .bool true]] w fun x w' => x = .returned (.int .i64 (wrong e u r false true)) ∧ Below w.heap.size w w' := by
  have HF := hide hf
  clear hf
  have hB := hide HB
  clear HB
  skip
  go_enter Tryz.func133, Tryz.ntmps133
  go_wp2_with (first | (go_at_call 143; refine (rdigit_any _ _).mono ?_; rintro e w' ⟨rfl, rfl⟩))
  go_loop [3, 4] (fun i _ => ∃ k : Nat, k ≤ u.size ∧ i = .int .i64 k ∧ ∀ j (hj : j < u.size), j < k → upR false true (u[j].toNat : Int) = true) (fun i _ => u.size - (intOf i).toNat)
  case atStart => exact ⟨0, Nat.zero_le _, rfl, fun j hj h => absurd h (Nat.not_lt_zero _)⟩
  case round =>
   obtain ⟨k, hk, rfl, hall⟩ := hrel
   have HA := hide hall
   clear hall
   by_cases hlt : k < u.size
   ·cases a1 : isRev (u[k].toNat : Int) <;> cases a2 : ((u[k].toNat : Int) == 45) <;> cases a3 : ((u[k].toNat : Int) == 58)
    all_goals
     have HP := hide (show upR false true (u[k].toNat : Int) = _ by simp only [upR, a1, a2, a3]; rfl)
     go_wp2_with (go_at_call 144; refine (rplain_any _ _).mono ?_; rintro e w' ⟨rfl, rfl⟩)
    all_goals first
     | (go_ret
        exact ⟨ret_i64 (by simp only [unhide HF]; rw [allB_no _ u k hlt (unhide HP)]; rfl), unhide hB⟩)
     | (go_round
        case rel =>
         refine ⟨k + 1, by omega, by go_num, fun j hj h => ?_⟩
         by_cases e : j = k
         ·subst e; exact unhide HP
         ·exact unhide HA j hj (by omega)
        case measure => simp [intOf]; omega)
   ·have HU := hide (allB_yes _ u fun j hj => unhide HA j hj (by omega))
    clear HA
    go_wp2
    go_loop [5] (fun i => ∃ k : Nat, k ≤ r.size ∧ i = .int .i64 k ∧ ∀ j (hj : j < r.size), j < k → isRev (r[j].toNat : Int) = true) (fun i => r.size - (intOf i).toNat)
    case atStart => exact ⟨0, Nat.zero_le _, rfl, fun j hj h => absurd h (Nat.not_lt_zero _)⟩
    case round =>
     obtain ⟨m, hm, rfl, hall⟩ := hrel
     have HA := hide hall
     clear hall
     by_cases hlt2 : m < r.size
     ·cases hp : isRev (r[m].toNat : Int)
      ·have HP := hide hp
       go_wp2_with (go_at_call 144; refine (rplain_any _ _).mono ?_; rintro e w' ⟨rfl, rfl⟩)
       go_ret
       exact ⟨ret_i64 (by rw [unhide HF, unhide HU, allB_no _ r m hlt2 (unhide HP)]; rfl), unhide hB⟩
      ·have HP := hide hp
       go_wp2_with (go_at_call 144; refine (rplain_any _ _).mono ?_; rintro e w' ⟨rfl, rfl⟩)
       go_round
       case rel =>
        refine ⟨m + 1, by omega, by go_num, fun j hj h => ?_⟩
        by_cases e : j = m
        ·subst e; exact unhide HP
        ·exact unhide HA j hj (by omega)
       case measure => simp [intOf]; omega
     ·go_wp2
      go_ret
      exact ⟨ret_i64 (by rw [unhide HF, unhide HU, allB_yes _ r fun j hj => unhide HA j hj (by omega)]; rfl), unhide hB⟩
set_option maxHeartbeats 4000000 in
theorem rwrong_loops_true_false (e u r : ByteArray) (w : World) (hu' : u.size ≤ 9223372036854775807) (hr' : r.size ≤ 9223372036854775807) (h0 : 0 < u.size) (h1 : u.toList.isEmpty = false)  (hd : isDig (u[0].toNat : Int) = true)
 (cD0 : ∀ w : World, Calls Tryz.prog 142 #[.string e] w fun e w' => e = .returned (.bool true) ∧ w' = w) (HB : Below w.heap.size w (w.alloc (.cells #[.string e, .string u, .string r, .bool true, .bool false] 172)))
 (hf : wrong e u r true false = if allB (upR true false) u = false then 15 else if allB isRev r = false then 15 else 0) :
 Calls Tryz.prog 133 #[.agg #[.string e, .string u, .string r, .bool true, .bool false]] w fun x w' => x = .returned (.int .i64 (wrong e u r true false)) ∧ Below w.heap.size w w' := by
  have HF := hide hf
  clear hf
  have hB := hide HB
  clear HB
  have cD := hide cD0
  clear cD0
  go_enter Tryz.func133, Tryz.ntmps133
  go_wp2_with (first | (go_at_call 142; refine (unhide cD _).mono ?_; rintro e w' ⟨rfl, rfl⟩) | (go_at_call 143; refine (rdigit_any _ _).mono ?_; rintro e w' ⟨rfl, rfl⟩))
  go_loop [3, 4] (fun i _ => ∃ k : Nat, k ≤ u.size ∧ i = .int .i64 k ∧ ∀ j (hj : j < u.size), j < k → upR true false (u[j].toNat : Int) = true) (fun i _ => u.size - (intOf i).toNat)
  case atStart => exact ⟨0, Nat.zero_le _, rfl, fun j hj h => absurd h (Nat.not_lt_zero _)⟩
  case round =>
   obtain ⟨k, hk, rfl, hall⟩ := hrel
   have HA := hide hall
   clear hall
   by_cases hlt : k < u.size
   ·cases a1 : isRev (u[k].toNat : Int) <;> cases a2 : ((u[k].toNat : Int) == 45) <;> cases a3 : ((u[k].toNat : Int) == 58)
    all_goals
     have HP := hide (show upR true false (u[k].toNat : Int) = _ by simp only [upR, a1, a2, a3]; rfl)
     go_wp2_with (go_at_call 144; refine (rplain_any _ _).mono ?_; rintro e w' ⟨rfl, rfl⟩)
    all_goals first
     | (go_ret
        exact ⟨ret_i64 (by simp only [unhide HF]; rw [allB_no _ u k hlt (unhide HP)]; rfl), unhide hB⟩)
     | (go_round
        case rel =>
         refine ⟨k + 1, by omega, by go_num, fun j hj h => ?_⟩
         by_cases e : j = k
         ·subst e; exact unhide HP
         ·exact unhide HA j hj (by omega)
        case measure => simp [intOf]; omega)
   ·have HU := hide (allB_yes _ u fun j hj => unhide HA j hj (by omega))
    clear HA
    go_wp2
    go_loop [5] (fun i => ∃ k : Nat, k ≤ r.size ∧ i = .int .i64 k ∧ ∀ j (hj : j < r.size), j < k → isRev (r[j].toNat : Int) = true) (fun i => r.size - (intOf i).toNat)
    case atStart => exact ⟨0, Nat.zero_le _, rfl, fun j hj h => absurd h (Nat.not_lt_zero _)⟩
    case round =>
     obtain ⟨m, hm, rfl, hall⟩ := hrel
     have HA := hide hall
     clear hall
     by_cases hlt2 : m < r.size
     ·cases hp : isRev (r[m].toNat : Int)
      ·have HP := hide hp
       go_wp2_with (go_at_call 144; refine (rplain_any _ _).mono ?_; rintro e w' ⟨rfl, rfl⟩)
       go_ret
       exact ⟨ret_i64 (by rw [unhide HF, unhide HU, allB_no _ r m hlt2 (unhide HP)]; rfl), unhide hB⟩
      ·have HP := hide hp
       go_wp2_with (go_at_call 144; refine (rplain_any _ _).mono ?_; rintro e w' ⟨rfl, rfl⟩)
       go_round
       case rel =>
        refine ⟨m + 1, by omega, by go_num, fun j hj h => ?_⟩
        by_cases e : j = m
        ·subst e; exact unhide HP
        ·exact unhide HA j hj (by omega)
       case measure => simp [intOf]; omega
     ·go_wp2
      go_ret
      exact ⟨ret_i64 (by rw [unhide HF, unhide HU, allB_yes _ r fun j hj => unhide HA j hj (by omega)]; rfl), unhide hB⟩
set_option maxHeartbeats 4000000 in
theorem rwrong_loops_true_true (e u r : ByteArray) (w : World) (hu' : u.size ≤ 9223372036854775807) (hr' : r.size ≤ 9223372036854775807) (h0 : 0 < u.size) (h1 : u.toList.isEmpty = false) (h3 : r.toList.isEmpty = false) (hd : isDig (u[0].toNat : Int) = true)
 (cD0 : ∀ w : World, Calls Tryz.prog 142 #[.string e] w fun e w' => e = .returned (.bool true) ∧ w' = w) (HB : Below w.heap.size w (w.alloc (.cells #[.string e, .string u, .string r, .bool true, .bool true] 172)))
 (hf : wrong e u r true true = if allB (upR true true) u = false then 15 else if allB isRev r = false then 15 else 0) :
 Calls Tryz.prog 133 #[.agg #[.string e, .string u, .string r, .bool true, .bool true]] w fun x w' => x = .returned (.int .i64 (wrong e u r true true)) ∧ Below w.heap.size w w' := by
  have HF := hide hf
  clear hf
  have hB := hide HB
  clear HB
  have cD := hide cD0
  clear cD0
  go_enter Tryz.func133, Tryz.ntmps133
  go_wp2_with (first | (go_at_call 142; refine (unhide cD _).mono ?_; rintro e w' ⟨rfl, rfl⟩) | (go_at_call 143; refine (rdigit_any _ _).mono ?_; rintro e w' ⟨rfl, rfl⟩))
  go_loop [3, 4] (fun i _ => ∃ k : Nat, k ≤ u.size ∧ i = .int .i64 k ∧ ∀ j (hj : j < u.size), j < k → upR true true (u[j].toNat : Int) = true) (fun i _ => u.size - (intOf i).toNat)
  case atStart => exact ⟨0, Nat.zero_le _, rfl, fun j hj h => absurd h (Nat.not_lt_zero _)⟩
  case round =>
   obtain ⟨k, hk, rfl, hall⟩ := hrel
   have HA := hide hall
   clear hall
   by_cases hlt : k < u.size
   ·cases a1 : isRev (u[k].toNat : Int) <;> cases a2 : ((u[k].toNat : Int) == 45) <;> cases a3 : ((u[k].toNat : Int) == 58)
    all_goals
     have HP := hide (show upR true true (u[k].toNat : Int) = _ by simp only [upR, a1, a2, a3]; rfl)
     go_wp2_with (go_at_call 144; refine (rplain_any _ _).mono ?_; rintro e w' ⟨rfl, rfl⟩)
    all_goals first
     | (go_ret
        exact ⟨ret_i64 (by simp only [unhide HF]; rw [allB_no _ u k hlt (unhide HP)]; rfl), unhide hB⟩)
     | (go_round
        case rel =>
         refine ⟨k + 1, by omega, by go_num, fun j hj h => ?_⟩
         by_cases e : j = k
         ·subst e; exact unhide HP
         ·exact unhide HA j hj (by omega)
        case measure => simp [intOf]; omega)
   ·have HU := hide (allB_yes _ u fun j hj => unhide HA j hj (by omega))
    clear HA
    go_wp2
    go_loop [5] (fun i => ∃ k : Nat, k ≤ r.size ∧ i = .int .i64 k ∧ ∀ j (hj : j < r.size), j < k → isRev (r[j].toNat : Int) = true) (fun i => r.size - (intOf i).toNat)
    case atStart => exact ⟨0, Nat.zero_le _, rfl, fun j hj h => absurd h (Nat.not_lt_zero _)⟩
    case round =>
     obtain ⟨m, hm, rfl, hall⟩ := hrel
     have HA := hide hall
     clear hall
     by_cases hlt2 : m < r.size
     ·cases hp : isRev (r[m].toNat : Int)
      ·have HP := hide hp
       go_wp2_with (go_at_call 144; refine (rplain_any _ _).mono ?_; rintro e w' ⟨rfl, rfl⟩)
       go_ret
       exact ⟨ret_i64 (by rw [unhide HF, unhide HU, allB_no _ r m hlt2 (unhide HP)]; rfl), unhide hB⟩
      ·have HP := hide hp
       go_wp2_with (go_at_call 144; refine (rplain_any _ _).mono ?_; rintro e w' ⟨rfl, rfl⟩)
       go_round
       case rel =>
        refine ⟨m + 1, by omega, by go_num, fun j hj h => ?_⟩
        by_cases e : j = m
        ·subst e; exact unhide HP
        ·exact unhide HA j hj (by omega)
       case measure => simp [intOf]; omega
     ·go_wp2
      go_ret
      exact ⟨ret_i64 (by rw [unhide HF, unhide HU, allB_yes _ r fun j hj => unhide HA j hj (by omega)]; rfl), unhide hB⟩
set_option maxHeartbeats 4000000 in
theorem rwrong_any (e u r : ByteArray) (c d : Bool) (w : World) (he : e.size ≤ maxLen) (hu : u.size ≤ maxLen) (hr : r.size ≤ maxLen) :
 Calls Tryz.prog 133 #[.agg #[.string e, .string u, .string r, .bool c, .bool d]] w fun x w' => x = .returned (.int .i64 (wrong e u r c d)) ∧ Below w.heap.size w w' := by
 have hu' := hu
 have hr' := hr
 unfold maxLen at hu' hr'
 have hB := hide ((Below.refl w.heap.size w).alloc (Nat.le_refl _) (.cells #[.string e, .string u, .string r, .bool c, .bool d] 172))
 have cD := hide (fun w => rdigits_any e w he)
 cases h1 : u.toList.isEmpty
 ·have h0 : 0 < u.size := by rw [isEmpty_size] at h1; have := of_decide_eq_false h1; omega
  have hb0 := b0_eq u h0
  cases hd : isDig (b0 u)
  all_goals
   have HD := hide hd
   rw [hb0] at hd
   clear hb0
  ·cases h2 : (allB isDig e && !e.toList.isEmpty) <;> cases h3 : r.toList.isEmpty <;> cases c <;> cases d
   all_goals
    rw [h2] at cD
    go_enter Tryz.func133, Tryz.ntmps133
    go_wp2_with (first | (go_at_call 142; refine (unhide cD _).mono ?_; rintro e w' ⟨rfl, rfl⟩) | (go_at_call 143; refine (rdigit_any _ _).mono ?_; rintro e w' ⟨rfl, rfl⟩))
    go_ret
    exact ⟨ret_i64 (by simp only [wrong, h1, h2, h3, unhide HD]; rfl), unhide hB⟩
  ·cases h2 : (allB isDig e && !e.toList.isEmpty) <;> cases h3 : r.toList.isEmpty <;> cases c <;> cases d
   all_goals rw [h2] at cD
   ·exact rwrong_loops_false_false e u r w hu' hr' h0 h1 hd (unhide hB) (by simp only [wrong, h1, h2, h3, unhide HD]; rfl)
   ·exact rwrong_loops_false_true e u r w hu' hr' h0 h1 h3 hd (unhide hB) (by simp only [wrong, h1, h2, h3, unhide HD]; rfl)
   ·have hfin := hide (show wrong e u r true false = _ by simp only [wrong, h1, h2, h3, unhide HD]; rfl)
    go_enter Tryz.func133, Tryz.ntmps133
    go_wp2_with (first | (go_at_call 142; refine (unhide cD _).mono ?_; rintro e w' ⟨rfl, rfl⟩) | (go_at_call 143; refine (rdigit_any _ _).mono ?_; rintro e w' ⟨rfl, rfl⟩))
    go_ret
    exact ⟨ret_i64 (unhide hfin).symm, unhide hB⟩
   ·have hfin := hide (show wrong e u r true true = _ by simp only [wrong, h1, h2, h3, unhide HD]; rfl)
    go_enter Tryz.func133, Tryz.ntmps133
    go_wp2_with (first | (go_at_call 142; refine (unhide cD _).mono ?_; rintro e w' ⟨rfl, rfl⟩) | (go_at_call 143; refine (rdigit_any _ _).mono ?_; rintro e w' ⟨rfl, rfl⟩))
    go_ret
    exact ⟨ret_i64 (unhide hfin).symm, unhide hB⟩
   ·exact rwrong_loops_false_false e u r w hu' hr' h0 h1 hd (unhide hB) (by simp only [wrong, h1, h2, h3, unhide HD]; rfl)
   ·have hfin := hide (show wrong e u r false true = _ by simp only [wrong, h1, h2, h3, unhide HD]; rfl)
    go_enter Tryz.func133, Tryz.ntmps133
    go_wp2_with (first | (go_at_call 142; refine (unhide cD _).mono ?_; rintro e w' ⟨rfl, rfl⟩) | (go_at_call 143; refine (rdigit_any _ _).mono ?_; rintro e w' ⟨rfl, rfl⟩))
    go_ret
    exact ⟨ret_i64 (unhide hfin).symm, unhide hB⟩
   ·have hfin := hide (show wrong e u r true false = _ by simp only [wrong, h1, h2, h3, unhide HD]; rfl)
    go_enter Tryz.func133, Tryz.ntmps133
    go_wp2_with (first | (go_at_call 142; refine (unhide cD _).mono ?_; rintro e w' ⟨rfl, rfl⟩) | (go_at_call 143; refine (rdigit_any _ _).mono ?_; rintro e w' ⟨rfl, rfl⟩))
    go_ret
    exact ⟨ret_i64 (unhide hfin).symm, unhide hB⟩
   ·have hfin := hide (show wrong e u r true true = _ by simp only [wrong, h1, h2, h3, unhide HD]; rfl)
    go_enter Tryz.func133, Tryz.ntmps133
    go_wp2_with (first | (go_at_call 142; refine (unhide cD _).mono ?_; rintro e w' ⟨rfl, rfl⟩) | (go_at_call 143; refine (rdigit_any _ _).mono ?_; rintro e w' ⟨rfl, rfl⟩))
    go_ret
    exact ⟨ret_i64 (unhide hfin).symm, unhide hB⟩
   ·exact rwrong_loops_false_false e u r w hu' hr' h0 h1 hd (unhide hB) (by simp only [wrong, h1, h2, h3, unhide HD]; rfl)
   ·exact rwrong_loops_false_true e u r w hu' hr' h0 h1 h3 hd (unhide hB) (by simp only [wrong, h1, h2, h3, unhide HD]; rfl)
   ·exact rwrong_loops_true_false e u r w hu' hr' h0 h1 hd (unhide cD) (unhide hB) (by simp only [wrong, h1, h2, h3, unhide HD]; rfl)
   ·exact rwrong_loops_true_true e u r w hu' hr' h0 h1 h3 hd (unhide cD) (unhide hB) (by simp only [wrong, h1, h2, h3, unhide HD]; rfl)
   ·exact rwrong_loops_false_false e u r w hu' hr' h0 h1 hd (unhide hB) (by simp only [wrong, h1, h2, h3, unhide HD]; rfl)
   ·have hfin := hide (show wrong e u r false true = _ by simp only [wrong, h1, h2, h3, unhide HD]; rfl)
    go_enter Tryz.func133, Tryz.ntmps133
    go_wp2_with (first | (go_at_call 142; refine (unhide cD _).mono ?_; rintro e w' ⟨rfl, rfl⟩) | (go_at_call 143; refine (rdigit_any _ _).mono ?_; rintro e w' ⟨rfl, rfl⟩))
    go_ret
    exact ⟨ret_i64 (unhide hfin).symm, unhide hB⟩
   ·exact rwrong_loops_true_false e u r w hu' hr' h0 h1 hd (unhide cD) (unhide hB) (by simp only [wrong, h1, h2, h3, unhide HD]; rfl)
   ·have hfin := hide (show wrong e u r true true = _ by simp only [wrong, h1, h2, h3, unhide HD]; rfl)
    go_enter Tryz.func133, Tryz.ntmps133
    go_wp2_with (first | (go_at_call 142; refine (unhide cD _).mono ?_; rintro e w' ⟨rfl, rfl⟩) | (go_at_call 143; refine (rdigit_any _ _).mono ?_; rintro e w' ⟨rfl, rfl⟩))
    go_ret
    exact ⟨ret_i64 (unhide hfin).symm, unhide hB⟩
 ·go_enter Tryz.func133, Tryz.ntmps133
  go_wp2
  go_ret
  exact ⟨ret_i64 (by simp [wrong, h1]), unhide hB⟩
end
section
open Go.RowKit
set_option maxHeartbeats 400000 in
theorem rsign_any (x y : Int) (w : World) (h : -9223372036854775808 ≤ x - y) (h' : x - y ≤ 9223372036854775807) :
 Calls Tryz.prog 146 #[.int .i64 (x - y)] w fun e w' => e = .returned (.int .i64 (ci x y)) ∧ w' = w := by
 rcases Int.lt_trichotomy x y with h1 | h1 | h1
 ·have HF := hide (show ci x y = -1 by unfold ci; rw [if_pos h1])
  have h2 : x - y < 0 := by omega
  generalize x - y = d at *
  clear h1
  go_enter Tryz.func146, Tryz.ntmps146
  go_wp2
  go_ret
  exact ⟨ret_int64 (unhide HF).symm, rfl⟩
 ·have HF := hide (show ci x y = 0 by unfold ci; rw [if_neg (by omega), if_neg (by omega)])
  have h2 : ¬ x - y < 0 := by omega
  have h3 : ¬ 0 < x - y := by omega
  generalize x - y = d at *
  clear h1
  go_enter Tryz.func146, Tryz.ntmps146
  go_wp2
  go_ret
  exact ⟨ret_int64 (unhide HF).symm, rfl⟩
 ·have HF := hide (show ci x y = 1 by unfold ci; rw [if_neg (by omega), if_pos h1])
  have h2 : ¬ x - y < 0 := by omega
  have h3 : 0 < x - y := by omega
  generalize x - y = d at *
  clear h1
  go_enter Tryz.func146, Tryz.ntmps146
  go_wp2
  go_ret
  exact ⟨ret_int64 (unhide HF).symm, rfl⟩
def rrk (s : ByteArray) (i : Nat) : Int := if h : i < s.size then (if isDig (s[i].toNat : Int) = true then 1 else rk (s[i].toNat : Int)) else 1
set_option maxHeartbeats 1000000 in
theorem rrank_any (s : ByteArray) (i : Nat) (w : World) :
 Calls Tryz.prog 145 #[.string s, .int .i64 i] w fun e w' => e = .returned (.int .i64 (rrk s i)) ∧ w' = w := by
 by_cases h : i < s.size
 ·have hb : (s[i].toNat : Int) ≤ 255 := by have := s[i].toNat_lt; omega
  cases hd : isDig (s[i].toNat : Int)
  ·have HF := hide (show rrk s i = rk (s[i].toNat : Int) by unfold rrk; rw [dif_pos h, hd]; rfl)
   cases h2 : ((s[i].toNat : Int) == 126) <;> cases h3 : isLet (s[i].toNat : Int)
   all_goals
    have HR := hide (show rk (s[i].toNat : Int) = _ by simp only [rk, h2, h3]; rfl)
    go_enter Tryz.func145, Tryz.ntmps145
    go_wp2_with (first | (go_at_call 143; refine (rdigit_any _ _).mono ?_; rintro e w' ⟨rfl, rfl⟩) | (go_at_call 159; refine (rletter_any _ _).mono ?_; rintro e w' ⟨rfl, rfl⟩))
    go_ret
    exact ⟨ret_int64 ((unhide HF).trans (unhide HR)).symm, rfl⟩
  ·have HF := hide (show rrk s i = 1 by unfold rrk; rw [dif_pos h, hd]; rfl)
   go_enter Tryz.func145, Tryz.ntmps145
   go_wp2_with (go_at_call 143; refine (rdigit_any _ _).mono ?_; rintro e w' ⟨rfl, rfl⟩)
   go_ret
   exact ⟨ret_int64 (unhide HF).symm, rfl⟩
 ·have HF := hide (show rrk s i = 1 by unfold rrk; rw [dif_neg h])
  go_enter Tryz.func145, Tryz.ntmps145
  go_wp2
  go_ret
  exact ⟨ret_int64 (unhide HF).symm, rfl⟩
def zAt (s : ByteArray) (i : Nat) : Nat := i + ((s.data.toList.drop i).takeWhile (fun c => c == 48)).length
theorem zAt_step (s : ByteArray) (k : Nat) (h : k < s.size) (hd : ((s[k].toNat : Int) == 48) = true) : zAt s (k + 1) = zAt s k := by
 unfold zAt
 have hx : (s[k] == 48) = true := by
  have := beq_iff_eq.1 hd
  rw [beq_iff_eq]
  apply UInt8.toNat_inj.1
  show s[k].toNat = 48
  omega
 rw [drop_at s k h, List.takeWhile_cons, if_pos hx]
 simp only [List.length_cons]
 omega
theorem zAt_stop (s : ByteArray) (k : Nat) (h : k < s.size) (hd : ((s[k].toNat : Int) == 48) = false) : zAt s k = k := by
 unfold zAt
 have hx : ¬ (s[k] == 48) = true := by
  intro e
  rw [beq_iff_eq] at e
  rw [e] at hd
  exact absurd hd (by decide)
 rw [drop_at s k h, List.takeWhile_cons, if_neg hx]
 rfl
theorem zAt_end (s : ByteArray) (k : Nat) (h : s.size ≤ k) : zAt s k = k := by
 unfold zAt
 rw [List.drop_eq_nil_of_le (by simpa using h)]
 rfl
theorem takeWhile_two (l : List UInt8) : (l.takeWhile (fun c => isDig (c.toNat : Int) == true)).takeWhile (fun c => c == 48) = l.takeWhile (fun c => c == 48) := by
 induction l with
 | nil => rfl
 | cons a l ih =>
   by_cases h : a = 48
   ·subst h
    rw [List.takeWhile_cons, if_pos (by decide), List.takeWhile_cons, if_pos (by decide), List.takeWhile_cons, if_pos (by decide), ih]
   ·have h2 : ¬ (a == 48) = true := by simpa using h
    rw [List.takeWhile_cons]
    split
    ·rw [List.takeWhile_cons, if_neg h2, List.takeWhile_cons, if_neg h2]
    ·rw [List.takeWhile_cons, if_neg h2]; rfl
theorem dropWhile_eq {α : Type} (p : α → Bool) : ∀ l : List α, l.dropWhile p = l.drop (l.takeWhile p).length
 | [] => rfl
 | a :: l => by
   cases h : p a
   ·rw [List.dropWhile_cons, List.takeWhile_cons, h]; rfl
   ·rw [List.dropWhile_cons, List.takeWhile_cons, h]
    simp only [if_true, List.length_cons, List.drop_succ_cons]
    exact dropWhile_eq p l
theorem take_takeWhile {α : Type} (p : α → Bool) : ∀ l : List α, l.take (l.takeWhile p).length = l.takeWhile p
 | [] => rfl
 | a :: l => by
   cases h : p a
   ·rw [List.takeWhile_cons, h]; rfl
   ·rw [List.takeWhile_cons, h]
    simp only [if_true, List.length_cons, List.take_succ_cons]
    rw [take_takeWhile p l]
theorem toList_ext (s : ByteArray) (a b : Nat) : (s.extract a b).data.toList = (s.data.toList.drop a).take (b - a) := by
 rw [ByteArray.data_extract, Array.toList_extract]
theorem strip_run (s : ByteArray) (i : Nat) : s.extract (zAt s i) (endAt s i true) = stripB (s.extract i (endAt s i true)) := by
 refine eq_stripB ?_
 unfold trim
 rw [toList_ext, toList_ext, dropWhile_eq]
 have e1 : endAt s i true - i = ((s.data.toList.drop i).takeWhile (fun c => isDig (c.toNat : Int) == true)).length := by unfold endAt; omega
 have e2 : endAt s i true - zAt s i = ((s.data.toList.drop i).takeWhile (fun c => isDig (c.toNat : Int) == true)).length - ((s.data.toList.drop i).takeWhile (fun c => c == 48)).length := by unfold endAt zAt; omega
 rw [e1, e2, take_takeWhile, takeWhile_two]
 unfold zAt
 rw [← List.drop_drop, ← take_takeWhile (fun c => isDig (c.toNat : Int) == true) (s.data.toList.drop i)]
 rw [List.drop_take, take_takeWhile]
theorem zAt_le (s : ByteArray) (i : Nat) : zAt s i ≤ endAt s i true := by
 have h := takeWhile_two (s.data.toList.drop i)
 have h2 := (List.takeWhile_sublist (fun c : UInt8 => c == 48) (l := (s.data.toList.drop i).takeWhile (fun c => isDig (c.toNat : Int) == true))).length_le
 rw [h] at h2
 unfold zAt endAt
 omega
theorem endAt_zAt (s : ByteArray) : ∀ (m i : Nat), s.size - i ≤ m → endAt s (zAt s i) true = endAt s i true
 | 0, i, hm => by rw [zAt_end s i (by omega)]
 | m + 1, i, hm => by
   by_cases h : i < s.size
   ·cases hd : ((s[i].toNat : Int) == 48)
    ·rw [zAt_stop s i h hd]
    ·have h2 : (isDig (s[i].toNat : Int) == true) = true := by
      have := beq_iff_eq.1 hd
      rw [this]; decide
     rw [← zAt_step s i h hd, endAt_zAt s m (i + 1) (by omega), endAt_step s i true h h2]
   ·rw [zAt_end s i (by omega)]
theorem ret_two {a b c d : Nat} (h : a = b) (k : c = d) : Ending.returned (.tuple #[.int .i64 a, .int .i64 c]) = .returned (.tuple #[.int .i64 b, .int .i64 d]) := by rw [h, k]
set_option maxHeartbeats 1000000 in
theorem rrun_any (s : ByteArray) (hs : s.size ≤ maxLen) (i : Nat) (hi : i ≤ s.size) (w : World) :
 Calls Tryz.prog 147 #[.string s, .int .i64 i] w fun e w' => e = .returned (.tuple #[.int .i64 (zAt s i), .int .i64 (endAt s i true)]) ∧ w' = w := by
 unfold maxLen at hs
 have HE := hide (endAt_zAt s _ i (Nat.le_refl _))
 have hz1 := zAt_le s i
 have hz2 := endAt_le s i true hi
 go_enter Tryz.func147, Tryz.ntmps147
 go_wp2
 go_loop [1] (fun v => ∃ k : Nat, k ≤ s.size ∧ v = .int .i64 k ∧ Hid (zAt s k = zAt s i)) (fun v => s.size - (intOf v).toNat)
 case atStart => exact ⟨i, hi, rfl, rfl⟩
 case round =>
  obtain ⟨k, hk, rfl, hz⟩ := hrel
  have hexit : ∀ (_ : zAt s k = k), k = zAt s i := fun h => h.symm.trans (unhide hz)
  by_cases hlt : k < s.size
  ·cases hd : ((s[k].toNat : Int) == 48)
   ·have HZ := hide (hexit (zAt_stop s k hlt hd))
    have HK := hide ((by rw [unhide HZ]; exact unhide HE) : endAt s k true = endAt s i true)
    clear hexit hz1
    go_wp2
    go_loop [1] (fun v => ∃ q : Nat, q ≤ s.size ∧ v = .int .i64 q ∧ Hid (endAt s q true = endAt s i true)) (fun v => s.size - (intOf v).toNat)
    case atStart => exact ⟨k, hk, rfl, HK⟩
    case round =>
     obtain ⟨q, hq, rfl, hy⟩ := hrel
     by_cases hlt2 : q < s.size
     ·cases hd2 : isDig (s[q].toNat : Int)
      ·have HS := hide ((endAt_stop s q true hlt2 (by rw [hd2]; rfl)).symm.trans (unhide hy))
       go_wp2_with (go_at_call 143; refine (rdigit_any _ _).mono ?_; rintro e w' ⟨rfl, rfl⟩)
       go_ret2
       exact ⟨ret_two (unhide HZ) (unhide HS), rfl⟩
      ·have HS := hide ((endAt_step s q true hlt2 (by rw [hd2]; rfl)).trans (unhide hy))
       go_wp2_with (go_at_call 143; refine (rdigit_any _ _).mono ?_; rintro e w' ⟨rfl, rfl⟩)
       go_round
       case rel => exact ⟨q + 1, by omega, by go_num, HS⟩
       case measure => simp [intOf]; omega
     ·have HS := hide ((endAt_end s q true (by omega)).symm.trans (unhide hy))
      go_wp2
      go_ret2
      exact ⟨ret_two (unhide HZ) (unhide HS), rfl⟩
   ·have HS := hide ((zAt_step s k hlt hd).trans (unhide hz))
    clear hexit
    go_wp2
    go_round
    case rel => exact ⟨k + 1, by omega, by go_num, HS⟩
    case measure => simp [intOf]; omega
  ·have HZ := hide (hexit (zAt_end s k (by omega)))
   clear hexit hz1
   have HS := hide ((endAt_end s k true (by omega)).symm.trans ((by rw [unhide HZ]; exact unhide HE) : endAt s k true = endAt s i true))
   go_wp2
   go_loop [1] (fun v => v = .int .i64 k) (fun v => s.size - (intOf v).toNat)
   case atStart => rfl
   case round =>
    subst hrel
    go_wp2
    go_ret2
    exact ⟨ret_two (unhide HZ) (unhide HS), rfl⟩
end
end Go.Proofs.YtdkpglmdncjnbaaGreatDoor
