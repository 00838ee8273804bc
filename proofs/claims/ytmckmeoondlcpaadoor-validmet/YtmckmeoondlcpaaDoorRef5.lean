import Derived.Test.YtmckmeoondlcpaaDoorPre
import Derived.Test.YtmckmeoondlcpaaDoorRef
namespace Go.Proofs.YtmckmeoondlcpaaDoor
open Go.RowKit

set_option maxHeartbeats 400000 in
theorem rsign_any (x y : Int) (w : World) (h : -9223372036854775808 ≤ x - y) (h' : x - y ≤ 9223372036854775807) :
    Calls Tryd.prog 53 #[.int .i64 (x - y)] w fun e w' => e = .returned (.int .i64 (ci x y)) ∧ w' = w := by
  rcases Int.lt_trichotomy x y with h1 | h1 | h1
  · have HF := hide (show ci x y = -1 by unfold ci; rw [if_pos h1])
    have h2 : x - y < 0 := by omega
    generalize x - y = d at *
    clear h1
    go_enter Tryd.func53, Tryd.ntmps53
    go_wp2
    go_ret
    exact ⟨ret_int64 (unhide HF).symm, rfl⟩
  · have HF := hide (show ci x y = 0 by unfold ci; rw [if_neg (by omega), if_neg (by omega)])
    have h2 : ¬ x - y < 0 := by omega
    have h3 : ¬ 0 < x - y := by omega
    generalize x - y = d at *
    clear h1
    go_enter Tryd.func53, Tryd.ntmps53
    go_wp2
    go_ret
    exact ⟨ret_int64 (unhide HF).symm, rfl⟩
  · have HF := hide (show ci x y = 1 by unfold ci; rw [if_neg (by omega), if_pos h1])
    have h2 : ¬ x - y < 0 := by omega
    have h3 : 0 < x - y := by omega
    generalize x - y = d at *
    clear h1
    go_enter Tryd.func53, Tryd.ntmps53
    go_wp2
    go_ret
    exact ⟨ret_int64 (unhide HF).symm, rfl⟩

/-- ref's rank: of the byte at a place of a part, or 1 at its end and at a digit. -/
def rrk (s : ByteArray) (i : Nat) : Int := if h : i < s.size then (if isDig (s[i].toNat : Int) = true then 1 else rk (s[i].toNat : Int)) else 1

set_option maxHeartbeats 1000000 in
theorem rrank_any (s : ByteArray) (i : Nat) (w : World) :
    Calls Tryd.prog 52 #[.string s, .int .i64 i] w fun e w' => e = .returned (.int .i64 (rrk s i)) ∧ w' = w := by
  by_cases h : i < s.size
  · have hb : (s[i].toNat : Int) ≤ 255 := by have := s[i].toNat_lt; omega
    cases hd : isDig (s[i].toNat : Int)
    · have HF := hide (show rrk s i = rk (s[i].toNat : Int) by unfold rrk; rw [dif_pos h, hd]; rfl)
      cases h2 : ((s[i].toNat : Int) == 126) <;> cases h3 : isLet (s[i].toNat : Int)
      all_goals
        have HR := hide (show rk (s[i].toNat : Int) = _ by simp only [rk, h2, h3]; rfl)
        go_enter Tryd.func52, Tryd.ntmps52
        go_wp2_with (first | (go_at_call 50; refine (rdigit_any _ _).mono ?_; rintro e w' ⟨rfl, rfl⟩) | (go_at_call 68; refine (rletter_any _ _).mono ?_; rintro e w' ⟨rfl, rfl⟩))
        go_ret
        exact ⟨ret_int64 ((unhide HF).trans (unhide HR)).symm, rfl⟩
    · have HF := hide (show rrk s i = 1 by unfold rrk; rw [dif_pos h, hd]; rfl)
      go_enter Tryd.func52, Tryd.ntmps52
      go_wp2_with (go_at_call 50; refine (rdigit_any _ _).mono ?_; rintro e w' ⟨rfl, rfl⟩)
      go_ret
      exact ⟨ret_int64 (unhide HF).symm, rfl⟩
  · have HF := hide (show rrk s i = 1 by unfold rrk; rw [dif_neg h])
    go_enter Tryd.func52, Tryd.ntmps52
    go_wp2
    go_ret
    exact ⟨ret_int64 (unhide HF).symm, rfl⟩

/-- BEHIND THE NOUGHTS. -/
def zAt (s : ByteArray) (i : Nat) : Nat := i + ((s.data.toList.drop i).takeWhile (fun c => c == 48)).length

theorem zAt_step (s : ByteArray) (k : Nat) (h : k < s.size) (hd : ((s[k].toNat : Int) == 48) = true) : zAt s (k + 1) = zAt s k := by
  unfold zAt
  have hx : (s[k] == 48) = true := by
    have := beq_iff_eq.1 hd
    rw [beq_iff_eq]
    apply UInt8.toNat_inj.1
    show s[k].toNat = 48
    omega
  rw [drop_at s k h, List.takeWhile_cons, if_pos hx]
  simp only [List.length_cons]
  omega
theorem zAt_stop (s : ByteArray) (k : Nat) (h : k < s.size) (hd : ((s[k].toNat : Int) == 48) = false) : zAt s k = k := by
  unfold zAt
  have hx : ¬ (s[k] == 48) = true := by
    intro e
    rw [beq_iff_eq] at e
    rw [e] at hd
    exact absurd hd (by decide)
  rw [drop_at s k h, List.takeWhile_cons, if_neg hx]
  rfl
theorem zAt_end (s : ByteArray) (k : Nat) (h : s.size ≤ k) : zAt s k = k := by
  unfold zAt
  rw [List.drop_eq_nil_of_le (by simpa using h)]
  rfl

theorem dig_48 : isDig 48 = true := rfl

theorem takeWhile_two (l : List UInt8) : (l.takeWhile (fun c => isDig (c.toNat : Int) == true)).takeWhile (fun c => c == 48) = l.takeWhile (fun c => c == 48) := by
  induction l with
  | nil => rfl
  | cons a l ih =>
    by_cases h : a = 48
    · subst h
      rw [List.takeWhile_cons, if_pos (by decide), List.takeWhile_cons, if_pos (by decide), List.takeWhile_cons, if_pos (by decide), ih]
    · have h2 : ¬ (a == 48) = true := by simpa using h
      rw [List.takeWhile_cons]
      split
      · rw [List.takeWhile_cons, if_neg h2, List.takeWhile_cons, if_neg h2]
      · rw [List.takeWhile_cons, if_neg h2]; rfl

theorem dropWhile_eq {α : Type} (p : α → Bool) : ∀ l : List α, l.dropWhile p = l.drop (l.takeWhile p).length
  | [] => rfl
  | a :: l => by
    cases h : p a
    · rw [List.dropWhile_cons, List.takeWhile_cons, h]; rfl
    · rw [List.dropWhile_cons, List.takeWhile_cons, h]
      simp only [if_true, List.length_cons, List.drop_succ_cons]
      exact dropWhile_eq p l

theorem take_takeWhile {α : Type} (p : α → Bool) : ∀ l : List α, l.take (l.takeWhile p).length = l.takeWhile p
  | [] => rfl
  | a :: l => by
    cases h : p a
    · rw [List.takeWhile_cons, h]; rfl
    · rw [List.takeWhile_cons, h]
      simp only [if_true, List.length_cons, List.take_succ_cons]
      rw [take_takeWhile p l]

theorem toList_ext (s : ByteArray) (a b : Nat) : (s.extract a b).data.toList = (s.data.toList.drop a).take (b - a) := by
  rw [ByteArray.data_extract, Array.toList_extract]

/-- WHAT ref.run CUTS OUT IS THE RUN WITHOUT ITS NOUGHTS. -/
theorem strip_run (s : ByteArray) (i : Nat) : s.extract (zAt s i) (endAt s i true) = stripB (s.extract i (endAt s i true)) := by
  refine eq_stripB ?_
  unfold trim
  rw [toList_ext, toList_ext, dropWhile_eq]
  have e1 : endAt s i true - i = ((s.data.toList.drop i).takeWhile (fun c => isDig (c.toNat : Int) == true)).length := by unfold endAt; omega
  have e2 : endAt s i true - zAt s i = ((s.data.toList.drop i).takeWhile (fun c => isDig (c.toNat : Int) == true)).length - ((s.data.toList.drop i).takeWhile (fun c => c == 48)).length := by unfold endAt zAt; omega
  rw [e1, e2, take_takeWhile, takeWhile_two]
  unfold zAt
  rw [← List.drop_drop, ← take_takeWhile (fun c => isDig (c.toNat : Int) == true) (s.data.toList.drop i)]
  rw [List.drop_take, take_takeWhile]

theorem zAt_le (s : ByteArray) (i : Nat) : zAt s i ≤ endAt s i true := by
  have h := takeWhile_two (s.data.toList.drop i)
  have h2 := (List.takeWhile_sublist (fun c : UInt8 => c == 48) (l := (s.data.toList.drop i).takeWhile (fun c => isDig (c.toNat : Int) == true))).length_le
  rw [h] at h2
  unfold zAt endAt
  omega

theorem endAt_zAt (s : ByteArray) : ∀ (m i : Nat), s.size - i ≤ m → endAt s (zAt s i) true = endAt s i true
  | 0, i, hm => by rw [zAt_end s i (by omega)]
  | m + 1, i, hm => by
    by_cases h : i < s.size
    · cases hd : ((s[i].toNat : Int) == 48)
      · rw [zAt_stop s i h hd]
      · have h2 : (isDig (s[i].toNat : Int) == true) = true := by
          have := beq_iff_eq.1 hd
          rw [this]; decide
        rw [← zAt_step s i h hd, endAt_zAt s m (i + 1) (by omega), endAt_step s i true h h2]
    · rw [zAt_end s i (by omega)]

theorem ret_two {a b c d : Nat} (h : a = b) (k : c = d) : Ending.returned (.tuple #[.int .i64 a, .int .i64 c]) = .returned (.tuple #[.int .i64 b, .int .i64 d]) := by rw [h, k]

set_option maxHeartbeats 1000000 in
theorem rrun_any (s : ByteArray) (hs : s.size ≤ maxLen) (i : Nat) (hi : i ≤ s.size) (w : World) :
    Calls Tryd.prog 54 #[.string s, .int .i64 i] w fun e w' => e = .returned (.tuple #[.int .i64 (zAt s i), .int .i64 (endAt s i true)]) ∧ w' = w := by
  unfold maxLen at hs
  have HE := hide (endAt_zAt s _ i (Nat.le_refl _))
  have hz1 := zAt_le s i
  have hz2 := endAt_le s i true hi
  go_enter Tryd.func54, Tryd.ntmps54
  go_wp2
  go_loop [1] (fun v => ∃ k : Nat, k ≤ s.size ∧ v = .int .i64 k ∧ Hid (zAt s k = zAt s i)) (fun v => s.size - (intOf v).toNat)
  case atStart => exact ⟨i, hi, rfl, rfl⟩
  case round =>
    obtain ⟨k, hk, rfl, hz⟩ := hrel
    have hexit : ∀ (_ : zAt s k = k), k = zAt s i := fun h => h.symm.trans (unhide hz)
    by_cases hlt : k < s.size
    · cases hd : ((s[k].toNat : Int) == 48)
      · have HZ := hide (hexit (zAt_stop s k hlt hd))
        have HK := hide ((by rw [unhide HZ]; exact unhide HE) : endAt s k true = endAt s i true)
        clear hexit hz1
        go_wp2
        go_loop [1] (fun v => ∃ q : Nat, q ≤ s.size ∧ v = .int .i64 q ∧ Hid (endAt s q true = endAt s i true)) (fun v => s.size - (intOf v).toNat)
        case atStart => exact ⟨k, hk, rfl, HK⟩
        case round =>
          obtain ⟨q, hq, rfl, hy⟩ := hrel
          by_cases hlt2 : q < s.size
          · cases hd2 : isDig (s[q].toNat : Int)
            · have HS := hide ((endAt_stop s q true hlt2 (by rw [hd2]; rfl)).symm.trans (unhide hy))
              go_wp2_with (go_at_call 50; refine (rdigit_any _ _).mono ?_; rintro e w' ⟨rfl, rfl⟩)
              go_ret2
              exact ⟨ret_two (unhide HZ) (unhide HS), rfl⟩
            · have HS := hide ((endAt_step s q true hlt2 (by rw [hd2]; rfl)).trans (unhide hy))
              go_wp2_with (go_at_call 50; refine (rdigit_any _ _).mono ?_; rintro e w' ⟨rfl, rfl⟩)
              go_round
              case rel => exact ⟨q + 1, by omega, by go_num, HS⟩
              case measure => simp [intOf]; omega
          · have HS := hide ((endAt_end s q true (by omega)).symm.trans (unhide hy))
            go_wp2
            go_ret2
            exact ⟨ret_two (unhide HZ) (unhide HS), rfl⟩
      · have HS := hide ((zAt_step s k hlt hd).trans (unhide hz))
        clear hexit
        go_wp2
        go_round
        case rel => exact ⟨k + 1, by omega, by go_num, HS⟩
        case measure => simp [intOf]; omega
    · have HZ := hide (hexit (zAt_end s k (by omega)))
      clear hexit hz1
      have HS := hide ((endAt_end s k true (by omega)).symm.trans ((by rw [unhide HZ]; exact unhide HE) : endAt s k true = endAt s i true))
      go_wp2
      go_loop [1] (fun v => v = .int .i64 k) (fun v => s.size - (intOf v).toNat)
      case atStart => rfl
      case round =>
        subst hrel
        go_wp2
        go_ret2
        exact ⟨ret_two (unhide HZ) (unhide HS), rfl⟩

end Go.Proofs.YtmckmeoondlcpaaDoor
