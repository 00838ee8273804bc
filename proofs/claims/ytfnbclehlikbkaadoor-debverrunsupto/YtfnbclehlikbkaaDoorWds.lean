import Derived.Test.YtfnbclehlikbkaaDoorSegs
import Derived.Test.YtfnbclehlikbkaaDoorPre
namespace Go.Proofs.YtfnbclehlikbkaaDoor
open Go.RowKit

theorem rk_bound (b : Int) (h0 : 0 ≤ b) (h1 : b ≤ 255) : 0 ≤ rk b ∧ rk b ≤ 555 := by
  unfold rk
  split
  · omega
  · split <;> omega
theorem rkAt_bound (s : ByteArray) (i : Nat) : 0 ≤ rkAt s i ∧ rkAt s i ≤ 555 := by
  unfold rkAt
  split
  · exact rk_bound _ (by omega) (by rename_i h; have := s[i].toNat_lt; omega)
  · omega

set_option maxHeartbeats 1000000 in
theorem weight_any (s : ByteArray) (i : Nat) (w : World) :
    Calls Tryd.prog 63 #[.string s, .int .i64 i] w fun e w' => e = .returned (.int .i64 (rkAt s i)) ∧ w' = w := by
  by_cases h : i < s.size
  · have HF := hide (show rkAt s i = rk (s[i].toNat : Int) by unfold rkAt; rw [dif_pos h])
    have hb : (s[i].toNat : Int) ≤ 255 := by have := s[i].toNat_lt; omega
    have hp : 0 ≤ (s[i].toNat : Int) := by omega
    have hin : (i : Int) < (s.size : Int) := by omega
    go_enter Tryd.func63, Tryd.ntmps63
    go_wp2
    all_goals go_ret
    all_goals refine ⟨ret_int64 ?_, rfl⟩
    all_goals rw [unhide HF]
    all_goals generalize (s[i].toNat : Int) = b at *
    all_goals (simp [rk, isLet, *] <;> omega)
  · have HF := hide (show rkAt s i = 1 by unfold rkAt; rw [dif_neg h])
    go_enter Tryd.func63, Tryd.ntmps63
    go_wp2
    go_ret
    exact ⟨ret_int64 (unhide HF).symm, rfl⟩

set_option maxHeartbeats 1000000 in
theorem bare_any (s : ByteArray) (hs : s.size ≤ maxLen) (w : World) :
    Calls Tryd.prog 44 #[.string s] w fun e w' => e = .returned (.string (stripB s)) ∧ w' = w := by
  unfold maxLen at hs
  go_enter Tryd.func44, Tryd.ntmps44
  go_wp2
  go_loop [0] (fun v => ∃ t : ByteArray, v = .string t ∧ t.size ≤ s.size ∧ Hid (trim t = trim s)) (fun v => Lib.strSize v)
  case atStart => exact ⟨s, rfl, Nat.le_refl _, rfl⟩
  case round =>
    obtain ⟨t, rfl, hts, ht⟩ := hrel
    by_cases h0 : 0 < t.size
    · cases hb : ((t[0].toNat : Int) == 48)
      · have HT := hide (trim_stop t (fun ⟨_, h⟩ => by rw [h h0] at hb; cases hb))
        go_wp2
        go_ret
        exact ⟨ret_str' (eq_stripB ((unhide HT).trans (unhide ht))), rfl⟩
      · have HT := hide (trim_tail t h0 hb)
        have hz := hide (size_le_of_extract t 1 t.size)
        have hz2 : Hid ((t.extract 1 t.size).size < t.size) := hide (by rw [ByteArray.size_extract]; omega)
        go_wp2
        go_round
        case rel => exact ⟨_, rfl, Nat.le_trans (unhide hz) hts, hide ((unhide HT).trans (unhide ht))⟩
        case measure => exact unhide hz2
    · have HT := hide (trim_stop t (fun ⟨h, _⟩ => h0 h))
      go_wp2
      go_ret
      exact ⟨ret_str' (eq_stripB ((unhide HT).trans (unhide ht))), rfl⟩

set_option maxHeartbeats 1000000 in
theorem sums_any (a b : ByteArray) (ha : a.size ≤ maxLen) (hb : b.size ≤ maxLen) (w : World) :
    Calls Tryd.prog 23 #[.string a, .string b] w fun e w' => e = .returned (.int .i64 (ordNum a b)) ∧ w' = w := by
  have c1 := hide (fun w => bare_any a ha w)
  have c2 := hide (fun w => bare_any b hb w)
  have HF := hide (show ordNum a b = if ci (stripB a).size (stripB b).size = 0 then cs (stripB a) (stripB b) else ci (stripB a).size (stripB b).size from rfl)
  generalize stripB a = x at *
  generalize stripB b = y at *
  generalize ordNum a b = res at *
  have e1 : x.toList.length = x.size := by rw [Lib.toList_data]; simp
  have e2 : y.toList.length = y.size := by rw [Lib.toList_data]; simp
  have key : (x.size < y.size ∧ Hid (res = -1)) ∨ (¬ x.size < y.size ∧ (x.size : Int) = (y.size : Int) ∧ Op.bytesLess x.toList y.toList = true ∧ Hid (res = -1)) ∨ (¬ x.size < y.size ∧ (x.size : Int) = (y.size : Int) ∧ Op.bytesLess x.toList y.toList = false ∧ (x.toList == y.toList) = true ∧ Hid (res = 0)) ∨ (¬ x.size < y.size ∧ (x.size : Int) = (y.size : Int) ∧ Op.bytesLess x.toList y.toList = false ∧ (x.toList == y.toList) = false ∧ Hid (res = 1)) ∨ (¬ x.size < y.size ∧ ¬ (x.size : Int) = (y.size : Int) ∧ (x.toList == y.toList) = false ∧ Hid (res = 1)) := by
    have hF := unhide HF
    unfold ci cs at hF
    by_cases hlt : x.size < y.size
    · rw [if_pos (show ((x.size : Nat) : Int) < ((y.size : Nat) : Int) by omega)] at hF
      exact .inl ⟨hlt, hF⟩
    · by_cases hgt : y.size < x.size
      · rw [if_neg (show ¬ ((x.size : Nat) : Int) < ((y.size : Nat) : Int) by omega), if_pos (show ((y.size : Nat) : Int) < ((x.size : Nat) : Int) by omega)] at hF
        refine .inr (.inr (.inr (.inr ⟨hlt, by omega, ?_, hF⟩)))
        cases he : (x.toList == y.toList)
        · rfl
        · have := eq_of_beq he
          rw [this] at e1
          omega
      · have hz : (x.size : Int) = (y.size : Int) := by omega
        rw [if_neg (show ¬ ((x.size : Nat) : Int) < ((y.size : Nat) : Int) by omega), if_neg (show ¬ ((y.size : Nat) : Int) < ((x.size : Nat) : Int) by omega), if_pos rfl] at hF
        cases hl : Op.bytesLess x.toList y.toList
        · rw [hl, if_neg (by decide)] at hF
          cases he : (x.toList == y.toList)
          · rw [he, if_neg (by decide)] at hF
            exact .inr (.inr (.inr (.inl ⟨hlt, hz, rfl, rfl, hF⟩)))
          · rw [he, if_pos rfl] at hF
            exact .inr (.inr (.inl ⟨hlt, hz, rfl, rfl, hF⟩))
        · rw [hl, if_pos rfl] at hF
          exact .inr (.inl ⟨hlt, hz, rfl, hF⟩)
  clear HF e1 e2
  rcases key with ⟨g1, HN⟩ | ⟨g1, g2, g3, HN⟩ | ⟨g1, g2, g3, g4, HN⟩ | ⟨g1, g2, g3, g4, HN⟩ | ⟨g1, g2, g4, HN⟩
  all_goals
    go_enter Tryd.func23, Tryd.ntmps23
    go_wp2_with fail
    refine (unhide c1 _).mono ?_
    rintro e w' ⟨rfl, rfl⟩
    go_wp2_with fail
    refine (unhide c2 _).mono ?_
    rintro e w' ⟨rfl, rfl⟩
    go_wp2_with fail
    go_ret
    exact ⟨ret_int64 (unhide HN).symm, rfl⟩

theorem sq_run (c : Nat → Int) (k : Nat) (x : Int) (h : sq c k = 0) (hx : c k = x) (hn : x ≠ 0) (m : Nat) (hm : k < m) : sq c m = x := by
  rw [sq_hit c k m h (by rw [hx]; exact hn) hm, hx]

set_option maxHeartbeats 1000000 in
theorem words_any (a b : ByteArray) (ha : a.size ≤ maxLen) (hb : b.size ≤ maxLen) (w : World) :
    Calls Tryd.prog 45 #[.string a, .string b] w fun e w' => e = .returned (.int .i64 (ordWord a b)) ∧ w' = w := by
  unfold maxLen at ha hb
  have c1 := hide (fun s i w => weight_any s i w)
  have HF := hide (show ordWord a b = sq (cw a b) (max a.size b.size) from rfl)
  go_enter Tryd.func45, Tryd.ntmps45
  go_wp2
  go_loop [5, 6] (fun i _ => ∃ k : Nat, k ≤ max a.size b.size ∧ i = .int .i64 k ∧ Hid (sq (cw a b) k = 0)) (fun i _ => max a.size b.size - (intOf i).toNat)
  case atStart => exact ⟨0, Nat.zero_le _, rfl, rfl⟩
  case round =>
    obtain ⟨k, hk, rfl, hz⟩ := hrel
    have b1 := rkAt_bound a k
    have b2 := rkAt_bound b k
    have hcw : cw a b k = ci (rkAt a k) (rkAt b k) := rfl
    have HCW := hide hcw
    clear hcw
    have key : k < a.size ∨ (¬ k < a.size ∧ k < b.size) ∨ (¬ k < a.size ∧ ¬ k < b.size) := by omega
    rcases key with h1 | ⟨h1, h2⟩ | ⟨h1, h2⟩
    · have hm : k < max a.size b.size := by omega
      rcases Int.lt_trichotomy (rkAt a k) (rkAt b k) with h3 | h3 | h3
      · have HX := hide (sq_run (cw a b) k (-1) (unhide hz) (by rw [unhide HCW]; unfold ci; rw [if_pos h3]) (by decide) _ hm)
        have h4 : rkAt a k - rkAt b k < 0 := by omega
        go_wp2_with fail
        refine (unhide c1 _ _ _).mono ?_
        rintro e w' ⟨rfl, rfl⟩
        go_wp2_with fail
        refine (unhide c1 _ _ _).mono ?_
        rintro e w' ⟨rfl, rfl⟩
        go_wp2_with fail
        go_ret
        exact ⟨ret_int64 (by rw [unhide HF, unhide HX]), rfl⟩
      · have HX := hide (sq_miss (cw a b) k (unhide hz) (by rw [unhide HCW, h3]; exact ci_refl _))
        have h4 : ¬ rkAt a k - rkAt b k < 0 := by omega
        have h5 : ¬ 0 < rkAt a k - rkAt b k := by omega
        clear h3
        go_wp2_with fail
        refine (unhide c1 _ _ _).mono ?_
        rintro e w' ⟨rfl, rfl⟩
        go_wp2_with fail
        refine (unhide c1 _ _ _).mono ?_
        rintro e w' ⟨rfl, rfl⟩
        go_wp2_with fail
        go_round
        case rel => exact ⟨k + 1, by omega, by go_num, HX⟩
        case measure => simp [intOf]; omega
      · have HX := hide (sq_run (cw a b) k 1 (unhide hz) (by rw [unhide HCW]; unfold ci; rw [if_neg (by omega), if_pos h3]) (by decide) _ hm)
        have h4 : ¬ rkAt a k - rkAt b k < 0 := by omega
        have h5 : 0 < rkAt a k - rkAt b k := by omega
        go_wp2_with fail
        refine (unhide c1 _ _ _).mono ?_
        rintro e w' ⟨rfl, rfl⟩
        go_wp2_with fail
        refine (unhide c1 _ _ _).mono ?_
        rintro e w' ⟨rfl, rfl⟩
        go_wp2_with fail
        go_ret
        exact ⟨ret_int64 (by rw [unhide HF, unhide HX]), rfl⟩
    · have hm : k < max a.size b.size := by omega
      rcases Int.lt_trichotomy (rkAt a k) (rkAt b k) with h3 | h3 | h3
      · have HX := hide (sq_run (cw a b) k (-1) (unhide hz) (by rw [unhide HCW]; unfold ci; rw [if_pos h3]) (by decide) _ hm)
        have h4 : rkAt a k - rkAt b k < 0 := by omega
        go_wp2_with fail
        refine (unhide c1 _ _ _).mono ?_
        rintro e w' ⟨rfl, rfl⟩
        go_wp2_with fail
        refine (unhide c1 _ _ _).mono ?_
        rintro e w' ⟨rfl, rfl⟩
        go_wp2_with fail
        go_ret
        exact ⟨ret_int64 (by rw [unhide HF, unhide HX]), rfl⟩
      · have HX := hide (sq_miss (cw a b) k (unhide hz) (by rw [unhide HCW, h3]; exact ci_refl _))
        have h4 : ¬ rkAt a k - rkAt b k < 0 := by omega
        have h5 : ¬ 0 < rkAt a k - rkAt b k := by omega
        clear h3
        go_wp2_with fail
        refine (unhide c1 _ _ _).mono ?_
        rintro e w' ⟨rfl, rfl⟩
        go_wp2_with fail
        refine (unhide c1 _ _ _).mono ?_
        rintro e w' ⟨rfl, rfl⟩
        go_wp2_with fail
        go_round
        case rel => exact ⟨k + 1, by omega, by go_num, HX⟩
        case measure => simp [intOf]; omega
      · have HX := hide (sq_run (cw a b) k 1 (unhide hz) (by rw [unhide HCW]; unfold ci; rw [if_neg (by omega), if_pos h3]) (by decide) _ hm)
        have h4 : ¬ rkAt a k - rkAt b k < 0 := by omega
        have h5 : 0 < rkAt a k - rkAt b k := by omega
        go_wp2_with fail
        refine (unhide c1 _ _ _).mono ?_
        rintro e w' ⟨rfl, rfl⟩
        go_wp2_with fail
        refine (unhide c1 _ _ _).mono ?_
        rintro e w' ⟨rfl, rfl⟩
        go_wp2_with fail
        go_ret
        exact ⟨ret_int64 (by rw [unhide HF, unhide HX]), rfl⟩
    · have HX := hide (show sq (cw a b) (max a.size b.size) = 0 by have e : k = max a.size b.size := by omega
                                                                   rw [← e]; exact unhide hz)
      go_wp2
      go_ret
      exact ⟨ret_int64 (by rw [unhide HF, unhide HX]), rfl⟩

end Go.Proofs.YtfnbclehlikbkaaDoor
