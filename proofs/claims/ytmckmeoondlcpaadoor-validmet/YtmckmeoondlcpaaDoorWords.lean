import Derived.Test.YtmckmeoondlcpaaDoorNum
namespace Go.Proofs.YtmckmeoondlcpaaDoor
open Go.RowKit

/-- THE FIRST OF c 0 .. c (n - 1) THAT IS NOT 0; ELSE 0. -/
def sq (c : Nat → Int) : Nat → Int
  | 0 => 0
  | n + 1 => if sq c n = 0 then c n else sq c n

theorem sq_stays (c : Nat → Int) (k : Nat) (h : sq c k ≠ 0) : ∀ n, k ≤ n → sq c n = sq c k := by
  intro n hn
  induction n with
  | zero => have : k = 0 := by omega
            rw [this]
  | succ n ih =>
    by_cases e : k = n + 1
    · rw [e]
    · have := ih (by omega)
      show (if sq c n = 0 then c n else sq c n) = _
      rw [this, if_neg h]

theorem sq_hit (c : Nat → Int) (k n : Nat) (h0 : sq c k = 0) (h : c k ≠ 0) (hk : k < n) : sq c n = c k := by
  have h1 : sq c (k + 1) = c k := by show (if sq c k = 0 then c k else sq c k) = _; rw [if_pos h0]
  rw [sq_stays c (k + 1) (by rw [h1]; exact h) n hk, h1]

theorem sq_miss (c : Nat → Int) (k : Nat) (h0 : sq c k = 0) (h : c k = 0) : sq c (k + 1) = 0 := by
  show (if sq c k = 0 then c k else sq c k) = _
  rw [if_pos h0, h]

def rk (n : Int) : Int := if (n == 126) = true then 0 else if isLet n = true then 2 + n else 300 + n
def rkAt (s : ByteArray) (i : Nat) : Int := if h : i < s.size then rk (s[i].toNat : Int) else 1

set_option maxHeartbeats 400000 in
theorem rank_any (b : Int) (h0 : 0 ≤ b) (h1 : b ≤ 255) (w : World) :
    Calls Tryd.prog 73 #[.int .u8 b] w fun e w' => e = .returned (.int .i64 (rk b)) ∧ w' = w := by
  cases h2 : (b == 126) <;> cases h3 : isLet b
  all_goals
    go_enter Tryd.func73, Tryd.ntmps73
    go_wp2_with (go_at_call 58; refine (isLetter_any _ _).mono ?_; rintro e w' ⟨rfl, rfl⟩)
    go_ret
    exact ⟨ret_int64 (by simp only [rk, h2, h3]; rfl), rfl⟩

set_option maxHeartbeats 400000 in
theorem rankAt_any (s : ByteArray) (_hs : s.size ≤ maxLen) (i : Nat) (w : World) :
    Calls Tryd.prog 67 #[.string s, .int .i64 i] w fun e w' => e = .returned (.int .i64 (rkAt s i)) ∧ w' = w := by
  by_cases h : i < s.size
  · have HF := hide (show rkAt s i = rk (s[i].toNat : Int) by unfold rkAt; rw [dif_pos h])
    have hb : (s[i].toNat : Int) ≤ 255 := by have := s[i].toNat_lt; omega
    go_enter Tryd.func67, Tryd.ntmps67
    go_wp2_with (go_at_call 73; refine (rank_any _ (by omega) (by omega) _).mono ?_; rintro e w' ⟨rfl, rfl⟩)
    go_ret
    exact ⟨ret_int64 (unhide HF).symm, rfl⟩
  · have HF := hide (show rkAt s i = 1 by unfold rkAt; rw [dif_neg h])
    go_enter Tryd.func67, Tryd.ntmps67
    go_wp2
    go_ret
    exact ⟨ret_int64 (unhide HF).symm, rfl⟩

def cw (a b : ByteArray) (i : Nat) : Int := ci (rkAt a i) (rkAt b i)
def ordWord (a b : ByteArray) : Int := sq (cw a b) (max a.size b.size)

set_option maxHeartbeats 1000000 in
theorem orderWords_any (a b : ByteArray) (ha : a.size ≤ maxLen) (hb : b.size ≤ maxLen) (w : World) :
    Calls Tryd.prog 48 #[.string a, .string b] w fun e w' => e = .returned (.int .i64 (ordWord a b)) ∧ w' = w := by
  have ha' := ha
  have hb' := hb
  unfold maxLen at ha' hb'
  have c1 := hide (fun i w => rankAt_any a ha i w)
  have c2 := hide (fun i w => rankAt_any b hb i w)
  by_cases h : a.size < b.size
  · have HF := hide (show ordWord a b = sq (cw a b) b.size by unfold ordWord; rw [show max a.size b.size = b.size by omega])
    go_enter Tryd.func48, Tryd.ntmps48
    go_wp2
    go_loop [5, 6, 12] (fun _ _ i => ∃ k : Nat, k ≤ b.size ∧ i = .int .i64 k ∧ Hid (sq (cw a b) k = 0)) (fun _ _ i => b.size - (intOf i).toNat)
    case atStart => exact ⟨0, Nat.zero_le _, rfl, rfl⟩
    case round =>
      obtain ⟨k, hk, rfl, hz⟩ := hrel
      by_cases hlt : k < b.size
      · by_cases hc : cw a b k = 0
        · have HC := hide hc
          have h1 : (ci (rkAt a k) (rkAt b k) != 0) = false := by simpa [cw] using hc
          clear hc
          go_wp2_with fail
          refine (unhide c1 k _).mono ?_
          rintro e w' ⟨rfl, rfl⟩
          go_wp2_with fail
          refine (unhide c2 k _).mono ?_
          rintro e w' ⟨rfl, rfl⟩
          go_wp2_with (go_at_call 45; refine (cmpInt_any _ _ _).mono ?_; rintro e w' ⟨rfl, rfl⟩)
          go_round
          case rel => exact ⟨k + 1, by omega, by go_num, hide (sq_miss _ k (unhide hz) (unhide HC))⟩
          case measure => simp [intOf]; omega
        · have HC := hide hc
          have h1 : (ci (rkAt a k) (rkAt b k) != 0) = true := by simpa [cw] using hc
          clear hc
          go_wp2_with fail
          refine (unhide c1 k _).mono ?_
          rintro e w' ⟨rfl, rfl⟩
          go_wp2_with fail
          refine (unhide c2 k _).mono ?_
          rintro e w' ⟨rfl, rfl⟩
          go_wp2_with (go_at_call 45; refine (cmpInt_any _ _ _).mono ?_; rintro e w' ⟨rfl, rfl⟩)
          go_ret
          exact ⟨ret_int64 (by rw [unhide HF, sq_hit _ k _ (unhide hz) (unhide HC) hlt]; rfl), rfl⟩
      · have hk' : k = b.size := by omega
        have HZ := hide (hk' ▸ unhide hz)
        clear hk'
        go_wp2
        go_ret
        exact ⟨ret_int64 (by rw [unhide HF]; exact (unhide HZ).symm), rfl⟩
  · have HF := hide (show ordWord a b = sq (cw a b) a.size by unfold ordWord; rw [show max a.size b.size = a.size by omega])
    go_enter Tryd.func48, Tryd.ntmps48
    go_wp2
    go_loop [5, 6, 12] (fun _ _ i => ∃ k : Nat, k ≤ a.size ∧ i = .int .i64 k ∧ Hid (sq (cw a b) k = 0)) (fun _ _ i => a.size - (intOf i).toNat)
    case atStart => exact ⟨0, Nat.zero_le _, rfl, rfl⟩
    case round =>
      obtain ⟨k, hk, rfl, hz⟩ := hrel
      by_cases hlt : k < a.size
      · by_cases hc : cw a b k = 0
        · have HC := hide hc
          have h1 : (ci (rkAt a k) (rkAt b k) != 0) = false := by simpa [cw] using hc
          clear hc
          go_wp2_with fail
          refine (unhide c1 k _).mono ?_
          rintro e w' ⟨rfl, rfl⟩
          go_wp2_with fail
          refine (unhide c2 k _).mono ?_
          rintro e w' ⟨rfl, rfl⟩
          go_wp2_with (go_at_call 45; refine (cmpInt_any _ _ _).mono ?_; rintro e w' ⟨rfl, rfl⟩)
          go_round
          case rel => exact ⟨k + 1, by omega, by go_num, hide (sq_miss _ k (unhide hz) (unhide HC))⟩
          case measure => simp [intOf]; omega
        · have HC := hide hc
          have h1 : (ci (rkAt a k) (rkAt b k) != 0) = true := by simpa [cw] using hc
          clear hc
          go_wp2_with fail
          refine (unhide c1 k _).mono ?_
          rintro e w' ⟨rfl, rfl⟩
          go_wp2_with fail
          refine (unhide c2 k _).mono ?_
          rintro e w' ⟨rfl, rfl⟩
          go_wp2_with (go_at_call 45; refine (cmpInt_any _ _ _).mono ?_; rintro e w' ⟨rfl, rfl⟩)
          go_ret
          exact ⟨ret_int64 (by rw [unhide HF, sq_hit _ k _ (unhide hz) (unhide HC) hlt]; rfl), rfl⟩
      · have hk' : k = a.size := by omega
        have HZ := hide (hk' ▸ unhide hz)
        clear hk'
        go_wp2
        go_ret
        exact ⟨ret_int64 (by rw [unhide HF]; exact (unhide HZ).symm), rfl⟩

end Go.Proofs.YtmckmeoondlcpaaDoor
