import Derived.Test.YtmckmeoondlcpaaDoorRef5
import Derived.Deep.QuietTactic
import Derived.BigQuiet
namespace Go.Proofs.YtmckmeoondlcpaaDoor
open Go.RowKit

def bt (s : ByteArray) (i : Nat) : Int := if h : i < s.size then (s[i].toNat : Int) else 0
def cb (x y : ByteArray) (i : Nat) : Int := ci (bt x i) (bt y i)
def nb (x y : ByteArray) : Int := if x.size = y.size then sq (cb x y) x.size else ci x.size y.size

theorem sq_cons (c : Nat → Int) : ∀ n, sq c (n + 1) = if c 0 = 0 then sq (fun i => c (i + 1)) n else c 0
  | 0 => by
    show (if (0 : Int) = 0 then c 0 else 0) = _
    rw [if_pos rfl]
    split
    · rename_i h; rw [h]; rfl
    · rfl
  | n + 1 => by
    have e : sq c (n + 2) = if sq c (n + 1) = 0 then c (n + 1) else sq c (n + 1) := rfl
    rw [e, sq_cons c n]
    by_cases h : c 0 = 0
    · rw [if_pos h, if_pos h]; rfl
    · rw [if_neg h, if_neg h, if_neg h]

theorem csL_sq : ∀ x y : List UInt8, x.length = y.length → csL x y = sq (fun i => ci ((x.getD i 0).toNat : Int) ((y.getD i 0).toNat : Int)) x.length
  | [], [], _ => rfl
  | [], _ :: _, h => by simp at h
  | _ :: _, [], h => by simp at h
  | a :: x, b :: y, h => by
    rw [csL_cons, List.length_cons, sq_cons]
    have ih := csL_sq x y (by simpa using h)
    rw [ih]
    rfl

theorem bt_getD (s : ByteArray) (i : Nat) : bt s i = ((s.data.toList.getD i 0).toNat : Int) := by
  unfold bt
  by_cases h : i < s.size
  · have h' : i < s.data.toList.length := by simpa using h
    rw [dif_pos h, List.getD_eq_getElem?_getD, List.getElem?_eq_getElem h']
    rfl
  · have h' : s.data.toList.length ≤ i := by simpa using h
    rw [dif_neg h, List.getD_eq_getElem?_getD, List.getElem?_eq_none h']
    rfl

theorem nb_ordNum (x y : ByteArray) : nb (stripB x) (stripB y) = ordNum x y := by
  unfold nb ordNum
  generalize stripB x = a
  generalize stripB y = b
  by_cases h : a.size = b.size
  · have hc : ci (a.size : Int) (b.size : Int) = 0 := by rw [h]; exact ci_refl _
    rw [if_pos h, if_pos hc, cs_csL, Lib.toList_data, Lib.toList_data, csL_sq _ _ (by simpa using h)]
    have e : a.data.toList.length = a.size := by simp
    rw [e]
    apply sq_congr
    intro i _
    unfold cb
    rw [bt_getD, bt_getD]
  · have hc : ¬ ci (a.size : Int) (b.size : Int) = 0 := by
      unfold ci
      split
      · decide
      · split
        · decide
        · omega
    rw [if_neg h, if_neg hc]

set_option maxHeartbeats 1000000 in
theorem rnumbers_any (x y : ByteArray) (hx : x.size ≤ maxLen) (hy : y.size ≤ maxLen) (w : World) :
    Calls Tryd.prog 55 #[.string x, .string y] w fun e w' => e = .returned (.int .i64 (nb x y)) ∧ ∃ n, w' = w.drewN n := by
  unfold maxLen at hx hy
  by_cases h : x.size = y.size
  · have HF := hide (show nb x y = sq (cb x y) x.size by unfold nb; rw [if_pos h])
    have hne : ((x.size : Int) != (y.size : Int)) = false := by simp [h]
    have hle : x.size ≤ y.size := by omega
    clear h
    go_enter Tryd.func55, Tryd.ntmps55
    go_wp2
    go_loopw [5] (fun i wr => ∃ k n : Nat, k ≤ x.size ∧ i = .int .i64 k ∧ wr = w.drewN n ∧ Hid (sq (cb x y) k = 0)) (fun i _ => x.size - (intOf i).toNat)
    case atStart => exact ⟨0, 0, Nat.zero_le _, rfl, rfl, rfl⟩
    case round =>
      obtain ⟨k, n, hk, rfl, rfl, hz⟩ := hrel
      by_cases hlt : k < x.size
      · have hlt2 : k < y.size := by omega
        have hi1 : (k : Int) < (x.size : Int) := by omega
        have hi2 : (k : Int) < (y.size : Int) := by omega
        have b1 : (x[k].toNat : Int) ≤ 255 := by have := x[k].toNat_lt; omega
        have b2 : (y[k].toNat : Int) ≤ 255 := by have := y[k].toNat_lt; omega
        have HC := hide (show cb x y k = ci (x[k].toNat : Int) (y[k].toNat : Int) by unfold cb bt; rw [dif_pos hlt, dif_pos hlt2])
        cases hq : ((x[k].toNat : Int) != (y[k].toNat : Int))
        · have HZ := hide (show cb x y k = 0 by rw [unhide HC]; have : (x[k].toNat : Int) = (y[k].toNat : Int) := by simpa using hq
                                                rw [this]; exact ci_refl _)
          go_wp2_with fail
          go_quiet (fail)
          go_wp2
          go_roundw
          case rel => exact ⟨k + 1, _, by omega, by go_num, rfl, hide (sq_miss _ k (unhide hz) (unhide HZ))⟩
          case measure => simp [intOf]; omega
        · have HN := hide (show cb x y k ≠ 0 by
            rw [unhide HC]
            have : (x[k].toNat : Int) ≠ (y[k].toNat : Int) := by simpa using hq
            unfold ci
            split
            · decide
            · split
              · decide
              · omega)
          go_wp2_with fail
          go_quiet (fail)
          go_wp2_with fail
          go_quiet ((go_at_call 53; refine (rsign_any _ _ _ (by omega) (by omega)).mono ?_; rintro e w'' ⟨rfl, rfl⟩; exact ⟨rfl, _, rfl⟩))
          go_wp2
          go_ret
          exact ⟨ret_int64 (by rw [unhide HF, sq_hit _ k _ (unhide hz) (unhide HN) hlt, unhide HC]), _, by rw [World.drewN_drewN, World.drewN_drewN]⟩
      · have HZ := hide (show sq (cb x y) x.size = 0 by have : k = x.size := by omega
                                                        rw [← this]; exact unhide hz)
        go_wp2
        go_ret
        exact ⟨ret_int64 (by rw [unhide HF]; exact (unhide HZ).symm), _, rfl⟩
  · have HF := hide (show nb x y = ci x.size y.size by unfold nb; rw [if_neg h])
    have hne : ((x.size : Int) != (y.size : Int)) = true := by simp; omega
    clear h
    go_enter Tryd.func55, Tryd.ntmps55
    go_wp2_with (go_at_call 53; refine (rsign_any _ _ _ (by omega) (by omega)).mono ?_; rintro e w' ⟨rfl, rfl⟩)
    go_ret
    exact ⟨ret_int64 (unhide HF).symm, 0, rfl⟩

theorem odd_two : ∀ m, odd (2 * m) = false
  | 0 => rfl
  | m + 1 => by
    have e : odd (2 * (m + 1)) = !!odd (2 * m) := rfl
    rw [e, odd_two m]; rfl
theorem odd_one (m : Nat) : odd (2 * m + 1) = true := by
  show (!odd (2 * m)) = true
  rw [odd_two]; rfl

/-- A BYTE OF A RUN OF NO DIGITS. -/
theorem endAt_in (s : ByteArray) (dg : Bool) : ∀ (m i k : Nat), s.size - i ≤ m → i ≤ k → k < endAt s i dg → ∀ h : k < s.size, (isDig (s[k].toNat : Int) == dg) = true
  | 0, i, k, hm, h1, h2, h => by omega
  | m + 1, i, k, hm, h1, h2, h => by
    by_cases hi : i < s.size
    · cases hd : (isDig (s[i].toNat : Int) == dg)
      · rw [endAt_stop s i dg hi hd] at h2; omega
      · by_cases e : k = i
        · subst e; exact hd
        · rw [← endAt_step s i dg hi hd] at h2
          exact endAt_in s dg m (i + 1) k (by omega) (by omega) h2 h
    · omega

theorem runOf_sz (s : ByteArray) (n : Nat) : (runOf s n).size = ia s (n + 1) - ia s n := by
  unfold runOf
  have := ia_le s (n + 1)
  rw [ByteArray.size_extract]
  omega

theorem runOf_at (s : ByteArray) (n k : Nat) (h : k < (runOf s n).size) : ∃ h2 : ia s n + k < s.size, (runOf s n)[k] = s[ia s n + k] := by
  have hz := runOf_sz s n
  have hl := ia_le s (n + 1)
  have h2 : ia s n + k < s.size := by omega
  refine ⟨h2, ?_⟩
  exact ByteArray.getElem_extract (h := h)

theorem rk_ne_one (n : Int) (h : 0 ≤ n) : rk n ≠ 1 := by
  unfold rk
  split
  · decide
  · split <;> omega

/-- ref's rank AT A PLACE OF A RUN OF NO DIGITS IS THE RUN's. -/
theorem rrk_run (s : ByteArray) (m k : Nat) (h : k ≤ (runOf s (2 * m)).size) : rrk s (ia s (2 * m) + k) = rkAt (runOf s (2 * m)) k := by
  have hz := runOf_sz s (2 * m)
  by_cases hk : k < (runOf s (2 * m)).size
  · obtain ⟨h2, he⟩ := runOf_at s (2 * m) k hk
    have hd := endAt_in s (odd (2 * m)) _ (ia s (2 * m)) (ia s (2 * m) + k) (Nat.le_refl _) (by omega) (by show _ < ia s (2 * m + 1); omega) h2
    rw [odd_two] at hd
    have hd' : isDig (s[ia s (2 * m) + k].toNat : Int) = false := by simpa using hd
    unfold rrk rkAt
    rw [dif_pos h2, dif_pos hk, hd', he]
    rfl
  · have hk' : ia s (2 * m) + k = ia s (2 * m + 1) := by
      have := ia_mono s (2 * m)
      omega
    rw [hk', rkAt_end _ _ (by omega)]
    unfold rrk
    split
    · rename_i hlt
      have hc := endAt_char s (odd (2 * m)) _ (ia s (2 * m)) (ia s (2 * m + 1)) (Nat.le_refl _) rfl hlt
      rw [odd_two] at hc
      have : isDig (s[ia s (2 * m + 1)].toNat : Int) = true := by simpa using hc
      rw [if_pos this]
    · rfl

theorem rkAt_one (s : ByteArray) (k : Nat) : rkAt s k = 1 ↔ s.size ≤ k := by
  constructor
  · intro h
    by_cases hk : k < s.size
    · unfold rkAt at h
      rw [dif_pos hk] at h
      exact absurd h (rk_ne_one _ (by omega))
    · omega
  · exact rkAt_end s k

end Go.Proofs.YtmckmeoondlcpaaDoor
