import Derived.Test.YtfembjjpmjfklaaGreatDoorRef6
import Derived.Deep.RegionWith
namespace Go.Proofs.YtfembjjpmjfklaaGreatDoor
open Go.RowKit

/-- THE WORD RUNS: what the inner loop of ref.part finds. -/
theorem word_hit (a b : ByteArray) (m k : Nat) (h0 : sq (cp a b) (2 * m) = 0) (hk : sq (cw (runOf a (2 * m)) (runOf b (2 * m))) k = 0) (ha : k ≤ (runOf a (2 * m)).size) (hb : k ≤ (runOf b (2 * m)).size) (hne : cw (runOf a (2 * m)) (runOf b (2 * m)) k ≠ 0) :
    ordPart a b = cw (runOf a (2 * m)) (runOf b (2 * m)) k := by
  have hmx : k < max (runOf a (2 * m)).size (runOf b (2 * m)).size := by
    by_cases e : k = (runOf a (2 * m)).size ∧ k = (runOf b (2 * m)).size
    · exfalso
      apply hne
      unfold cw
      rw [rkAt_end _ _ (by omega), rkAt_end _ _ (by omega)]
      rfl
    · omega
  have hw : cp a b (2 * m) = cw (runOf a (2 * m)) (runOf b (2 * m)) k := by
    unfold cp
    rw [odd_two]
    show ordWord _ _ = _
    unfold ordWord
    exact sq_hit _ k _ hk hne hmx
  have h1 : sq (cp a b) (2 * m + 1) = cp a b (2 * m) := by
    show (if sq (cp a b) (2 * m) = 0 then _ else _) = _
    rw [if_pos h0]
  rw [ordPart_stop a b (2 * m + 1) (by rw [h1, hw]; exact hne), h1, hw]

theorem word_done (a b : ByteArray) (m k : Nat) (h0 : sq (cp a b) (2 * m) = 0) (hk : sq (cw (runOf a (2 * m)) (runOf b (2 * m))) k = 0) (ha : k = (runOf a (2 * m)).size) (hb : k = (runOf b (2 * m)).size) :
    sq (cp a b) (2 * m + 1) = 0 := by
  refine sq_miss _ _ h0 ?_
  unfold cp
  rw [odd_two]
  show ordWord _ _ = 0
  unfold ordWord
  rw [show max (runOf a (2 * m)).size (runOf b (2 * m)).size = k by omega]
  exact hk

theorem num_cp (a b : ByteArray) (m : Nat) : cp a b (2 * m + 1) = nb (a.extract (zAt a (ia a (2 * m + 1))) (endAt a (ia a (2 * m + 1)) true)) (b.extract (zAt b (ia b (2 * m + 1))) (endAt b (ia b (2 * m + 1)) true)) := by
  have hc : cp a b (2 * m + 1) = ordNum (runOf a (2 * m + 1)) (runOf b (2 * m + 1)) := by
    unfold cp
    rw [if_pos (odd_one m)]
  have e1 : runOf a (2 * m + 1) = a.extract (ia a (2 * m + 1)) (endAt a (ia a (2 * m + 1)) true) := by
    unfold runOf
    have : ia a (2 * m + 1 + 1) = endAt a (ia a (2 * m + 1)) (odd (2 * m + 1)) := rfl
    rw [this, odd_one]
  have e2 : runOf b (2 * m + 1) = b.extract (ia b (2 * m + 1)) (endAt b (ia b (2 * m + 1)) true) := by
    unfold runOf
    have : ia b (2 * m + 1 + 1) = endAt b (ia b (2 * m + 1)) (odd (2 * m + 1)) := rfl
    rw [this, odd_one]
  rw [hc, ← nb_ordNum, e1, e2, strip_run, strip_run]

theorem ia_next (a : ByteArray) (m : Nat) : endAt a (ia a (2 * m + 1)) true = ia a (2 * (m + 1)) := by
  show _ = endAt a (ia a (2 * m + 1)) (odd (2 * m + 1))
  rw [odd_one]

theorem num_hit (a b : ByteArray) (m : Nat) (h0 : sq (cp a b) (2 * m + 1) = 0) (h : cp a b (2 * m + 1) ≠ 0) : ordPart a b = cp a b (2 * m + 1) := by
  have h1 : sq (cp a b) (2 * m + 2) = cp a b (2 * m + 1) := by
    show (if sq (cp a b) (2 * m + 1) = 0 then _ else _) = _
    rw [if_pos h0]
  rw [ordPart_stop a b (2 * m + 2) (by rw [h1]; exact h), h1]

theorem meas_part (a b : ByteArray) (m : Nat) (h : ia a (2 * m) < a.size ∨ ia b (2 * m) < b.size) : (a.size - ia a (2 * (m + 1))) + (b.size - ia b (2 * (m + 1))) < (a.size - ia a (2 * m)) + (b.size - ia b (2 * m)) := by
  have a1 : ia a (2 * m) ≤ ia a (2 * (m + 1)) := Nat.le_trans (ia_mono a (2 * m)) (ia_mono a (2 * m + 1))
  have b1 : ia b (2 * m) ≤ ia b (2 * (m + 1)) := Nat.le_trans (ia_mono b (2 * m)) (ia_mono b (2 * m + 1))
  have a2 := ia_le a (2 * (m + 1))
  have b2 := ia_le b (2 * (m + 1))
  rcases h with h | h
  · have : ia a (2 * m) < ia a (2 * m + 2) := ia_two a (2 * m) h
    have e : ia a (2 * (m + 1)) = ia a (2 * m + 2) := rfl
    omega
  · have : ia b (2 * m) < ia b (2 * m + 2) := ia_two b (2 * m) h
    have e : ia b (2 * (m + 1)) = ia b (2 * m + 2) := rfl
    omega

theorem rk_bd (n : Int) (h : 0 ≤ n) (h2 : n ≤ 255) : 0 ≤ rk n ∧ rk n ≤ 555 := by
  unfold rk
  split
  · omega
  · split <;> omega
theorem rkAt_bd (s : ByteArray) (k : Nat) : 0 ≤ rkAt s k ∧ rkAt s k ≤ 555 := by
  unfold rkAt
  split
  · rename_i h
    have := s[k].toNat_lt
    exact rk_bd _ (by omega) (by omega)
  · omega

end Go.Proofs.YtfembjjpmjfklaaGreatDoor
