import Derived.Test.YtdkpglmdncjnbaaGreatDoorZf01
import Derived.RangeFuncNested
import Derived.RangeFuncBound
import Derived.RangeFuncCalls
import Derived.RangeFuncLeaves
import Derived.RangeFuncBox
import Derived.Shelf.Abstract
import Derived.Shelf.RegionOpen
import Derived.OwnWalkIn
import Derived.TacticsInMore
import Derived.LoopNIn
import Derived.Sort.QuietIn
namespace Go.Proofs.YtdkpglmdncjnbaaGreatDoor
section
open Go.RowKit
def sq (c : Nat → Int) : Nat → Int
 | 0 => 0
 | n + 1 => if sq c n = 0 then c n else sq c n
theorem sq_stays (c : Nat → Int) (k : Nat) (h : sq c k ≠ 0) : ∀ n, k ≤ n → sq c n = sq c k := by
 intro n hn
 induction n with
 | zero => have : k = 0 := by omega
           rw [this]
 | succ n ih =>
   by_cases e : k = n + 1
   ·rw [e]
   ·have := ih (by omega)
    show (if sq c n = 0 then c n else sq c n) = _
    rw [this, if_neg h]
theorem sq_hit (c : Nat → Int) (k n : Nat) (h0 : sq c k = 0) (h : c k ≠ 0) (hk : k < n) : sq c n = c k := by
 have h1 : sq c (k + 1) = c k := by show (if sq c k = 0 then c k else sq c k) = _; rw [if_pos h0]
 rw [sq_stays c (k + 1) (by rw [h1]; exact h) n hk, h1]
theorem sq_miss (c : Nat → Int) (k : Nat) (h0 : sq c k = 0) (h : c k = 0) : sq c (k + 1) = 0 := by
 show (if sq c k = 0 then c k else sq c k) = _
 rw [if_pos h0, h]
def rk (n : Int) : Int := if (n == 126) = true then 0 else if isLet n = true then 2 + n else 300 + n
def rkAt (s : ByteArray) (i : Nat) : Int := if h : i < s.size then rk (s[i].toNat : Int) else 1
set_option maxHeartbeats 400000 in
theorem rank_any (b : Int) (h0 : 0 ≤ b) (h1 : b ≤ 255) (w : World) :
 Calls Tryz.prog 174 #[.int .u8 b] w fun e w' => e = .returned (.int .i64 (rk b)) ∧ w' = w := by
 cases h2 : (b == 126) <;> cases h3 : isLet b
 all_goals
  go_enter Tryz.func174, Tryz.ntmps174
  go_wp2_with (go_at_call 162; refine (isLetter_any _ _).mono ?_; rintro e w' ⟨rfl, rfl⟩)
  go_ret
  exact ⟨ret_int64 (by simp only [rk, h2, h3]; rfl), rfl⟩
set_option maxHeartbeats 400000 in
theorem rankAt_any (s : ByteArray) (_hs : s.size ≤ maxLen) (i : Nat) (w : World) :
 Calls Tryz.prog 169 #[.string s, .int .i64 i] w fun e w' => e = .returned (.int .i64 (rkAt s i)) ∧ w' = w := by
 by_cases h : i < s.size
 ·have HF := hide (show rkAt s i = rk (s[i].toNat : Int) by unfold rkAt; rw [dif_pos h])
  have hb : (s[i].toNat : Int) ≤ 255 := by have := s[i].toNat_lt; omega
  go_enter Tryz.func169, Tryz.ntmps169
  go_wp2_with (go_at_call 174; refine (rank_any _ (by omega) (by omega) _).mono ?_; rintro e w' ⟨rfl, rfl⟩)
  go_ret
  exact ⟨ret_int64 (unhide HF).symm, rfl⟩
 ·have HF := hide (show rkAt s i = 1 by unfold rkAt; rw [dif_neg h])
  go_enter Tryz.func169, Tryz.ntmps169
  go_wp2
  go_ret
  exact ⟨ret_int64 (unhide HF).symm, rfl⟩
def cw (a b : ByteArray) (i : Nat) : Int := ci (rkAt a i) (rkAt b i)
def ordWord (a b : ByteArray) : Int := sq (cw a b) (max a.size b.size)
set_option maxHeartbeats 1000000 in
theorem orderWords_any (a b : ByteArray) (ha : a.size ≤ maxLen) (hb : b.size ≤ maxLen) (w : World) :
 Calls Tryz.prog 158 #[.string a, .string b] w fun e w' => e = .returned (.int .i64 (ordWord a b)) ∧ w' = w := by
 have ha' := ha
 have hb' := hb
 unfold maxLen at ha' hb'
 have c1 := hide (fun i w => rankAt_any a ha i w)
 have c2 := hide (fun i w => rankAt_any b hb i w)
 by_cases h : a.size < b.size
 ·have HF := hide (show ordWord a b = sq (cw a b) b.size by unfold ordWord; rw [show max a.size b.size = b.size by omega])
  go_enter Tryz.func158, Tryz.ntmps158
  go_wp2
  go_loop [5, 6, 12] (fun _ _ i => ∃ k : Nat, k ≤ b.size ∧ i = .int .i64 k ∧ Hid (sq (cw a b) k = 0)) (fun _ _ i => b.size - (intOf i).toNat)
  case atStart => exact ⟨0, Nat.zero_le _, rfl, rfl⟩
  case round =>
   obtain ⟨k, hk, rfl, hz⟩ := hrel
   by_cases hlt : k < b.size
   ·by_cases hc : cw a b k = 0
    ·have HC := hide hc
     have h1 : (ci (rkAt a k) (rkAt b k) != 0) = false := by simpa [cw] using hc
     clear hc
     go_wp2_with fail
     refine (unhide c1 k _).mono ?_
     rintro e w' ⟨rfl, rfl⟩
     go_wp2_with fail
     refine (unhide c2 k _).mono ?_
     rintro e w' ⟨rfl, rfl⟩
     go_wp2_with (go_at_call 156; refine (cmpInt_any _ _ _).mono ?_; rintro e w' ⟨rfl, rfl⟩)
     go_round
     case rel => exact ⟨k + 1, by omega, by go_num, hide (sq_miss _ k (unhide hz) (unhide HC))⟩
     case measure => simp [intOf]; omega
    ·have HC := hide hc
     have h1 : (ci (rkAt a k) (rkAt b k) != 0) = true := by simpa [cw] using hc
     clear hc
     go_wp2_with fail
     refine (unhide c1 k _).mono ?_
     rintro e w' ⟨rfl, rfl⟩
     go_wp2_with fail
     refine (unhide c2 k _).mono ?_
     rintro e w' ⟨rfl, rfl⟩
     go_wp2_with (go_at_call 156; refine (cmpInt_any _ _ _).mono ?_; rintro e w' ⟨rfl, rfl⟩)
     go_ret
     exact ⟨ret_int64 (by rw [unhide HF, sq_hit _ k _ (unhide hz) (unhide HC) hlt]; rfl), rfl⟩
   ·have hk' : k = b.size := by omega
    have HZ := hide (hk' ▸ unhide hz)
    clear hk'
    go_wp2
    go_ret
    exact ⟨ret_int64 (by rw [unhide HF]; exact (unhide HZ).symm), rfl⟩
 ·have HF := hide (show ordWord a b = sq (cw a b) a.size by unfold ordWord; rw [show max a.size b.size = a.size by omega])
  go_enter Tryz.func158, Tryz.ntmps158
  go_wp2
  go_loop [5, 6, 12] (fun _ _ i => ∃ k : Nat, k ≤ a.size ∧ i = .int .i64 k ∧ Hid (sq (cw a b) k = 0)) (fun _ _ i => a.size - (intOf i).toNat)
  case atStart => exact ⟨0, Nat.zero_le _, rfl, rfl⟩
  case round =>
   obtain ⟨k, hk, rfl, hz⟩ := hrel
   by_cases hlt : k < a.size
   ·by_cases hc : cw a b k = 0
    ·have HC := hide hc
     have h1 : (ci (rkAt a k) (rkAt b k) != 0) = false := by simpa [cw] using hc
     clear hc
     go_wp2_with fail
     refine (unhide c1 k _).mono ?_
     rintro e w' ⟨rfl, rfl⟩
     go_wp2_with fail
     refine (unhide c2 k _).mono ?_
     rintro e w' ⟨rfl, rfl⟩
     go_wp2_with (go_at_call 156; refine (cmpInt_any _ _ _).mono ?_; rintro e w' ⟨rfl, rfl⟩)
     go_round
     case rel => exact ⟨k + 1, by omega, by go_num, hide (sq_miss _ k (unhide hz) (unhide HC))⟩
     case measure => simp [intOf]; omega
    ·have HC := hide hc
     have h1 : (ci (rkAt a k) (rkAt b k) != 0) = true := by simpa [cw] using hc
     clear hc
     go_wp2_with fail
     refine (unhide c1 k _).mono ?_
     rintro e w' ⟨rfl, rfl⟩
     go_wp2_with fail
     refine (unhide c2 k _).mono ?_
     rintro e w' ⟨rfl, rfl⟩
     go_wp2_with (go_at_call 156; refine (cmpInt_any _ _ _).mono ?_; rintro e w' ⟨rfl, rfl⟩)
     go_ret
     exact ⟨ret_int64 (by rw [unhide HF, sq_hit _ k _ (unhide hz) (unhide HC) hlt]; rfl), rfl⟩
   ·have hk' : k = a.size := by omega
    have HZ := hide (hk' ▸ unhide hz)
    clear hk'
    go_wp2
    go_ret
    exact ⟨ret_int64 (by rw [unhide HF]; exact (unhide HZ).symm), rfl⟩
end
section
open Go.RowKit
theorem ret_nat {a b : Nat} (h : a = b) : Ending.returned (.int .i64 a) = .returned (.int .i64 b) := by rw [h]
def endAt (s : ByteArray) (i : Nat) (dg : Bool) : Nat := i + ((s.data.toList.drop i).takeWhile (fun c => isDig (c.toNat : Int) == dg)).length
theorem drop_at (s : ByteArray) (k : Nat) (h : k < s.size) : s.data.toList.drop k = s[k] :: s.data.toList.drop (k + 1) := by
 have h' : k < s.data.toList.length := by simpa using h
 exact List.drop_eq_getElem_cons h'
theorem endAt_step (s : ByteArray) (k : Nat) (dg : Bool) (h : k < s.size) (hd : (isDig (s[k].toNat : Int) == dg) = true) : endAt s (k + 1) dg = endAt s k dg := by
 unfold endAt
 rw [drop_at s k h, List.takeWhile_cons, if_pos hd]
 simp only [List.length_cons]
 omega
theorem endAt_stop (s : ByteArray) (k : Nat) (dg : Bool) (h : k < s.size) (hd : (isDig (s[k].toNat : Int) == dg) = false) : endAt s k dg = k := by
 unfold endAt
 rw [drop_at s k h, List.takeWhile_cons, if_neg (by rw [hd]; decide)]
 rfl
theorem endAt_end (s : ByteArray) (k : Nat) (dg : Bool) (h : s.size ≤ k) : endAt s k dg = k := by
 unfold endAt
 rw [List.drop_eq_nil_of_le (by simpa using h)]
 rfl
theorem endAt_ge (s : ByteArray) (k : Nat) (dg : Bool) : k ≤ endAt s k dg := Nat.le_add_right _ _
theorem endAt_le (s : ByteArray) (k : Nat) (dg : Bool) (h : k ≤ s.size) : endAt s k dg ≤ s.size := by
 unfold endAt
 have h1 := (List.takeWhile_sublist (fun c : UInt8 => isDig (c.toNat : Int) == dg) (l := s.data.toList.drop k)).length_le
 have h2 : (s.data.toList.drop k).length = s.size - k := by simp
 omega
set_option maxHeartbeats 1000000 in
theorem runEnd_any (s : ByteArray) (hs : s.size ≤ maxLen) (i : Nat) (dg : Bool) (w : World) (hi : i ≤ s.size) :
 Calls Tryz.prog 168 #[.string s, .int .i64 i, .bool dg] w fun e w' => e = .returned (.int .i64 (endAt s i dg)) ∧ w' = w := by
 unfold maxLen at hs
 go_enter Tryz.func168, Tryz.ntmps168
 go_wp2
 go_loop [1] (fun v => ∃ k : Nat, k ≤ s.size ∧ v = .int .i64 k ∧ Hid (endAt s k dg = endAt s i dg)) (fun v => s.size - (intOf v).toNat)
 case atStart => exact ⟨i, hi, rfl, rfl⟩
 case round =>
  obtain ⟨k, hk, rfl, hz⟩ := hrel
  by_cases hlt : k < s.size
  ·cases hd : (isDig (s[k].toNat : Int) == dg)
   ·have HE := hide (endAt_stop s k dg hlt hd)
    go_wp2_with (go_at_call 152; refine (isDigit_any _ _).mono ?_; rintro e w' ⟨rfl, rfl⟩)
    go_ret
    exact ⟨ret_nat (by rw [← unhide hz, unhide HE]), rfl⟩
   ·have HE := hide (endAt_step s k dg hlt hd)
    go_wp2_with (go_at_call 152; refine (isDigit_any _ _).mono ?_; rintro e w' ⟨rfl, rfl⟩)
    go_round
    case rel => exact ⟨k + 1, by omega, by go_num, hide ((unhide HE).trans (unhide hz))⟩
    case measure => simp [intOf]; omega
  ·have HE := hide (endAt_end s k dg (by omega))
   go_wp2
   go_ret
   exact ⟨ret_nat (by rw [← unhide hz, unhide HE]), rfl⟩
def odd : Nat → Bool
 | 0 => false
 | n + 1 => !odd n
def ia (s : ByteArray) : Nat → Nat
 | 0 => 0
 | n + 1 => endAt s (ia s n) (odd n)
theorem ia_le (s : ByteArray) : ∀ n, ia s n ≤ s.size
 | 0 => Nat.zero_le _
 | n + 1 => endAt_le s _ _ (ia_le s n)
theorem ia_mono (s : ByteArray) (n : Nat) : ia s n ≤ ia s (n + 1) := endAt_ge s _ _
theorem endAt_char (s : ByteArray) (dg : Bool) : ∀ (m i j : Nat), s.size - i ≤ m → endAt s i dg = j → ∀ h : j < s.size, (isDig (s[j].toNat : Int) == dg) = false
 | 0, i, j, hm, e, h => by
   have := endAt_end s i dg (by omega)
   omega
 | m + 1, i, j, hm, e, h => by
   by_cases hi : i < s.size
   ·cases hd : (isDig (s[i].toNat : Int) == dg)
    ·have e' := endAt_stop s i dg hi hd
     have : i = j := by omega
     subst this
     exact hd
    ·exact endAt_char s dg m (i + 1) j (by omega) (by rw [endAt_step s i dg hi hd]; exact e) h
   ·have := endAt_end s i dg (by omega)
    omega
theorem ia_odd (s : ByteArray) (n : Nat) (ho : odd n = true) (h : ia s n < s.size) : ia s n < ia s (n + 1) := by
 cases n with
 | zero => cases ho
 | succ m =>
   have hm : odd m = false := by
    have h' : (!odd m) = true := ho
    simpa using h'
   have hc := endAt_char s false (s.size - ia s m) (ia s m) (ia s (m + 1)) (Nat.le_refl _) (by show endAt s (ia s m) false = endAt s (ia s m) (odd m); rw [hm]) h
   have hd : (isDig (s[ia s (m + 1)].toNat : Int) == odd (m + 1)) = true := by
    rw [ho]
    revert hc
    cases isDig (s[ia s (m + 1)].toNat : Int) <;> decide
   have e : ia s (m + 2) = endAt s (ia s (m + 1)) (odd (m + 1)) := rfl
   rw [← endAt_step s _ _ h hd] at e
   have := endAt_ge s (ia s (m + 1) + 1) (odd (m + 1))
   show ia s (m + 1) < ia s (m + 2)
   omega
theorem ia_two (s : ByteArray) (n : Nat) (h : ia s n < s.size) : ia s n < ia s (n + 2) := by
 have h1 := ia_mono s n
 by_cases e : ia s (n + 1) = ia s n
 ·cases hd : (isDig (s[ia s n].toNat : Int) == odd n)
  ·have hd2 : (isDig (s[ia s n].toNat : Int) == odd (n + 1)) = true := by
    show (isDig (s[ia s n].toNat : Int) == !odd n) = true
    revert hd
    cases isDig (s[ia s n].toNat : Int) <;> cases odd n <;> decide
   have : ia s (n + 2) = endAt s (ia s n) (odd (n + 1)) := by show endAt s (ia s (n + 1)) _ = _; rw [e]
   rw [this, ← endAt_step s (ia s n) _ h hd2]
   exact Nat.lt_of_lt_of_le (Nat.lt_succ_self _) (endAt_ge s _ _)
  ·have : ia s (n + 1) = endAt s (ia s n) (odd n) := rfl
   rw [← endAt_step s (ia s n) _ h hd] at this
   have := endAt_ge s (ia s n + 1) (odd n)
   omega
 ·have : ia s (n + 1) ≤ ia s (n + 2) := ia_mono s (n + 1)
  omega
theorem ia_progress (s : ByteArray) : ∀ m, m ≤ s.size → m ≤ ia s (2 * m)
 | 0, _ => Nat.zero_le _
 | m + 1, h => by
   have ih := ia_progress s m (by omega)
   have h2 : ia s (2 * m) ≤ ia s (2 * m + 2) := Nat.le_trans (ia_mono s _) (ia_mono s _)
   by_cases e : ia s (2 * m) < s.size
   ·have := ia_two s (2 * m) e
    show m + 1 ≤ ia s (2 * m + 2)
    omega
   ·have := ia_le s (2 * m)
    show m + 1 ≤ ia s (2 * m + 2)
    omega
theorem ia_done (s : ByteArray) (n : Nat) (h : 2 * s.size ≤ n) : ia s n = s.size := by
 induction n with
 | zero =>
   have := ia_le s 0
   have h0 : s.size = 0 := by omega
   have : ia s 0 = 0 := rfl
   omega
 | succ n ih =>
   by_cases e : 2 * s.size = n + 1
   ·have := ia_progress s s.size (Nat.le_refl _)
    rw [e] at this
    have := ia_le s (n + 1)
    omega
   ·have h1 := ih (by omega)
    have h2 := ia_mono s n
    have h3 := ia_le s (n + 1)
    omega
def runOf (s : ByteArray) (n : Nat) : ByteArray := s.extract (ia s n) (ia s (n + 1))
theorem runOf_size (s : ByteArray) (n : Nat) : (runOf s n).size ≤ s.size := size_le_of_extract _ _ _
abbrev Run2 := { x : ByteArray × ByteArray // x.1.size ≤ maxLen ∧ x.2.size ≤ maxLen }
def pairOf (a b : ByteArray) (ha : a.size ≤ maxLen) (hb : b.size ≤ maxLen) (n : Nat) : Run2 := ⟨(runOf a n, runOf b n), Nat.le_trans (runOf_size a n) ha, Nat.le_trans (runOf_size b n) hb⟩
def upto (a b : ByteArray) (ha : a.size ≤ maxLen) (hb : b.size ≤ maxLen) (n : Nat) : List Run2 := (List.range n).map (pairOf a b ha hb)
theorem upto_succ (a b : ByteArray) (ha : a.size ≤ maxLen) (hb : b.size ≤ maxLen) (n : Nat) : upto a b ha hb (n + 1) = upto a b ha hb n ++ [pairOf a b ha hb n] := by
 unfold upto; rw [List.range_succ, List.map_append]; rfl
theorem upto_length (a b : ByteArray) (ha : a.size ≤ maxLen) (hb : b.size ≤ maxLen) (n : Nat) : (upto a b ha hb n).length = n := by
 unfold upto; simp
end
section
open Go.RowKit
theorem sq_zero (c : Nat → Int) : ∀ n, sq c n = 0 ↔ ∀ i, i < n → c i = 0
 | 0 => ⟨fun _ i h => absurd h (Nat.not_lt_zero _), fun _ => rfl⟩
 | n + 1 => by
   have ih := sq_zero c n
   have e : sq c (n + 1) = if sq c n = 0 then c n else sq c n := rfl
   constructor
   ·intro h i hi
    by_cases h0 : sq c n = 0
    ·rw [e, if_pos h0] at h
     by_cases hin : i = n
     ·rw [hin]; exact h
     ·exact ih.1 h0 i (by omega)
    ·rw [e, if_neg h0] at h
     exact absurd h h0
   ·intro h
    have h0 : sq c n = 0 := ih.2 fun i hi => h i (by omega)
    rw [e, if_pos h0]
    exact h n (Nat.lt_succ_self _)
theorem sq_tail (c : Nat → Int) (B : Nat) (h : ∀ i, B ≤ i → c i = 0) : ∀ n, B ≤ n → sq c n = sq c B
 | 0, hn => by have : B = 0 := by omega
               rw [this]
 | n + 1, hn => by
   by_cases e : B = n + 1
   ·rw [e]
   ·have ih := sq_tail c B h n (by omega)
    show (if sq c n = 0 then c n else sq c n) = _
    rw [ih]
    split
    ·rename_i h0; rw [h0]; exact h n (by omega)
    ·rfl
theorem sq_congr (c d : Nat → Int) : ∀ n, (∀ i, i < n → c i = d i) → sq c n = sq d n
 | 0, _ => rfl
 | n + 1, h => by
   show (if sq c n = 0 then c n else sq c n) = if sq d n = 0 then d n else sq d n
   rw [sq_congr c d n fun i hi => h i (by omega), h n (Nat.lt_succ_self _)]
def cp (a b : ByteArray) (n : Nat) : Int := if odd n = true then ordNum (runOf a n) (runOf b n) else ordWord (runOf a n) (runOf b n)
def bnd (a b : ByteArray) : Nat := 2 * (a.size + b.size)
def ordPart (a b : ByteArray) : Int := sq (cp a b) (bnd a b)
theorem runOf_end (a : ByteArray) (n : Nat) (h : ia a n = a.size) : (runOf a n).size = 0 := by
 unfold runOf
 rw [ByteArray.size_extract, h]
 omega
theorem ba_empty {s : ByteArray} (h : s.size = 0) : s = nob := by
 have : s.data.toList = [] := List.eq_nil_of_length_eq_zero (by simpa using h)
 apply ByteArray.ext
 apply Array.ext'
 rw [this]; rfl
theorem bytesLess_irrefl : ∀ l : List UInt8, Op.bytesLess l l = false
 | [] => rfl
 | a :: l => by simp [Op.bytesLess, bytesLess_irrefl l]
theorem ci_refl (x : Int) : ci x x = 0 := by unfold ci; rw [if_neg (Int.lt_irrefl x), if_neg (Int.lt_irrefl x)]
theorem cs_refl (x : ByteArray) : cs x x = 0 := by unfold cs; rw [bytesLess_irrefl]; simp
theorem ordNum_refl (x : ByteArray) : ordNum x x = 0 := by unfold ordNum; rw [ci_refl, if_pos rfl, cs_refl]
theorem ordWord_refl (x : ByteArray) : ordWord x x = 0 := by unfold ordWord; rw [sq_zero]; intro i _; exact ci_refl _
theorem cp_end (a b : ByteArray) (n : Nat) (ha : ia a n = a.size) (hb : ia b n = b.size) : cp a b n = 0 := by
 unfold cp
 rw [ba_empty (runOf_end a n ha), ba_empty (runOf_end b n hb)]
 split
 ·exact ordNum_refl _
 ·exact ordWord_refl _
theorem ia_stays (s : ByteArray) (N : Nat) (h : ia s N = s.size) : ∀ n, N ≤ n → ia s n = s.size
 | 0, hn => by have : N = 0 := by omega
               rw [← this]; exact h
 | n + 1, hn => by
   by_cases e : N = n + 1
   ·rw [← e]; exact h
   ·have := ia_stays s N h n (by omega)
    have h1 := ia_mono s n
    have h2 := ia_le s (n + 1)
    omega
theorem cp_bnd (a b : ByteArray) (n : Nat) (h : bnd a b ≤ n) : cp a b n = 0 := by
 unfold bnd at h
 exact cp_end a b n (ia_done a n (by omega)) (ia_done b n (by omega))
theorem ordPart_done (a b : ByteArray) (N : Nat) (ha : ia a N = a.size) (hb : ia b N = b.size) (h : sq (cp a b) N = 0) : ordPart a b = 0 := by
 unfold ordPart
 rw [sq_zero]
 intro i _
 by_cases e : i < N
 ·exact (sq_zero _ N).1 h i e
 ·exact cp_end a b i (ia_stays a N ha i (by omega)) (ia_stays b N hb i (by omega))
theorem ordPart_stop (a b : ByteArray) (N : Nat) (h : sq (cp a b) N ≠ 0) : ordPart a b = sq (cp a b) N := by
 unfold ordPart
 by_cases e : N ≤ bnd a b
 ·exact sq_stays _ N h _ e
 ·exact (sq_tail _ (bnd a b) (fun i hi => cp_bnd a b i hi) N (by omega)).symm
def cr (dg : Bool) (x : Run2) : Int := if dg = true then ordNum x.1.1 x.1.2 else ordWord x.1.1 x.1.2
def clStep (s : Int × Bool) (x : Run2) : Int × Bool := (if s.1 = 0 then cr s.2 x else s.1, !s.2)
def cl (xs : List Run2) : Int × Bool := xs.foldl clStep (0, false)
theorem cl_snoc (pre : List Run2) (x : Run2) : cl (pre ++ [x]) = clStep (cl pre) x := by
 unfold cl; rw [List.foldl_append]; rfl
theorem cl_upto (a b : ByteArray) (ha : a.size ≤ maxLen) (hb : b.size ≤ maxLen) : ∀ N, cl (upto a b ha hb N) = (sq (cp a b) N, odd N)
 | 0 => rfl
 | N + 1 => by
   rw [upto_succ, cl_snoc, cl_upto a b ha hb N]
   rfl
end
section
open Go.RowKit Go.Shelf
attribute [local go_sem] Oper.semAt_some
theorem wide_fn (f : FuncId) : Fence.wide.fn f = True := rfl
attribute [local simp] wide_fn
attribute [local go_sem] wide_fn
theorem grown_drewN (w : World) (n : Nat) (row : Option Nat) : w.grownBy (w.drewN n) row := ⟨rfl, rfl, rfl, Nat.le_refl _, fun _ _ _ => rfl⟩
def Kc (Ba Bb : Nat) (W W' : World) : Prop := W'.heap[Ba]? = W.heap[Ba]? ∧ W'.heap[Bb]? = W.heap[Bb]?
def bOf : Value → Nat
 | .bool true => 0
 | _ => 1
theorem meas_dec (a b : ByteArray) (N : Nat) (h : ia a N < a.size ∨ ia b N < b.size) :
 2 * (a.size - (intOf (.int .i64 (ia a (N + 1)))).toNat) + 2 * (b.size - (intOf (.int .i64 (ia b (N + 1)))).toNat) + bOf (.bool (odd (N + 1))) <
 2 * (a.size - (intOf (.int .i64 (ia a N))).toNat) + 2 * (b.size - (intOf (.int .i64 (ia b N))).toNat) + bOf (.bool (odd N)) := by
 have a1 := ia_mono a N
 have b1 := ia_mono b N
 have a2 := ia_le a (N + 1)
 have b2 := ia_le b (N + 1)
 have a3 := ia_le a N
 have b3 := ia_le b N
 simp only [intOf, Int.toNat_natCast]
 cases ho : odd N
 ·have e1 : odd (N + 1) = true := by show (!odd N) = true; rw [ho]; rfl
  rw [e1]
  show _ + 0 < _ + 1
  omega
 ·have e1 : odd (N + 1) = false := by show (!odd N) = false; rw [ho]; rfl
  rw [e1]
  show _ + 1 < _ + 0
  rcases h with h | h
  ·have := ia_odd a N ho h
   omega
  ·have := ia_odd b N ho h
   omega
abbrev encR (x : Run2) : Array Value := #[.string x.1.1, .string x.1.2]
set_option maxHeartbeats 1000000 in
theorem runs_in (a b : ByteArray) (n : Nat) (w : World) :
 CallsIn Fence.wide n Tryz.prog 157 #[.string a, .string b] w fun e w' => e = .returned (.func (.func 167) #[] #[.pointer (some ⟨w.heap.size, 0, none⟩), .pointer (some ⟨w.heap.size + 1, 0, none⟩)]) ∧ w' = (w.alloc (.cells #[.string a] 9)).alloc (.cells #[.string b] 9) := by
 refine callsIn_of_wp Tryz.func157 rfl trivial ?_ rfl
 simp only [Tryz.ntmps157, List.size_toArray, List.length_cons, List.length_nil, Nat.reduceAdd, Nat.reduceSub, Array.replicate_succ, Array.replicate_zero, List.push_toArray, List.append_toArray, List.nil_append, List.cons_append]
 gi_wp2
 go_ret
 exact ⟨rfl, rfl⟩
set_option maxRecDepth 100000 in
set_option maxHeartbeats 2000000 in
theorem runs1_in (a b : ByteArray) (ha : a.size ≤ maxLen) (hb : b.size ≤ maxLen) (n : Nat) (hn : 1 ≤ n) (l Ba Bb : Nat) (J Jx : List Run2 → World → Prop)
 (hJd : ∀ s W m, J s W → J s (W.drewN m))
 (hY : ∀ pre x W, J pre W → pre.length < 2 * (a.size + b.size) + 1 → YieldAt Fence.wide (n - 1) Tryz.prog l (encR x) W fun e W' =>
  (e = .returned (.bool true) ∧ J (pre ++ [x]) W' ∧ Kc Ba Bb W W') ∨ (e = .returned (.bool false) ∧ Jx (pre ++ [x]) W'))
 (W : World) (hA : W.cell? ⟨Ba, 0, none⟩ = some (.string a)) (hB : W.cell? ⟨Bb, 0, none⟩ = some (.string b)) (h0 : J [] W) :
 CallsIn Fence.wide n Tryz.prog 167 #[.func (.yield l) #[] #[], .pointer (some ⟨Ba, 0, none⟩), .pointer (some ⟨Bb, 0, none⟩)] W fun e W' => (∃ v, e = .returned v) ∧
  ((∃ xs, (∃ N, xs = upto a b ha hb N ∧ ia a N = a.size ∧ ia b N = b.size) ∧ J xs W') ∨ (∃ pre, (∃ N, pre = upto a b ha hb N) ∧ Jx pre W')) := by
 have ha' := ha
 have hb' := hb
 unfold maxLen at ha' hb'
 have cE := hide (fun (s : ByteArray) (hs : s.size ≤ maxLen) (i : Nat) (dg : Bool) (w : World) (hi : i ≤ s.size) => runEnd_any s hs i dg w hi)
 refine callsIn_of_wp Tryz.func167 rfl trivial ?_ rfl
 simp only [Tryz.ntmps167, List.size_toArray, List.length_cons, List.length_nil, Nat.reduceAdd, Nat.reduceSub, Array.replicate_succ, Array.replicate_zero, List.push_toArray, List.append_toArray, List.nil_append, List.cons_append]
 gi_wp2
 gi_loopw [4, 5, 6, 7, 8] (fun dv iv kv _ _ wr => ∃ N : Nat, dv = .bool (odd N) ∧ iv = .int .i64 (ia a N) ∧ kv = .int .i64 (ia b N) ∧ wr.cell? ⟨Ba, 0, none⟩ = some (.string a) ∧ wr.cell? ⟨Bb, 0, none⟩ = some (.string b) ∧ J (upto a b ha hb N) wr)
  (fun dv iv kv _ _ _ => 2 * (a.size - (intOf iv).toNat) + 2 * (b.size - (intOf kv).toNat) + bOf dv)
 case atStart => exact ⟨0, rfl, rfl, rfl, hA, hB, h0⟩
 case round =>
  obtain ⟨N, rfl, rfl, rfl, hA1, hB1, hJ1⟩ := hrel
  have ja := ia_le a N
  have jb := ia_le b N
  by_cases hlt : ia a N < a.size ∨ ia b N < b.size
  ·have e1 := endAt_le a _ (odd N) ja
   have e2 := endAt_le b _ (odd N) jb
   have g1 := endAt_ge a (ia a N) (odd N)
   have g2 := endAt_ge b (ia b N) (odd N)
   have hN : N < 2 * (a.size + b.size) + 1 := by
    rcases hlt with h | h
    ·have : ¬ 2 * a.size ≤ N := fun h' => by have := ia_done a N h'; omega
     omega
    ·have : ¬ 2 * b.size ≤ N := fun h' => by have := ia_done b N h'; omega
     omega
   have hYN : ∀ m, YieldAt Fence.wide (n - 1) Tryz.prog l #[.string (a.extract (ia a N) (endAt a (ia a N) (odd N))), .string (b.extract (ia b N) (endAt b (ia b N) (odd N)))] (wr.drewN m) fun e W' =>
    ∃ bb : Bool, e = .returned (.bool bb) ∧ Hid ((bb = true ∧ J (upto a b ha hb (N + 1)) W' ∧ Kc Ba Bb wr W') ∨ (bb = false ∧ Jx (upto a b ha hb (N + 1)) W')) := by
    intro m
    obtain ⟨fn, tmps, assign, body, hy, hR⟩ := hY (upto a b ha hb N) (pairOf a b ha hb N) (wr.drewN m) (hJd _ _ _ hJ1) (by rw [upto_length]; exact hN)
    refine ⟨fn, tmps, assign, body, hy, hR.mono ?_⟩
    rintro e W' (⟨rfl, h1, h2⟩ | ⟨rfl, h1⟩)
    ·exact ⟨true, rfl, hide (.inl ⟨rfl, by rw [upto_succ]; exact h1, h2⟩)⟩
    ·exact ⟨false, rfl, hide (.inr ⟨rfl, by rw [upto_succ]; exact h1⟩)⟩
   have HY := hide hYN
   have HJ := hide hJ1
   clear hYN hY hJ1 hN hJd
   by_cases h1 : ia a N < a.size
   ·have HLT := hide hlt
    clear hlt
    gi_wp2
    gi_quiet ((gi_at_call 168; refine CallsIn.quiet_of_same (callsIn_wide.2 (runEnd_any _ (by assumption) _ _ _ (by omega)))))
    gi_wp2
    obtain ⟨fn, tmps, assign, body, hy, hR⟩ := unhide HY (nq + 1)
    have HR := hide hR
    clear hR HY
    gi_region_with (refine (unhide HR).mono ?_; rintro e W3 ⟨bb, rfl, hq⟩)
    all_goals
     rcases unhide hq with ⟨rfl, hJ3, hk3⟩ | ⟨rfl, hJx3⟩
     ·have hA3 := (World.cell?_of_block (w := wr) (w' := W3) (a := ⟨Ba, 0, none⟩) hk3.1).trans hA1
      have hB3 := (World.cell?_of_block (w := wr) (w' := W3) (a := ⟨Bb, 0, none⟩) hk3.2).trans hB1
      have HJ3 := hide hJ3
      have hk3' := hide hk3
      clear hJ3 hk3 hq HR
      gi_wp2
      go_roundw
      case rel => exact ⟨N + 1, rfl, rfl, rfl, hA3, hB3, unhide HJ3⟩
      case measure => exact meas_dec a b N (unhide HLT)
     ·have HJx := hide hJx3
      clear hJx3 hq HR
      gi_wp2
      refine bodyPost_ret (results_none rfl _ _ _) rfl ?_
      exact ⟨⟨_, rfl⟩, .inr ⟨_, ⟨N + 1, rfl⟩, unhide HJx⟩⟩
   ·have HLT := hide hlt
    have h2 : ia b N < b.size := by omega
    clear hlt
    gi_wp2
    gi_quiet ((gi_at_call 168; refine CallsIn.quiet_of_same (callsIn_wide.2 (runEnd_any _ (by assumption) _ _ _ (by omega)))))
    gi_wp2
    obtain ⟨fn, tmps, assign, body, hy, hR⟩ := unhide HY (nq + 1)
    have HR := hide hR
    clear hR HY
    gi_region_with (refine (unhide HR).mono ?_; rintro e W3 ⟨bb, rfl, hq⟩)
    all_goals
     rcases unhide hq with ⟨rfl, hJ3, hk3⟩ | ⟨rfl, hJx3⟩
     ·have hA3 := (World.cell?_of_block (w := wr) (w' := W3) (a := ⟨Ba, 0, none⟩) hk3.1).trans hA1
      have hB3 := (World.cell?_of_block (w := wr) (w' := W3) (a := ⟨Bb, 0, none⟩) hk3.2).trans hB1
      have HJ3 := hide hJ3
      have hk3' := hide hk3
      clear hJ3 hk3 hq HR
      gi_wp2
      go_roundw
      case rel => exact ⟨N + 1, rfl, rfl, rfl, hA3, hB3, unhide HJ3⟩
      case measure => exact meas_dec a b N (unhide HLT)
     ·have HJx := hide hJx3
      clear hJx3 hq HR
      gi_wp2
      refine bodyPost_ret (results_none rfl _ _ _) rfl ?_
      exact ⟨⟨_, rfl⟩, .inr ⟨_, ⟨N + 1, rfl⟩, unhide HJx⟩⟩
  ·have h1 : a.size ≤ ia a N := by omega
   have h2 : b.size ≤ ia b N := by omega
   have HJ := hide hJ1
   clear hJ1
   gi_wp2
   go_end0
   exact ⟨⟨_, rfl⟩, .inl ⟨_, ⟨N, rfl, by omega, by omega⟩, unhide HJ⟩⟩
theorem runs_stops (a b : ByteArray) (ha : a.size ≤ maxLen) (hb : b.size ≤ maxLen) (n : Nat) (hn : 1 ≤ n) (Ba Bb : Nat) (w : World) (hBa : Ba < w.heap.size) (hBb : Bb < w.heap.size)
 (hA : w.cell? ⟨Ba, 0, none⟩ = some (.string a)) (hB : w.cell? ⟨Bb, 0, none⟩ = some (.string b)) :
 SeqStopsK Fence.wide n Tryz.prog 167 #[.pointer (some ⟨Ba, 0, none⟩), .pointer (some ⟨Bb, 0, none⟩)] encR (Kc Ba Bb) (fun xs => ∃ N, xs = upto a b ha hb N ∧ ia a N = a.size ∧ ia b N = b.size) (fun pre => ∃ N, pre = upto a b ha hb N) (2 * (a.size + b.size) + 1) w := fun l J Jx W hW hJ _ hY h0 =>
 runs1_in a b ha hb n hn l Ba Bb J Jx (fun s W1 m hs => hJ s W1 (W1.drewN m) none hs (grown_drewN W1 m none) (fun r e => by cases e)) hY W ((hW.cell (p := ⟨Ba, 0, none⟩) hBa).trans hA) ((hW.cell (p := ⟨Bb, 0, none⟩) hBb).trans hB) h0
end
end Go.Proofs.YtdkpglmdncjnbaaGreatDoor
