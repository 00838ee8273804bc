import Derived.Test.YtmckmeoondlcpaaDoorLeaf
namespace Go.Proofs.YtmckmeoondlcpaaDoor
open Go.RowKit

theorem ret_nat {a b : Nat} (h : a = b) : Ending.returned (.int .i64 a) = .returned (.int .i64 b) := by rw [h]

/-- WHERE THE RUN THAT BEGINS AT A PLACE ENDS. -/
def endAt (s : ByteArray) (i : Nat) (dg : Bool) : Nat := i + ((s.data.toList.drop i).takeWhile (fun c => isDig (c.toNat : Int) == dg)).length

theorem drop_at (s : ByteArray) (k : Nat) (h : k < s.size) : s.data.toList.drop k = s[k] :: s.data.toList.drop (k + 1) := by
  have h' : k < s.data.toList.length := by simpa using h
  exact List.drop_eq_getElem_cons h'

theorem endAt_step (s : ByteArray) (k : Nat) (dg : Bool) (h : k < s.size) (hd : (isDig (s[k].toNat : Int) == dg) = true) : endAt s (k + 1) dg = endAt s k dg := by
  unfold endAt
  rw [drop_at s k h, List.takeWhile_cons, if_pos hd]
  simp only [List.length_cons]
  omega

theorem endAt_stop (s : ByteArray) (k : Nat) (dg : Bool) (h : k < s.size) (hd : (isDig (s[k].toNat : Int) == dg) = false) : endAt s k dg = k := by
  unfold endAt
  rw [drop_at s k h, List.takeWhile_cons, if_neg (by rw [hd]; decide)]
  rfl

theorem endAt_end (s : ByteArray) (k : Nat) (dg : Bool) (h : s.size ≤ k) : endAt s k dg = k := by
  unfold endAt
  rw [List.drop_eq_nil_of_le (by simpa using h)]
  rfl

theorem endAt_ge (s : ByteArray) (k : Nat) (dg : Bool) : k ≤ endAt s k dg := Nat.le_add_right _ _

theorem endAt_le (s : ByteArray) (k : Nat) (dg : Bool) (h : k ≤ s.size) : endAt s k dg ≤ s.size := by
  unfold endAt
  have h1 := (List.takeWhile_sublist (fun c : UInt8 => isDig (c.toNat : Int) == dg) (l := s.data.toList.drop k)).length_le
  have h2 : (s.data.toList.drop k).length = s.size - k := by simp
  omega

set_option maxHeartbeats 1000000 in
theorem runEnd_any (s : ByteArray) (hs : s.size ≤ maxLen) (i : Nat) (dg : Bool) (w : World) (hi : i ≤ s.size) :
    Calls Tryd.prog 66 #[.string s, .int .i64 i, .bool dg] w fun e w' => e = .returned (.int .i64 (endAt s i dg)) ∧ w' = w := by
  unfold maxLen at hs
  go_enter Tryd.func66, Tryd.ntmps66
  go_wp2
  go_loop [1] (fun v => ∃ k : Nat, k ≤ s.size ∧ v = .int .i64 k ∧ Hid (endAt s k dg = endAt s i dg)) (fun v => s.size - (intOf v).toNat)
  case atStart => exact ⟨i, hi, rfl, rfl⟩
  case round =>
    obtain ⟨k, hk, rfl, hz⟩ := hrel
    by_cases hlt : k < s.size
    · cases hd : (isDig (s[k].toNat : Int) == dg)
      · have HE := hide (endAt_stop s k dg hlt hd)
        go_wp2_with (go_at_call 41; refine (isDigit_any _ _).mono ?_; rintro e w' ⟨rfl, rfl⟩)
        go_ret
        exact ⟨ret_nat (by rw [← unhide hz, unhide HE]), rfl⟩
      · have HE := hide (endAt_step s k dg hlt hd)
        go_wp2_with (go_at_call 41; refine (isDigit_any _ _).mono ?_; rintro e w' ⟨rfl, rfl⟩)
        go_round
        case rel => exact ⟨k + 1, by omega, by go_num, hide ((unhide HE).trans (unhide hz))⟩
        case measure => simp [intOf]; omega
    · have HE := hide (endAt_end s k dg (by omega))
      go_wp2
      go_ret
      exact ⟨ret_nat (by rw [← unhide hz, unhide HE]), rfl⟩

/-- IS A NUMBER ODD? -/
def odd : Nat → Bool
  | 0 => false
  | n + 1 => !odd n

/-- WHERE THE RUN NUMBER n BEGINS. -/
def ia (s : ByteArray) : Nat → Nat
  | 0 => 0
  | n + 1 => endAt s (ia s n) (odd n)

theorem ia_le (s : ByteArray) : ∀ n, ia s n ≤ s.size
  | 0 => Nat.zero_le _
  | n + 1 => endAt_le s _ _ (ia_le s n)

theorem ia_mono (s : ByteArray) (n : Nat) : ia s n ≤ ia s (n + 1) := endAt_ge s _ _

theorem endAt_char (s : ByteArray) (dg : Bool) : ∀ (m i j : Nat), s.size - i ≤ m → endAt s i dg = j → ∀ h : j < s.size, (isDig (s[j].toNat : Int) == dg) = false
  | 0, i, j, hm, e, h => by
    have := endAt_end s i dg (by omega)
    omega
  | m + 1, i, j, hm, e, h => by
    by_cases hi : i < s.size
    · cases hd : (isDig (s[i].toNat : Int) == dg)
      · have e' := endAt_stop s i dg hi hd
        have : i = j := by omega
        subst this
        exact hd
      · exact endAt_char s dg m (i + 1) j (by omega) (by rw [endAt_step s i dg hi hd]; exact e) h
    · have := endAt_end s i dg (by omega)
      omega

theorem ia_odd (s : ByteArray) (n : Nat) (ho : odd n = true) (h : ia s n < s.size) : ia s n < ia s (n + 1) := by
  cases n with
  | zero => cases ho
  | succ m =>
    have hm : odd m = false := by
      have h' : (!odd m) = true := ho
      simpa using h'
    have hc := endAt_char s false (s.size - ia s m) (ia s m) (ia s (m + 1)) (Nat.le_refl _) (by show endAt s (ia s m) false = endAt s (ia s m) (odd m); rw [hm]) h
    have hd : (isDig (s[ia s (m + 1)].toNat : Int) == odd (m + 1)) = true := by
      rw [ho]
      revert hc
      cases isDig (s[ia s (m + 1)].toNat : Int) <;> decide
    have e : ia s (m + 2) = endAt s (ia s (m + 1)) (odd (m + 1)) := rfl
    rw [← endAt_step s _ _ h hd] at e
    have := endAt_ge s (ia s (m + 1) + 1) (odd (m + 1))
    show ia s (m + 1) < ia s (m + 2)
    omega

theorem ia_two (s : ByteArray) (n : Nat) (h : ia s n < s.size) : ia s n < ia s (n + 2) := by
  have h1 := ia_mono s n
  by_cases e : ia s (n + 1) = ia s n
  · cases hd : (isDig (s[ia s n].toNat : Int) == odd n)
    · have hd2 : (isDig (s[ia s n].toNat : Int) == odd (n + 1)) = true := by
        show (isDig (s[ia s n].toNat : Int) == !odd n) = true
        revert hd
        cases isDig (s[ia s n].toNat : Int) <;> cases odd n <;> decide
      have : ia s (n + 2) = endAt s (ia s n) (odd (n + 1)) := by show endAt s (ia s (n + 1)) _ = _; rw [e]
      rw [this, ← endAt_step s (ia s n) _ h hd2]
      exact Nat.lt_of_lt_of_le (Nat.lt_succ_self _) (endAt_ge s _ _)
    · have : ia s (n + 1) = endAt s (ia s n) (odd n) := rfl
      rw [← endAt_step s (ia s n) _ h hd] at this
      have := endAt_ge s (ia s n + 1) (odd n)
      omega
  · have : ia s (n + 1) ≤ ia s (n + 2) := ia_mono s (n + 1)
    omega

theorem ia_progress (s : ByteArray) : ∀ m, m ≤ s.size → m ≤ ia s (2 * m)
  | 0, _ => Nat.zero_le _
  | m + 1, h => by
    have ih := ia_progress s m (by omega)
    have h2 : ia s (2 * m) ≤ ia s (2 * m + 2) := Nat.le_trans (ia_mono s _) (ia_mono s _)
    by_cases e : ia s (2 * m) < s.size
    · have := ia_two s (2 * m) e
      show m + 1 ≤ ia s (2 * m + 2)
      omega
    · have := ia_le s (2 * m)
      show m + 1 ≤ ia s (2 * m + 2)
      omega

theorem ia_done (s : ByteArray) (n : Nat) (h : 2 * s.size ≤ n) : ia s n = s.size := by
  induction n with
  | zero =>
    have := ia_le s 0
    have h0 : s.size = 0 := by omega
    have : ia s 0 = 0 := rfl
    omega
  | succ n ih =>
    by_cases e : 2 * s.size = n + 1
    · have := ia_progress s s.size (Nat.le_refl _)
      rw [e] at this
      have := ia_le s (n + 1)
      omega
    · have h1 := ih (by omega)
      have h2 := ia_mono s n
      have h3 := ia_le s (n + 1)
      omega

/-- THE RUN NUMBER n. -/
def runOf (s : ByteArray) (n : Nat) : ByteArray := s.extract (ia s n) (ia s (n + 1))

theorem runOf_size (s : ByteArray) (n : Nat) : (runOf s n).size ≤ s.size := size_le_of_extract _ _ _

/-- A PAIR OF RUNS. -/
abbrev Run2 := { x : ByteArray × ByteArray // x.1.size ≤ maxLen ∧ x.2.size ≤ maxLen }

def pairOf (a b : ByteArray) (ha : a.size ≤ maxLen) (hb : b.size ≤ maxLen) (n : Nat) : Run2 := ⟨(runOf a n, runOf b n), Nat.le_trans (runOf_size a n) ha, Nat.le_trans (runOf_size b n) hb⟩

def upto (a b : ByteArray) (ha : a.size ≤ maxLen) (hb : b.size ≤ maxLen) (n : Nat) : List Run2 := (List.range n).map (pairOf a b ha hb)

theorem upto_succ (a b : ByteArray) (ha : a.size ≤ maxLen) (hb : b.size ≤ maxLen) (n : Nat) : upto a b ha hb (n + 1) = upto a b ha hb n ++ [pairOf a b ha hb n] := by
  unfold upto; rw [List.range_succ, List.map_append]; rfl

theorem upto_length (a b : ByteArray) (ha : a.size ≤ maxLen) (hb : b.size ≤ maxLen) (n : Nat) : (upto a b ha hb n).length = n := by
  unfold upto; simp

end Go.Proofs.YtmckmeoondlcpaaDoor
