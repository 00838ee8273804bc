import Derived.Test.YtfembjjpmjfklaaGreatDoorPre
import Derived.Test.YtfembjjpmjfklaaGreatDoorRef
namespace Go.Proofs.YtfembjjpmjfklaaGreatDoor
open Go.RowKit

/-- ref's rank: of the byte at a place of a part, or 1 at its end and at a digit. -/
def rrk (s : ByteArray) (i : Nat) : Int := if h : i < s.size then (if isDig (s[i].toNat : Int) = true then 1 else rk (s[i].toNat : Int)) else 1

/-- BEHIND THE NOUGHTS. -/
def zAt (s : ByteArray) (i : Nat) : Nat := i + ((s.data.toList.drop i).takeWhile (fun c => c == 48)).length

theorem zAt_step (s : ByteArray) (k : Nat) (h : k < s.size) (hd : ((s[k].toNat : Int) == 48) = true) : zAt s (k + 1) = zAt s k := by
  unfold zAt
  have hx : (s[k] == 48) = true := by
    have := beq_iff_eq.1 hd
    rw [beq_iff_eq]
    apply UInt8.toNat_inj.1
    show s[k].toNat = 48
    omega
  rw [drop_at s k h, List.takeWhile_cons, if_pos hx]
  simp only [List.length_cons]
  omega
theorem zAt_stop (s : ByteArray) (k : Nat) (h : k < s.size) (hd : ((s[k].toNat : Int) == 48) = false) : zAt s k = k := by
  unfold zAt
  have hx : ¬ (s[k] == 48) = true := by
    intro e
    rw [beq_iff_eq] at e
    rw [e] at hd
    exact absurd hd (by decide)
  rw [drop_at s k h, List.takeWhile_cons, if_neg hx]
  rfl
theorem zAt_end (s : ByteArray) (k : Nat) (h : s.size ≤ k) : zAt s k = k := by
  unfold zAt
  rw [List.drop_eq_nil_of_le (by simpa using h)]
  rfl

theorem dig_48 : isDig 48 = true := rfl

theorem takeWhile_two (l : List UInt8) : (l.takeWhile (fun c => isDig (c.toNat : Int) == true)).takeWhile (fun c => c == 48) = l.takeWhile (fun c => c == 48) := by
  induction l with
  | nil => rfl
  | cons a l ih =>
    by_cases h : a = 48
    · subst h
      rw [List.takeWhile_cons, if_pos (by decide), List.takeWhile_cons, if_pos (by decide), List.takeWhile_cons, if_pos (by decide), ih]
    · have h2 : ¬ (a == 48) = true := by simpa using h
      rw [List.takeWhile_cons]
      split
      · rw [List.takeWhile_cons, if_neg h2, List.takeWhile_cons, if_neg h2]
      · rw [List.takeWhile_cons, if_neg h2]; rfl

theorem dropWhile_eq {α : Type} (p : α → Bool) : ∀ l : List α, l.dropWhile p = l.drop (l.takeWhile p).length
  | [] => rfl
  | a :: l => by
    cases h : p a
    · rw [List.dropWhile_cons, List.takeWhile_cons, h]; rfl
    · rw [List.dropWhile_cons, List.takeWhile_cons, h]
      simp only [if_true, List.length_cons, List.drop_succ_cons]
      exact dropWhile_eq p l

theorem take_takeWhile {α : Type} (p : α → Bool) : ∀ l : List α, l.take (l.takeWhile p).length = l.takeWhile p
  | [] => rfl
  | a :: l => by
    cases h : p a
    · rw [List.takeWhile_cons, h]; rfl
    · rw [List.takeWhile_cons, h]
      simp only [if_true, List.length_cons, List.take_succ_cons]
      rw [take_takeWhile p l]

theorem toList_ext (s : ByteArray) (a b : Nat) : (s.extract a b).data.toList = (s.data.toList.drop a).take (b - a) := by
  rw [ByteArray.data_extract, Array.toList_extract]

/-- WHAT ref.run CUTS OUT IS THE RUN WITHOUT ITS NOUGHTS. -/
theorem strip_run (s : ByteArray) (i : Nat) : s.extract (zAt s i) (endAt s i true) = stripB (s.extract i (endAt s i true)) := by
  refine eq_stripB ?_
  unfold trim
  rw [toList_ext, toList_ext, dropWhile_eq]
  have e1 : endAt s i true - i = ((s.data.toList.drop i).takeWhile (fun c => isDig (c.toNat : Int) == true)).length := by unfold endAt; omega
  have e2 : endAt s i true - zAt s i = ((s.data.toList.drop i).takeWhile (fun c => isDig (c.toNat : Int) == true)).length - ((s.data.toList.drop i).takeWhile (fun c => c == 48)).length := by unfold endAt zAt; omega
  rw [e1, e2, take_takeWhile, takeWhile_two]
  unfold zAt
  rw [← List.drop_drop, ← take_takeWhile (fun c => isDig (c.toNat : Int) == true) (s.data.toList.drop i)]
  rw [List.drop_take, take_takeWhile]

theorem zAt_le (s : ByteArray) (i : Nat) : zAt s i ≤ endAt s i true := by
  have h := takeWhile_two (s.data.toList.drop i)
  have h2 := (List.takeWhile_sublist (fun c : UInt8 => c == 48) (l := (s.data.toList.drop i).takeWhile (fun c => isDig (c.toNat : Int) == true))).length_le
  rw [h] at h2
  unfold zAt endAt
  omega

theorem endAt_zAt (s : ByteArray) : ∀ (m i : Nat), s.size - i ≤ m → endAt s (zAt s i) true = endAt s i true
  | 0, i, hm => by rw [zAt_end s i (by omega)]
  | m + 1, i, hm => by
    by_cases h : i < s.size
    · cases hd : ((s[i].toNat : Int) == 48)
      · rw [zAt_stop s i h hd]
      · have h2 : (isDig (s[i].toNat : Int) == true) = true := by
          have := beq_iff_eq.1 hd
          rw [this]; decide
        rw [← zAt_step s i h hd, endAt_zAt s m (i + 1) (by omega), endAt_step s i true h h2]
    · rw [zAt_end s i (by omega)]

theorem ret_two {a b c d : Nat} (h : a = b) (k : c = d) : Ending.returned (.tuple #[.int .i64 a, .int .i64 c]) = .returned (.tuple #[.int .i64 b, .int .i64 d]) := by rw [h, k]

end Go.Proofs.YtfembjjpmjfklaaGreatDoor
