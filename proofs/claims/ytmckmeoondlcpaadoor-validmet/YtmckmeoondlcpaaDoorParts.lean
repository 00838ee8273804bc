import Derived.Test.YtmckmeoondlcpaaDoorWords
import Derived.Test.YtmckmeoondlcpaaDoorRuns
namespace Go.Proofs.YtmckmeoondlcpaaDoor
open Go.RowKit

theorem sq_zero (c : Nat → Int) : ∀ n, sq c n = 0 ↔ ∀ i, i < n → c i = 0
  | 0 => ⟨fun _ i h => absurd h (Nat.not_lt_zero _), fun _ => rfl⟩
  | n + 1 => by
    have ih := sq_zero c n
    have e : sq c (n + 1) = if sq c n = 0 then c n else sq c n := rfl
    constructor
    · intro h i hi
      by_cases h0 : sq c n = 0
      · rw [e, if_pos h0] at h
        by_cases hin : i = n
        · rw [hin]; exact h
        · exact ih.1 h0 i (by omega)
      · rw [e, if_neg h0] at h
        exact absurd h h0
    · intro h
      have h0 : sq c n = 0 := ih.2 fun i hi => h i (by omega)
      rw [e, if_pos h0]
      exact h n (Nat.lt_succ_self _)

theorem sq_tail (c : Nat → Int) (B : Nat) (h : ∀ i, B ≤ i → c i = 0) : ∀ n, B ≤ n → sq c n = sq c B
  | 0, hn => by have : B = 0 := by omega
                rw [this]
  | n + 1, hn => by
    by_cases e : B = n + 1
    · rw [e]
    · have ih := sq_tail c B h n (by omega)
      show (if sq c n = 0 then c n else sq c n) = _
      rw [ih]
      split
      · rename_i h0; rw [h0]; exact h n (by omega)
      · rfl

theorem sq_congr (c d : Nat → Int) : ∀ n, (∀ i, i < n → c i = d i) → sq c n = sq d n
  | 0, _ => rfl
  | n + 1, h => by
    show (if sq c n = 0 then c n else sq c n) = if sq d n = 0 then d n else sq d n
    rw [sq_congr c d n fun i hi => h i (by omega), h n (Nat.lt_succ_self _)]

/-- THE COMPARISON OF THE RUNS NUMBER n. -/
def cp (a b : ByteArray) (n : Nat) : Int := if odd n = true then ordNum (runOf a n) (runOf b n) else ordWord (runOf a n) (runOf b n)
def bnd (a b : ByteArray) : Nat := 2 * (a.size + b.size)
def ordPart (a b : ByteArray) : Int := sq (cp a b) (bnd a b)

theorem runOf_end (a : ByteArray) (n : Nat) (h : ia a n = a.size) : (runOf a n).size = 0 := by
  unfold runOf
  rw [ByteArray.size_extract, h]
  omega

theorem ba_empty {s : ByteArray} (h : s.size = 0) : s = nob := by
  have : s.data.toList = [] := List.eq_nil_of_length_eq_zero (by simpa using h)
  apply ByteArray.ext
  apply Array.ext'
  rw [this]; rfl

theorem bytesLess_irrefl : ∀ l : List UInt8, Op.bytesLess l l = false
  | [] => rfl
  | a :: l => by simp [Op.bytesLess, bytesLess_irrefl l]
theorem ci_refl (x : Int) : ci x x = 0 := by unfold ci; rw [if_neg (Int.lt_irrefl x), if_neg (Int.lt_irrefl x)]
theorem cs_refl (x : ByteArray) : cs x x = 0 := by unfold cs; rw [bytesLess_irrefl]; simp
theorem ordNum_refl (x : ByteArray) : ordNum x x = 0 := by unfold ordNum; rw [ci_refl, if_pos rfl, cs_refl]
theorem ordWord_refl (x : ByteArray) : ordWord x x = 0 := by unfold ordWord; rw [sq_zero]; intro i _; exact ci_refl _

theorem cp_end (a b : ByteArray) (n : Nat) (ha : ia a n = a.size) (hb : ia b n = b.size) : cp a b n = 0 := by
  unfold cp
  rw [ba_empty (runOf_end a n ha), ba_empty (runOf_end b n hb)]
  split
  · exact ordNum_refl _
  · exact ordWord_refl _

theorem ia_stays (s : ByteArray) (N : Nat) (h : ia s N = s.size) : ∀ n, N ≤ n → ia s n = s.size
  | 0, hn => by have : N = 0 := by omega
                rw [← this]; exact h
  | n + 1, hn => by
    by_cases e : N = n + 1
    · rw [← e]; exact h
    · have := ia_stays s N h n (by omega)
      have h1 := ia_mono s n
      have h2 := ia_le s (n + 1)
      omega

theorem cp_bnd (a b : ByteArray) (n : Nat) (h : bnd a b ≤ n) : cp a b n = 0 := by
  unfold bnd at h
  exact cp_end a b n (ia_done a n (by omega)) (ia_done b n (by omega))

theorem ordPart_done (a b : ByteArray) (N : Nat) (ha : ia a N = a.size) (hb : ia b N = b.size) (h : sq (cp a b) N = 0) : ordPart a b = 0 := by
  unfold ordPart
  rw [sq_zero]
  intro i _
  by_cases e : i < N
  · exact (sq_zero _ N).1 h i e
  · exact cp_end a b i (ia_stays a N ha i (by omega)) (ia_stays b N hb i (by omega))

theorem ordPart_stop (a b : ByteArray) (N : Nat) (h : sq (cp a b) N ≠ 0) : ordPart a b = sq (cp a b) N := by
  unfold ordPart
  by_cases e : N ≤ bnd a b
  · exact sq_stays _ N h _ e
  · exact (sq_tail _ (bnd a b) (fun i hi => cp_bnd a b i hi) N (by omega)).symm

def cr (dg : Bool) (x : Run2) : Int := if dg = true then ordNum x.1.1 x.1.2 else ordWord x.1.1 x.1.2
def clStep (s : Int × Bool) (x : Run2) : Int × Bool := (if s.1 = 0 then cr s.2 x else s.1, !s.2)
def cl (xs : List Run2) : Int × Bool := xs.foldl clStep (0, false)

theorem cl_snoc (pre : List Run2) (x : Run2) : cl (pre ++ [x]) = clStep (cl pre) x := by
  unfold cl; rw [List.foldl_append]; rfl

theorem cl_upto (a b : ByteArray) (ha : a.size ≤ maxLen) (hb : b.size ≤ maxLen) : ∀ N, cl (upto a b ha hb N) = (sq (cp a b) N, odd N)
  | 0 => rfl
  | N + 1 => by
    rw [upto_succ, cl_snoc, cl_upto a b ha hb N]
    rfl

end Go.Proofs.YtmckmeoondlcpaaDoor
