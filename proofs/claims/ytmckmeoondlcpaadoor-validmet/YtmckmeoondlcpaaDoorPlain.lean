import Derived.Below
import Derived.Lib.Strings
import Derived.Lib.Bytealg
import Derived.Lib.LastIndexByte
namespace Go.Proofs.YtmckmeoondlcpaaDoor
open Go.RowKit
theorem hide {p : Prop} (h : p) : Hid p := h
theorem unhide {p : Prop} (h : Hid p) : p := h.out

def oi : Option Nat → Int
  | none => -1
  | some k => k

def isDig (n : Int) : Bool := decide (48 ≤ n) && decide (n ≤ 57)
def isLet (n : Int) : Bool := (decide (65 ≤ n) && decide (n ≤ 90)) || (decide (97 ≤ n) && decide (n ≤ 122))
def isRev (n : Int) : Bool := isLet n || isDig n || (n == 46) || (n == 43) || (n == 126)
def isUp (n : Int) : Bool := isRev n || (n == 45) || (n == 58)

/-- ARE ALL BYTES OF A KIND, FROM PLACE k ON? -/
def allB (p : Int → Bool) (s : ByteArray) : Bool := s.data.toList.all fun c => p c.toNat

theorem take_snoc (s : ByteArray) (k : Nat) (h : k < s.size) : s.data.toList.take (k + 1) = s.data.toList.take k ++ [s[k]] := by
  rw [List.take_succ_eq_append_getElem (by simpa using h)]; rfl

theorem allB_no (p : Int → Bool) (s : ByteArray) (k : Nat) (h : k < s.size) (hp : p (s[k].toNat : Int) = false) : allB p s = false := by
  unfold allB
  rw [List.all_eq_false]
  exact ⟨s[k], List.getElem_mem (l := s.data.toList) (n := k) (by simpa using h), by simp [hp]⟩

theorem allB_yes (p : Int → Bool) (s : ByteArray) (h : ∀ j (hj : j < s.size), p (s[j].toNat : Int) = true) : allB p s = true := by
  unfold allB
  rw [List.all_eq_true]
  intro c hc
  obtain ⟨j, hj, rfl⟩ := List.getElem_of_mem hc
  exact h j (by simpa using hj)

def kind (g : Nat) : Int → Bool := if g = 41 then isDig else if g = 42 then isUp else isRev

def b0 (u : ByteArray) : Int := (u.data.toList.headD 0).toNat
theorem b0_eq (u : ByteArray) (h : 0 < u.size) : b0 u = (u[0].toNat : Int) := by
  unfold b0
  rw [List.headD_eq_head?_getD, List.head?_eq_getElem?, List.getElem?_eq_getElem (by simpa using h)]
  rfl

/-- THE FIRST ERROR OF PARTS. -/
def chk (e u r : ByteArray) (c d : Bool) : Int :=
  if u.toList.isEmpty = true then 11
  else if (c && (e.toList.isEmpty || !allB (kind 41) e)) = true then 12
  else if (d && r.toList.isEmpty) = true then 13
  else if isDig (b0 u) = false then 14
  else if (!allB (kind 42) u || !allB (kind 43) r) = true then 15 else 0

def pre (e u : ByteArray) (c : Bool) : ByteArray := if c = true then e ++ ⟨#[58]⟩ ++ u else u
def join (e u r : ByteArray) (c d : Bool) : ByteArray := if d = true then pre e u c ++ (⟨#[45]⟩ ++ r) else pre e u c

structure Ver where
  e : ByteArray
  u : ByteArray
  r : ByteArray
  c : Bool
  d : Bool

def nob : ByteArray := ⟨#[]⟩

/-- A TEXT, CUT AT ITS FIRST COLON, WHAT FOLLOWS AT ITS LAST HYPHEN. -/
def rest (s : ByteArray) : ByteArray := if Lib.indexByte s.data.toList 58 = -1 then s else s.extract ((Lib.indexByte s.data.toList 58).toNat + 1) s.size
def cut (s : ByteArray) : Ver :=
  { e := if Lib.indexByte s.data.toList 58 = -1 then nob else s.extract 0 (Lib.indexByte s.data.toList 58).toNat
    u := if Lib.lastIndexByte (rest s) 45 = -1 then rest s else (rest s).extract 0 (Lib.lastIndexByte (rest s) 45).toNat
    r := if Lib.lastIndexByte (rest s) 45 = -1 then nob else (rest s).extract ((Lib.lastIndexByte (rest s) 45).toNat + 1) (rest s).size
    c := decide (Lib.indexByte s.data.toList 58 ≠ -1)
    d := decide (Lib.lastIndexByte (rest s) 45 ≠ -1) }

def zeroVer : Ver := { e := nob, u := nob, r := nob, c := false, d := false }

def chkV (v : Ver) : Int := chk v.e v.u v.r v.c v.d
def parse (s : ByteArray) : Ver × Int :=
  if 256 < s.size then (zeroVer, 10) else if chkV (cut s) = 0 then (cut s, 0) else (zeroVer, chkV (cut s))

theorem indexByte_spec (l : List UInt8) (c : UInt8) : (Lib.indexByte l c = -1 ∧ ∀ (j : Nat) (hj : j < l.length), l[j] ≠ c) ∨
    (∃ i : Nat, ∃ hi : i < l.length, Lib.indexByte l c = i ∧ l[i] = c ∧ ∀ (j : Nat) (hj : j < i), l[j] ≠ c) := by
  induction l with
  | nil => exact .inl ⟨rfl, fun j hj => by simp at hj⟩
  | cons b l ih =>
    unfold Lib.indexByte
    by_cases hb : b = c
    · refine .inr ⟨0, by simp, by simp [hb], by simpa using hb, fun j hj => by omega⟩
    · have hb' : (b == c) = false := by simpa using hb
      rcases ih with ⟨h1, h2⟩ | ⟨i, hi, h1, h2, h3⟩
      · refine .inl ⟨by simp [hb', h1], fun j hj => ?_⟩
        cases j with
        | zero => simpa using hb
        | succ j => simpa using h2 j (by simpa using hj)
      · refine .inr ⟨i + 1, by simpa using hi, ?_, by simpa using h2, fun j hj => ?_⟩
        · rw [hb', h1]
          have : ¬ ((i : Int) == -1) = true := by simp <;> omega
          simp only [Bool.false_eq_true, if_false]
          rw [if_neg this]
          omega
        · cases j with
          | zero => simpa using hb
          | succ j => simpa using h3 j (by omega)

theorem size_le_of_extract (s : ByteArray) (a b : Nat) : (s.extract a b).size ≤ s.size := by
  rw [ByteArray.size_extract]; omega

theorem rest_size (s : ByteArray) : (rest s).size ≤ s.size := by
  unfold rest; split
  · exact Nat.le_refl _
  · exact size_le_of_extract _ _ _

theorem cut_size (s : ByteArray) : (cut s).e.size ≤ s.size ∧ (cut s).u.size ≤ s.size ∧ (cut s).r.size ≤ s.size := by
  have hr := rest_size s
  refine ⟨?_, ?_, ?_⟩
  · show (if _ then _ else _ : ByteArray).size ≤ _
    split
    · exact Nat.zero_le _
    · exact size_le_of_extract _ _ _
  · show (if _ then _ else _ : ByteArray).size ≤ _
    split
    · exact hr
    · exact Nat.le_trans (size_le_of_extract _ _ _) hr
  · show (if _ then _ else _ : ByteArray).size ≤ _
    split
    · exact Nat.zero_le _
    · exact Nat.le_trans (size_le_of_extract _ _ _) hr

end Go.Proofs.YtmckmeoondlcpaaDoor
