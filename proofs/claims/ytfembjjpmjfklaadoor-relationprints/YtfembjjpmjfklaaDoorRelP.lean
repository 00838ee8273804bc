import Derived.Test.YtfembjjpmjfklaaDoorChkAt
import Derived.Lib.SlTrimSet
import Derived.Lib.IndexAny
import Derived.Lib.Strings
import Derived.Lib.Split
import Derived.Lib.Join
namespace Go.Proofs.YtfembjjpmjfklaaDoor
open Go.RowKit

/-- (On this seat nothing is asked of a text's bytes.) -/
def asc (_ : ByteArray) : Prop := True
def ascR (s : ByteArray) : Prop := ∀ (j : Nat) b, s.data.toList[j]? = some b → b.toNat < 128
theorem ascR_of_mem {s : ByteArray} (h : ∀ b ∈ s.data.toList, b.toNat < 128) : ascR s := fun _ _ hb => h _ (List.mem_of_getElem? hb)
theorem asc_of_mem {s : ByteArray} (_ : ∀ b ∈ s.data.toList, b.toNat < 128) : asc s := trivial
theorem asc_sub {s t : ByteArray} (_ : asc s) (_ : ∀ b ∈ t.data.toList, b ∈ s.data.toList) : asc t := trivial

theorem dropWhile_sub {α : Type} (p : α → Bool) (l : List α) : ∀ b ∈ l.dropWhile p, b ∈ l := fun _ hb => (List.dropWhile_suffix p).subset hb
theorem trimLeftS_sub (l cs : List UInt8) : ∀ b ∈ Lib.trimLeftS l cs, b ∈ l := fun b hb => dropWhile_sub _ l b hb
theorem trimRightS_sub (l cs : List UInt8) : ∀ b ∈ Lib.trimRightS l cs, b ∈ l := fun b hb => by
  unfold Lib.trimRightS at hb
  exact List.mem_reverse.1 (dropWhile_sub _ _ b (List.mem_reverse.1 hb))
theorem trimS_sub (l cs : List UInt8) : ∀ b ∈ Lib.trimS l cs, b ∈ l := fun b hb => trimRightS_sub l cs b (trimLeftS_sub _ cs b hb)
theorem dropWhile_le {α : Type} (p : α → Bool) (l : List α) : (l.dropWhile p).length ≤ l.length := (List.dropWhile_suffix p).length_le
theorem trimLeftS_le (l cs : List UInt8) : (Lib.trimLeftS l cs).length ≤ l.length := dropWhile_le _ l
theorem trimRightS_le (l cs : List UInt8) : (Lib.trimRightS l cs).length ≤ l.length := by
  unfold Lib.trimRightS
  have := dropWhile_le (cs.contains ·) l.reverse
  simpa using this
theorem trimS_le (l cs : List UInt8) : (Lib.trimS l cs).length ≤ l.length := Nat.le_trans (trimLeftS_le _ cs) (trimRightS_le l cs)

def ba (l : List UInt8) : ByteArray := ⟨l.toArray⟩
theorem ba_size (l : List UInt8) : (ba l).size = l.length := by simp [ba, ByteArray.size]
theorem ba_list (l : List UInt8) : (ba l).data.toList = l := rfl
theorem size_list (s : ByteArray) : s.data.toList.length = s.size := by simp

def trimB (s : ByteArray) : ByteArray := ba (Lib.trimS s.data.toList [32, 9, 10])
def trimL (s : ByteArray) : ByteArray := ba (Lib.trimLeftS s.data.toList [32, 9, 10])
def trimO (s : ByteArray) : ByteArray := ba (Lib.trimLeftS s.data.toList [60, 61, 62])
def idxN (s : ByteArray) : Int := Lib.indexAny s.data.toList [32, 9, 10, 40]

theorem trimB_size (s : ByteArray) : (trimB s).size ≤ s.size := by
  have := trimS_le s.data.toList [32, 9, 10]
  rw [size_list] at this
  unfold trimB
  rw [ba_size]
  exact this
theorem trimL_size (s : ByteArray) : (trimL s).size ≤ s.size := by
  have := trimLeftS_le s.data.toList [32, 9, 10]
  rw [size_list] at this
  unfold trimL
  rw [ba_size]
  exact this
theorem trimO_size (s : ByteArray) : (trimO s).size ≤ s.size := by
  have := trimLeftS_le s.data.toList [60, 61, 62]
  rw [size_list] at this
  unfold trimO
  rw [ba_size]
  exact this
theorem asc_trimB {s : ByteArray} (h : asc s) : asc (trimB s) := asc_sub h (trimS_sub _ _)
theorem asc_trimL {s : ByteArray} (h : asc s) : asc (trimL s) := asc_sub h (trimLeftS_sub _ _)
theorem asc_trimO {s : ByteArray} (h : asc s) : asc (trimO s) := asc_sub h (trimLeftS_sub _ _)
theorem extract_sub (s : ByteArray) (a b : Nat) : ∀ x ∈ (s.extract a b).data.toList, x ∈ s.data.toList := fun x hx => by
  have h := Lib.extract_toList s a b
  rw [Lib.toList_data] at h
  rw [h] at hx
  exact List.mem_of_mem_drop (List.mem_of_mem_take hx)
theorem asc_extract {s : ByteArray} (h : asc s) (a b : Nat) : asc (s.extract a b) := asc_sub h (extract_sub s a b)

theorem indexAny_lt (cs : List UInt8) : ∀ l : List UInt8, Lib.indexAny l cs < l.length
  | [] => by simp [Lib.indexAny]
  | b :: l => by
    have ih := indexAny_lt cs l
    unfold Lib.indexAny
    split
    · simp only [List.length_cons]; omega
    · split
      · simp only [List.length_cons]; omega
      · simp only [List.length_cons]; omega
theorem idxN_lt (s : ByteArray) : idxN s < s.size := by
  have := indexAny_lt [32, 9, 10, 40] s.data.toList
  rw [size_list] at this
  exact this

/-- AN ATOM'S TEXT CUT: its name, what follows. -/
def cutN (s : ByteArray) : ByteArray × ByteArray := if idxN s < 0 then (s, nob) else (s.extract 0 (idxN s).toNat, trimL (s.extract (idxN s).toNat s.size))
theorem cutN_size (s : ByteArray) : (cutN s).1.size ≤ s.size ∧ (cutN s).2.size ≤ s.size := by
  unfold cutN
  split
  · exact ⟨Nat.le_refl _, Nat.zero_le _⟩
  · exact ⟨size_le_of_extract _ _ _, Nat.le_trans (trimL_size _) (size_le_of_extract _ _ _)⟩
theorem asc_nob : asc nob := trivial
theorem cutN_asc {s : ByteArray} (h : asc s) : asc (cutN s).1 ∧ asc (cutN s).2 := by
  unfold cutN
  split
  · exact ⟨h, asc_nob⟩
  · exact ⟨asc_extract h _ _, asc_trimL (asc_extract h _ _)⟩

def preP (s : ByteArray) : ByteArray := ba (Lib.trimPrefix s.data.toList [40])
def sufP (s : ByteArray) : ByteArray := ba (Lib.trimSuffix s.data.toList [41])
def hasP (s : ByteArray) : Bool := Lib.hasPrefix s.data.toList [40]
def hasS (s : ByteArray) : Bool := Lib.hasSuffix s.data.toList [41]
def anyP (s : ByteArray) : Bool := Lib.containsAny s.data.toList [40, 41]
theorem preP_size (s : ByteArray) : (preP s).size ≤ s.size := by
  unfold preP
  rw [ba_size]
  unfold Lib.trimPrefix
  have := size_list s
  split
  · simp
  · omega
theorem sufP_size (s : ByteArray) : (sufP s).size ≤ s.size := by
  unfold sufP
  rw [ba_size]
  unfold Lib.trimSuffix
  have := size_list s
  split
  · rw [List.length_take]; omega
  · omega
theorem asc_preP {s : ByteArray} (h : asc s) : asc (preP s) := asc_sub h fun b hb => by
  have hb' : b ∈ Lib.trimPrefix s.data.toList [40] := hb
  unfold Lib.trimPrefix at hb'
  split at hb'
  · exact List.mem_of_mem_drop hb'
  · exact hb'
theorem asc_sufP {s : ByteArray} (h : asc s) : asc (sufP s) := asc_sub h fun b hb => by
  have hb' : b ∈ Lib.trimSuffix s.data.toList [41] := hb
  unfold Lib.trimSuffix at hb'
  split at hb'
  · exact List.mem_of_mem_take hb'
  · exact hb'

/-- WHAT STANDS WITHIN A TEXT'S BRACKETS. -/
def cutB (s : ByteArray) : ByteArray × Bool :=
  if hasP s = false ∨ hasS (preP s) = false ∨ anyP (sufP (preP s)) = true then (nob, false) else (trimB (sufP (preP s)), true)
theorem cutB_size (s : ByteArray) : (cutB s).1.size ≤ s.size := by
  unfold cutB
  split
  · exact Nat.zero_le _
  · exact Nat.le_trans (trimB_size _) (Nat.le_trans (sufP_size _) (preP_size _))
theorem cutB_asc {s : ByteArray} (h : asc s) : asc (cutB s).1 := by
  unfold cutB
  split
  · exact asc_nob
  · exact asc_trimB (asc_sufP (asc_preP h))

def sg : Nat → ByteArray
  | 1 => ⟨#[60, 60]⟩
  | 2 => ⟨#[60, 61]⟩
  | 3 => ⟨#[61]⟩
  | 4 => ⟨#[62, 61]⟩
  | 5 => ⟨#[62, 62]⟩
  | _ => ⟨#[]⟩
/-- WHICH OPERATOR A SIGN IS. -/
def opOf (s : ByteArray) : Int × Bool :=
  if s = sg 1 then (1, true) else if s = sg 2 then (2, true) else if s = sg 3 then (3, true) else if s = sg 4 then (4, true) else if s = sg 5 then (5, true) else (0, false)

/-- A CONSTRAINT READ: operator, version, error. -/
def readC (s : ByteArray) : Int × ByteArray × Int :=
  if (cutB s).2 = false then (0, nob, 23) else
  if (opOf ((cutB s).1.extract 0 ((cutB s).1.size - (trimO (cutB s).1).size))).2 = false then (0, nob, 21) else
  if (parse (trimL (trimO (cutB s).1))).2 ≠ 0 then (0, nob, 22) else
  ((opOf ((cutB s).1.extract 0 ((cutB s).1.size - (trimO (cutB s).1).size))).1, trimL (trimO (cutB s).1), 0)

structure Am where
  n : ByteArray
  op : Int
  v : ByteArray
def amV (a : Am) : Value := .agg #[.string a.n, .int .i64 a.op, .string a.v]
def am0 : Am := ⟨nob, 0, nob⟩

/-- AN ATOM READ. -/
def parseA (s : ByteArray) : Am × Int :=
  if 16777216 < s.size then (am0, 2) else
  if okName (cutN (trimB s)).1 = false then (am0, 20) else
  if (cutN (trimB s)).2.size = 0 then (⟨(cutN (trimB s)).1, 0, nob⟩, 0) else
  if (readC (cutN (trimB s)).2).2.2 ≠ 0 then (am0, (readC (cutN (trimB s)).2).2.2) else
  (⟨(cutN (trimB s)).1, (readC (cutN (trimB s)).2).1, (readC (cutN (trimB s)).2).2.1⟩, 0)

/-- WHAT THE PROGRAM'S OWN TABLE HOLDS, AND THAT bytealg's VARIABLE HOLDS SOME NUMBER. -/
structure Glob (w : World) : Prop where
  big : 3 < w.heap.size
  sg : ∀ i, i < 6 → w.cell? ⟨0, i, none⟩ = some (.string (sg i))
  mx : ∃ m, w.cell? ⟨1, 0, none⟩ = some (.int .i64 m)
theorem Glob.later {w w' : World} (h : Glob w) (hb : Below w.heap.size w w') : Glob w' := by
  have hbig := h.big
  refine ⟨Nat.lt_of_lt_of_le h.big hb.size, fun i hi => ?_, ?_⟩
  · exact (hb.cell (p := ⟨0, i, none⟩) (by show 0 < w.heap.size; omega)).trans (h.sg i hi)
  · obtain ⟨m, hm⟩ := h.mx
    exact ⟨m, (hb.cell (p := ⟨1, 0, none⟩) (by show 1 < w.heap.size; omega)).trans hm⟩

end Go.Proofs.YtfembjjpmjfklaaDoor
