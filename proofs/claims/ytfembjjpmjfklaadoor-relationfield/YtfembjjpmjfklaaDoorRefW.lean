import Derived.Test.YtfembjjpmjfklaaDoorRefT
namespace Go.Proofs.YtfembjjpmjfklaaDoor
open Go.RowKit

def opR (s : ByteArray) : Int := if (opOf s).2 = true then (opOf s).1 else -1
theorem neq_of {s : ByteArray} {l : List UInt8} (h : ¬ s = ⟨l.toArray⟩) : (s.toList == l) = false := by
  rw [beq_eq_false_iff_ne]
  intro e
  rw [Lib.toList_data] at e
  apply h
  apply ByteArray.ext
  apply Array.ext'
  exact e

set_option maxHeartbeats 2000000 in
theorem roperator_any (s : ByteArray) (w : World) :
    Calls Tryd.prog 90 #[.string s] w fun e w' => e = .returned (.int .i64 (opR s)) ∧ w' = w := by
  by_cases h1 : s = ⟨#[60, 60]⟩
  · subst h1
    go_enter Tryd.func90, Tryd.ntmps90
    go_wp2_with fail
    go_ret
    exact ⟨rfl, rfl⟩
  by_cases h2 : s = ⟨#[60, 61]⟩
  · subst h2
    go_enter Tryd.func90, Tryd.ntmps90
    go_wp2_with fail
    go_ret
    exact ⟨rfl, rfl⟩
  by_cases h3 : s = ⟨#[61]⟩
  · subst h3
    go_enter Tryd.func90, Tryd.ntmps90
    go_wp2_with fail
    go_ret
    exact ⟨rfl, rfl⟩
  by_cases h4 : s = ⟨#[62, 61]⟩
  · subst h4
    go_enter Tryd.func90, Tryd.ntmps90
    go_wp2_with fail
    go_ret
    exact ⟨rfl, rfl⟩
  by_cases h5 : s = ⟨#[62, 62]⟩
  · subst h5
    go_enter Tryd.func90, Tryd.ntmps90
    go_wp2_with fail
    go_ret
    exact ⟨rfl, rfl⟩
  have HF := hide (show opR s = -1 by
    unfold opR
    rw [opOf_no s (fun j hj hj' => by
      match j, hj, hj' with
      | 1, _, _ => exact fun e => h1 e.symm
      | 2, _, _ => exact fun e => h2 e.symm
      | 3, _, _ => exact fun e => h3 e.symm
      | 4, _, _ => exact fun e => h4 e.symm
      | 5, _, _ => exact fun e => h5 e.symm)]
    rfl)
  have k1 : (s.toList == [60, 60]) = false := neq_of h1
  have k2 : (s.toList == [60, 61]) = false := neq_of h2
  have k3 : (s.toList == [61]) = false := neq_of h3
  have k4 : (s.toList == [62, 61]) = false := neq_of h4
  have k5 : (s.toList == [62, 62]) = false := neq_of h5
  clear h1 h2 h3 h4 h5
  go_enter Tryd.func90, Tryd.ntmps90
  go_wp2_with fail
  go_ret
  exact ⟨ret_i64 (unhide HF).symm, rfl⟩

/-- WHAT STANDS WITHIN THE BRACKETS, READ (the text is trimmed). -/
def readW (t : ByteArray) : Int × ByteArray × Int :=
  if (opOf (t.extract 0 (t.size - (trimO t).size))).2 = false then (0, nob, 21) else
  if (parse (trimL (trimO t))).2 ≠ 0 then (0, nob, 22) else
  ((opOf (t.extract 0 (t.size - (trimO t).size))).1, trimL (trimO t), 0)
theorem readC_W (s : ByteArray) : readC s = if (cutB s).2 = false then (0, nob, 23) else readW (cutB s).1 := rfl

/-- THE LAST SIGN IS NO BLANK. -/
def LastOk (l : List UInt8) : Prop := ∀ a, l.getLast? = some a → blk a = false
theorem dropW_first {p : UInt8 → Bool} : ∀ (l : List UInt8) (a : UInt8), (l.dropWhile p).head? = some a → p a = false
  | [], a, h => by cases h
  | b :: l, a, h => by
    rw [List.dropWhile_cons] at h
    split at h
    · exact dropW_first l a h
    · rename_i hb
      cases h
      simpa using hb
theorem last_suffix {l m : List UInt8} (h : m <:+ l) (hl : LastOk l) : LastOk m := by
  intro a ha
  obtain ⟨u, rfl⟩ := h
  apply hl a
  rw [List.getLast?_append, ha]; rfl
theorem trimB_last (s : ByteArray) : LastOk (trimB s).data.toList := by
  show LastOk (Lib.trimS s.data.toList [32, 9, 10])
  unfold Lib.trimS
  rw [trimL_blk, trimR_blk]
  refine last_suffix (List.dropWhile_suffix _) ?_
  intro a ha
  rw [List.getLast?_reverse] at ha
  exact dropW_first _ a ha
/-- A TEXT WHOSE LAST SIGN IS NO BLANK IS TRIMMED AT ITS HEAD ALONE. -/
theorem trimB_L {s : ByteArray} (h : LastOk s.data.toList) : trimB s = trimL s := by
  unfold trimB trimL
  congr 1
  unfold Lib.trimS
  congr 1
  rw [trimR_blk, dropW_head (fun a ha => h a (by rw [List.head?_reverse] at ha; exact ha)), List.reverse_reverse]
theorem ext_from (t : ByteArray) (n : Nat) : (t.extract n t.size).data.toList = t.data.toList.drop n := by
  have h := Lib.extract_toList t n t.size
  rw [Lib.toList_data] at h
  have hl := size_list t
  rw [h, List.take_of_length_le (by rw [List.length_drop]; omega)]
theorem ext_to (t : ByteArray) (n : Nat) : (t.extract 0 n).data.toList = t.data.toList.take n := by
  have h := Lib.extract_toList t 0 n
  rw [Lib.toList_data] at h
  rw [h]; rfl
theorem ba_inj {s t : ByteArray} (h : s.data.toList = t.data.toList) : s = t := ByteArray.ext (Array.ext' h)

def opB (n : Int) : Bool := (n == 60) || (n == 61) || (n == 62)
theorem opB_in (b : UInt8) : opB (b.toNat : Int) = [60, 61, 62].contains b := by
  have e : ∀ c : UInt8, ((b.toNat : Int) == (c.toNat : Int)) = (b == c) := fun c => by
    cases h : b == c
    · rw [beq_eq_false_iff_ne] at h ⊢
      intro e
      exact h (UInt8.toNat_inj.1 (by omega))
    · rw [eq_of_beq h]; simp
  have e1 := e 60
  have e2 := e 61
  have e3 := e 62
  unfold opB
  simp only [List.contains_cons, List.contains_nil, Bool.or_false]
  rw [← e1, ← e2, ← e3]
  exact Bool.or_assoc _ _ _
theorem byte_at (t : ByteArray) (j : Nat) (b : UInt8) (h : t.data.toList[j]? = some b) : ∃ hj : j < t.size, t[j] = b := by
  obtain ⟨hj, e⟩ := List.getElem?_eq_some_iff.1 h
  exact ⟨by rw [size_list] at hj; exact hj, e⟩
theorem trimO_at (t : ByteArray) (n : Nat) (hn : n ≤ t.size) (h1 : ∀ j (hj : j < t.size), j < n → opB (t[j].toNat : Int) = true) (h2 : ∀ hj : n < t.size, opB (t[n].toNat : Int) = false) : trimO t = t.extract n t.size ∧ t.size - (trimO t).size = n := by
  have e : trimO t = t.extract n t.size := by
    apply ba_inj
    rw [ext_from]
    refine Lib.trimLeftS_drop _ _ n (by rw [size_list]; exact hn) (fun j b hj hb => ?_) (fun b hb => ?_)
    · obtain ⟨hj', rfl⟩ := byte_at t j b hb
      rw [← opB_in]; exact h1 j hj' hj
    · obtain ⟨hj', rfl⟩ := byte_at t n b hb
      rw [← opB_in]; exact h2 hj'
  refine ⟨e, ?_⟩
  rw [e, ByteArray.size_extract]
  omega

end Go.Proofs.YtfembjjpmjfklaaDoor
