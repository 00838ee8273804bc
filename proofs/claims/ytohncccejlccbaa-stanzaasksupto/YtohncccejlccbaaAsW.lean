import Derived.Test.YtohncccejlccbaaAsB
import Derived.Lib.FieldsP
import Derived.Lib.DecodeN
import Derived.Laws.RangeAny
namespace Go.Proofs.Ytohncccejlccbaa
open Go.RowKit

/-! strings.FieldsFunc at blanks (32, 9, 10), byte by byte. -/
def isB (c : UInt8) : Bool := c == 32 || c == 9 || c == 10
def bl3 (r : Nat) : Bool := r == 32 || r == 9 || r == 10
def wordsB : Bs → Bs → List Bs
  | [], cur => if cur = [] then [] else [cur]
  | c :: r, cur => if isB c = true then (if cur = [] then wordsB r [] else cur :: wordsB r []) else wordsB r (cur ++ [c])
theorem wordsB_skip : ∀ (n : Nat) (l cur : Bs), (∀ c ∈ l.take n, isB c = false) → wordsB l cur = wordsB (l.drop n) (cur ++ l.take n)
  | 0, l, cur, _ => by simp
  | n + 1, [], cur, _ => by simp
  | n + 1, c :: r, cur, h => by
    have h1 := h c (by simp)
    rw [wordsB, if_neg (by rw [h1]; decide), wordsB_skip n r (cur ++ [c]) (fun d hd => h d (by simp [hd]))]
    simp
theorem bl3_isB (c : UInt8) : bl3 c.toNat = isB c := by
  unfold bl3 isB
  have h : ∀ k : UInt8, (c.toNat == k.toNat) = (c == k) := fun k => by
    rw [Bool.eq_iff_iff, beq_iff_eq, beq_iff_eq]
    exact UInt8.toNat_inj
  rw [show (32 : Nat) = (32 : UInt8).toNat from rfl, show (9 : Nat) = (9 : UInt8).toNat from rfl, show (10 : Nat) = (10 : UInt8).toNat from rfl, h, h, h]
theorem isB_high {c : UInt8} (h : 128 ≤ c.toNat) : isB c = false := by
  rw [← bl3_isB]
  unfold bl3
  simp
  omega
theorem get_bang (s : ByteArray) (j : Nat) (hj : j < s.size) : s.get! j = s.data.toList[j]'(by simpa using hj) := by
  rw [ByteArray.get!, getElem!_pos s.data j (by simpa using hj)]
  rfl
set_option maxHeartbeats 1000000 in
theorem dec_high (s : ByteArray) (pos : Nat) (h : pos < s.size) (ha : 128 ≤ (s.get! pos).toNat) :
    128 ≤ (Utf8.decode s pos).1 ∧ 1 ≤ (Utf8.decode s pos).2 ∧ pos + (Utf8.decode s pos).2 ≤ s.size ∧ ∀ j, j < (Utf8.decode s pos).2 → 128 ≤ (s.get! (pos + j)).toNat := by
  rw [Lib.decode_at]
  generalize e1 : (s.get! (pos + 1)).toNat = b1
  generalize e2 : (s.get! (pos + 2)).toNat = b2
  generalize e3 : (s.get! (pos + 3)).toNat = b3
  have key : ∀ (r n : Nat), 128 ≤ r → 1 ≤ n → n ≤ 4 → pos + n ≤ s.size → (1 < n → 128 ≤ b1) → (2 < n → 128 ≤ b2) → (3 < n → 128 ≤ b3) → 128 ≤ (r, n).1 ∧ 1 ≤ (r, n).2 ∧ pos + (r, n).2 ≤ s.size ∧ ∀ j, j < (r, n).2 → 128 ≤ (s.get! (pos + j)).toNat := by
    intro r n h1 h2 h3 h4 k1 k2 k3
    refine ⟨h1, h2, h4, fun j hj => ?_⟩
    simp only at hj
    match j, hj with
    | 0, _ => exact ha
    | 1, hj => rw [e1]; exact k1 hj
    | 2, hj => rw [e2]; exact k2 hj
    | 3, hj => rw [e3]; exact k3 hj
    | j + 4, hj => omega
  unfold Lib.decodeN
  repeat' split
  all_goals (refine key _ _ ?_ ?_ ?_ ?_ ?_ ?_ ?_ <;> omega)
def curL (L : Bs) (st : Option Nat) (pos : Nat) : Bs := match st with | none => [] | some a => (L.drop a).take (pos - a)
def okSt (st : Option Nat) (pos : Nat) : Prop := ∀ a, st = some a → a < pos
theorem ext_list (s : ByteArray) (a b : Nat) : (s.extract a b).data.toList = (s.data.toList.drop a).take (b - a) := by
  simp [ByteArray.data_extract, Array.toList_extract, List.extract]
theorem cur_more (L : Bs) (st : Option Nat) (pos n : Nat) (h : okSt st pos) : curL L (some (st.getD pos)) (pos + n) = curL L st pos ++ (L.drop pos).take n := by
  cases st with
  | none => simp [curL]
  | some a =>
    have := h a rfl
    simp only [curL, Option.getD_some]
    rw [show pos + n - a = (pos - a) + n by omega, List.take_add, List.drop_drop, show a + (pos - a) = pos by omega]
theorem sp_step (p : Nat → Bool) (s : ByteArray) (f pos : Nat) (st : Option Nat) (acc : List (Nat × Nat)) (h : pos < s.size) : Lib.spansFromP p s (f + 1) pos st acc = if p (Utf8.decode s pos).1 = true then Lib.spansFromP p s f (pos + (Utf8.decode s pos).2) none (match st with | some a => acc ++ [(a, pos)] | none => acc) else Lib.spansFromP p s f (pos + (Utf8.decode s pos).2) (some (st.getD pos)) acc := by
  conv => lhs; unfold Lib.spansFromP
  rw [if_pos h]
  cases st <;> split <;> rfl
set_option maxHeartbeats 1000000 in
theorem fields_run (s : ByteArray) : ∀ (m f pos : Nat) (st : Option Nat) (acc : List (Nat × Nat)), s.size - pos ≤ m → s.size - pos ≤ f → pos ≤ s.size → okSt st pos →
    (Lib.closeSpans s (Lib.spansFromP bl3 s f pos st acc)).map (fun x => (s.extract x.1 x.2).data.toList) = acc.map (fun x => (s.extract x.1 x.2).data.toList) ++ wordsB (s.data.toList.drop pos) (curL s.data.toList st pos) := by
  intro m
  induction m with
  | zero =>
    intro f pos st acc hm hf hp ho
    rw [Lib.spansFromP_end _ _ _ _ _ _ (by omega)]
    have hd : s.data.toList.drop pos = [] := List.drop_eq_nil_of_le (by simp; omega)
    rw [hd]
    cases st with
    | none => simp [Lib.closeSpans, wordsB, curL]
    | some a =>
      have := ho a rfl
      have hne : curL s.data.toList (some a) pos ≠ [] := by
        simp only [curL]
        intro e
        have := congrArg List.length e
        simp at this
        omega
      rw [wordsB, if_neg hne]
      simp [Lib.closeSpans, curL, show s.size = pos by omega]
  | succ m ih =>
    intro f pos st acc hm hf hp ho
    by_cases hlt : pos < s.size
    · obtain ⟨f, rfl⟩ : ∃ g, f = g + 1 := ⟨f - 1, by omega⟩
      have hL : pos < s.data.toList.length := by simpa using hlt
      have hdrop : s.data.toList.drop pos = s.data.toList[pos] :: s.data.toList.drop (pos + 1) := List.drop_eq_getElem_cons hL
      have hg := get_bang s pos hlt
      by_cases hb : isB s.data.toList[pos] = true
      · have hc : (s.data.toList[pos]).toNat < 128 := by
          refine Nat.lt_of_not_le fun h => ?_
          rw [isB_high h] at hb
          cases hb
        have hd : Utf8.decode s pos = ((s.data.toList[pos]).toNat, 1) := decode_ascii s pos hlt hc
        rw [sp_step _ _ _ _ _ _ hlt, hd, if_pos (by rw [bl3_isB]; exact hb)]
        cases st with
        | none =>
          rw [ih f (pos + 1) none acc (by omega) (by omega) (by omega) (fun a h => by cases h), hdrop, wordsB, if_pos hb]
          simp [curL]
        | some a =>
          have := ho a rfl
          have hne : curL s.data.toList (some a) pos ≠ [] := by
            simp only [curL]
            intro e
            have := congrArg List.length e
            simp at this
            omega
          simp only
          rw [ih f (pos + 1) none (acc ++ [(a, pos)]) (by omega) (by omega) (by omega) (fun a h => by cases h), hdrop, wordsB, if_pos hb, if_neg hne, List.map_append, List.append_assoc]
          simp only [List.map_cons, List.map_nil, ext_list, curL]
          rfl
      · have hb' : isB s.data.toList[pos] = false := by simpa using hb
        have facts : bl3 (Utf8.decode s pos).1 = false ∧ 1 ≤ (Utf8.decode s pos).2 ∧ pos + (Utf8.decode s pos).2 ≤ s.size ∧ ∀ c ∈ (s.data.toList.drop pos).take (Utf8.decode s pos).2, isB c = false := by
          by_cases hc : (s.data.toList[pos]).toNat < 128
          · have hd : Utf8.decode s pos = ((s.data.toList[pos]).toNat, 1) := decode_ascii s pos hlt hc
            rw [hd]
            refine ⟨by rw [bl3_isB]; exact hb', Nat.le_refl _, by omega, fun c hcm => ?_⟩
            rw [hdrop] at hcm
            simp at hcm
            rw [hcm]
            exact hb'
          · obtain ⟨d1, d2, d3, d4⟩ := dec_high s pos hlt (by rw [hg]; omega)
            refine ⟨by unfold bl3; simp; omega, d2, d3, fun c hcm => ?_⟩
            obtain ⟨j, hj, rfl⟩ := List.getElem_of_mem hcm
            have hj' : j < (Utf8.decode s pos).2 := by simp at hj; omega
            have h4 := d4 j hj'
            rw [get_bang s (pos + j) (by omega)] at h4
            rw [List.getElem_take, List.getElem_drop]
            exact isB_high h4
        obtain ⟨d1, d2, d3, d4⟩ := facts
        have hstep : Lib.spansFromP bl3 s (f + 1) pos st acc = Lib.spansFromP bl3 s f (pos + (Utf8.decode s pos).2) (some (st.getD pos)) acc := by
          rw [sp_step _ _ _ _ _ _ hlt, if_neg (by rw [d1]; decide)]
        rw [hstep, ih f (pos + (Utf8.decode s pos).2) _ acc (by omega) (by omega) d3 (fun a h => by cases h; cases st with
          | none => simp; omega
          | some b => have := ho b rfl; simp; omega), cur_more _ _ _ _ ho, wordsB_skip (Utf8.decode s pos).2 (s.data.toList.drop pos) _ d4, List.drop_drop]
    · exact ih f pos st acc (by omega) hf hp ho

theorem fields_words (s : ByteArray) : (Lib.goFieldsP bl3 s).map (fun x => x.data.toList) = wordsB s.data.toList [] := by
  unfold Lib.goFieldsP Lib.spansOfP
  rw [List.map_map]
  have h := fields_run s s.size s.size 0 none [] (by omega) (by omega) (by omega) (fun a h => by cases h)
  simp only [curL, List.drop_zero, List.map_nil, List.nil_append] at h
  exact h
theorem fields_vals (s : ByteArray) : (Lib.goFieldsP bl3 s).map Value.string = strs (wordsB s.data.toList []) := by
  rw [← fields_words]
  unfold strs
  rw [List.map_map]
  exact List.map_congr_left fun x _ => rfl
theorem fields_len (s : ByteArray) : (Lib.goFieldsP bl3 s).length = (wordsB s.data.toList []).length := by
  rw [← fields_words, List.length_map]

end Go.Proofs.Ytohncccejlccbaa
