import Derived.Test.YtfembjjpmjfklaaDoorLitP
namespace Go.Proofs.YtfembjjpmjfklaaDoor
open Go.RowKit

theorem pj_ba_ext {a b : ByteArray} (h : a.data.toList = b.data.toList) : a = b := by
  apply ByteArray.ext
  apply Array.ext'
  exact h

theorem pj_toList_append (a b : ByteArray) : (a ++ b).data.toList = a.data.toList ++ b.data.toList := by
  rw [ByteArray.data_append, Array.toList_append]

theorem pj_toList_extract (s : ByteArray) (a b : Nat) : (s.extract a b).data.toList = (s.data.toList.drop a).take (b - a) := by
  rw [ByteArray.data_extract, Array.toList_extract]

theorem pj_split_at (s : ByteArray) (i : Nat) (x : UInt8) (h : i < s.size) (hx : s[i] = x) : s.data.toList = (s.extract 0 i).data.toList ++ (x :: (s.extract (i + 1) s.size).data.toList) := by
  rw [pj_toList_extract, pj_toList_extract]
  have h' : i < s.data.toList.length := by simpa using h
  have hg : s.data.toList[i] = x := hx
  have h1 : (s.data.toList.drop (i + 1)).take (s.size - (i + 1)) = s.data.toList.drop (i + 1) := List.take_of_length_le (by simp)
  rw [h1, ← hg, ← List.drop_eq_getElem_cons h']
  simp

theorem pj_cut_colon (s : ByteArray) : pre (cut s).e (rest s) (cut s).c = s := by
  have hce : (cut s).e = if Lib.indexByte s.data.toList 58 = -1 then nob else s.extract 0 (Lib.indexByte s.data.toList 58).toNat := rfl
  have hcc : (cut s).c = decide (Lib.indexByte s.data.toList 58 ≠ -1) := rfl
  rcases indexByte_spec s.data.toList 58 with ⟨h1, _⟩ | ⟨i, hi, h1, h2, _⟩
  · have hr : rest s = s := by unfold rest; rw [if_pos h1]
    have hc : (cut s).c = false := by rw [hcc, h1]; decide
    rw [hc, hr]
    rfl
  · have hi' : i < s.size := by simpa using hi
    have hr : rest s = s.extract (i + 1) s.size := by unfold rest; rw [if_neg (by rw [h1]; omega), h1]; rfl
    have hc : (cut s).c = true := by rw [hcc, h1]; simp
    have he : (cut s).e = s.extract 0 i := by rw [hce, if_neg (by rw [h1]; omega), h1]; rfl
    rw [hc, he, hr]
    apply pj_ba_ext
    show (s.extract 0 i ++ ⟨#[58]⟩ ++ s.extract (i + 1) s.size).data.toList = _
    rw [pj_toList_append, pj_toList_append, pj_split_at s i 58 hi' h2]
    simp

theorem pj_cut_hyphen (s : ByteArray) : (if (cut s).d = true then (cut s).u ++ (⟨#[45]⟩ ++ (cut s).r) else (cut s).u) = rest s := by
  have hu : (cut s).u = if Lib.lastIndexByte (rest s) 45 = -1 then rest s else (rest s).extract 0 (Lib.lastIndexByte (rest s) 45).toNat := rfl
  have hr : (cut s).r = if Lib.lastIndexByte (rest s) 45 = -1 then nob else (rest s).extract ((Lib.lastIndexByte (rest s) 45).toNat + 1) (rest s).size := rfl
  have hd : (cut s).d = decide (Lib.lastIndexByte (rest s) 45 ≠ -1) := rfl
  rcases Lib.lastIndexByte_spec (rest s) 45 with ⟨h1, _⟩ | ⟨j, hj, h1, h2, _⟩
  · have : (cut s).d = false := by rw [hd, h1]; decide
    rw [this, hu, if_pos h1]
    rfl
  · have hd' : (cut s).d = true := by rw [hd, h1]; simp
    have hu' : (cut s).u = (rest s).extract 0 j := by rw [hu, if_neg (by rw [h1]; omega), h1]; rfl
    have hr' : (cut s).r = (rest s).extract (j + 1) (rest s).size := by rw [hr, if_neg (by rw [h1]; omega), h1]; rfl
    have hx : (rest s)[j] = 45 := by
      rw [byteBang _ j hj] at h2
      apply UInt8.toNat_inj.1
      show (rest s)[j].toNat = 45
      omega
    rw [hd', if_pos rfl, hu', hr']
    apply pj_ba_ext
    rw [pj_toList_append, pj_toList_append, pj_split_at (rest s) j 45 hj hx]
    rfl

theorem pj_pre_app (e u x : ByteArray) (c : Bool) : pre e u c ++ x = pre e (u ++ x) c := by
  unfold pre
  cases c
  · rfl
  · apply pj_ba_ext
    simp

theorem pj_join_cut (s : ByteArray) : join (cut s).e (cut s).u (cut s).r (cut s).c (cut s).d = s := by
  have h1 := pj_cut_colon s
  have h2 := pj_cut_hyphen s
  unfold join
  cases hd : (cut s).d
  · rw [hd] at h2
    have h2' : (cut s).u = rest s := h2
    rw [if_neg (by decide), h2', h1]
  · rw [hd, if_pos rfl] at h2
    rw [if_pos rfl, pj_pre_app, h2, h1]


theorem pj_ne (s : ByteArray) (h : s.toList.isEmpty = false) : s.data.toList ≠ [] := by
  rw [Lib.toList_data] at h
  intro e
  rw [e] at h
  cases h

theorem allB_mem {p : Int → Bool} {s : ByteArray} (h : allB p s = true) : ∀ b ∈ s.data.toList, p (b.toNat : Int) = true := by
  unfold allB at h
  rw [List.all_eq_true] at h
  exact h

theorem isDig_up (n : Int) (h : isDig n = true) : isUp n = true := by unfold isUp isRev; simp [h]
theorem isRev_up (n : Int) (h : isRev n = true) : isUp n = true := by unfold isUp; simp [h]

/-- THE BYTES OF A VERSION. -/
theorem ver_bytes (v : ByteArray) (h : (parse v).2 = 0) : v.data.toList ≠ [] ∧ ∀ b ∈ v.data.toList, isUp (b.toNat : Int) = true := by
  have hc : chkV (cut v) = 0 := by
    unfold parse at h
    split at h
    · cases h
    · split at h
      · rename_i h2
        exact h2
      · exact h
  unfold chkV chk at hc
  split at hc
  · cases hc
  · split at hc
    · cases hc
    · split at hc
      · cases hc
      · split at hc
        · cases hc
        · split at hc
          · cases hc
          · rename_i k1 k2 k3 k4 k5
            have k5' : allB isUp (cut v).u = true ∧ allB isRev (cut v).r = true := by
              have e1 : kind 143 = isUp := rfl
              have e2 : kind 144 = isRev := rfl
              rw [e1, e2] at k5
              simpa using k5
            have k2' : (cut v).c = true → allB isDig (cut v).e = true := fun hcc => by
              have e1 : kind 142 = isDig := rfl
              rw [e1, hcc] at k2
              simp at k2
              exact k2.2
            have k1' : (cut v).u.data.toList ≠ [] := pj_ne _ (by simpa using k1)
            have hj := pj_join_cut v
            generalize cut v = V at *
            obtain ⟨E, U, R, C, D⟩ := V
            simp only at *
            subst hj
            have hU := allB_mem k5'.1
            have hR := allB_mem k5'.2
            have hpre : ∀ b ∈ (pre E U C).data.toList, isUp (b.toNat : Int) = true := by
              intro b hb
              cases C
              · exact hU b hb
              · have hb' : b ∈ (E ++ ⟨#[58]⟩ ++ U).data.toList := hb
                rw [pj_toList_append, pj_toList_append] at hb'
                rcases List.mem_append.1 hb' with h1 | h1
                · rcases List.mem_append.1 h1 with h2 | h2
                  · exact isDig_up _ (allB_mem (k2' rfl) b h2)
                  · obtain rfl : b = 58 := by simpa using h2
                    rfl
                · exact hU b h1
            have hprene : (pre E U C).data.toList ≠ [] := by
              cases C
              · exact k1'
              · show (E ++ ⟨#[58]⟩ ++ U).data.toList ≠ []
                rw [pj_toList_append]
                intro e
                exact k1' (List.append_eq_nil_iff.1 e).2
            cases D
            · exact ⟨hprene, hpre⟩
            · have e : (join E U R C true).data.toList = (pre E U C).data.toList ++ (45 :: R.data.toList) := by
                show (pre E U C ++ (⟨#[45]⟩ ++ R)).data.toList = _
                rw [pj_toList_append, pj_toList_append]
                rfl
              rw [e]
              refine ⟨fun h => hprene (List.append_eq_nil_iff.1 h).1, fun b hb => ?_⟩
              rcases List.mem_append.1 hb with h1 | h1
              · exact hpre b h1
              · rcases List.mem_cons.1 h1 with rfl | h2
                · rfl
                · exact isRev_up _ (hR b h2)

/-- THE BYTES OF A NAME. -/
theorem name_bytes (n : ByteArray) (h : okName n = true) : n.data.toList ≠ [] ∧ ∀ b ∈ n.data.toList, isNF (b.toNat : Int) = true := by
  unfold okName at h
  simp only [Bool.and_eq_true, decide_eq_true_eq] at h
  refine ⟨fun e => ?_, allB_mem h.2⟩
  have := size_list n
  rw [e] at this
  simp at this
  omega

/-! ### Blanks -/
def blk (b : UInt8) : Bool := [32, 9, 10].contains b
def Blk (l : List UInt8) : Prop := ∀ b ∈ l, blk b = true

theorem dropW_app {p : UInt8 → Bool} : ∀ (u t : List UInt8), (∀ b ∈ u, p b = true) → (u ++ t).dropWhile p = t.dropWhile p
  | [], t, _ => rfl
  | a :: u, t, h => by
    rw [List.cons_append, List.dropWhile_cons, if_pos (h a List.mem_cons_self)]
    exact dropW_app u t (fun b hb => h b (List.mem_cons_of_mem _ hb))
theorem dropW_head {p : UInt8 → Bool} {t : List UInt8} (h : ∀ a, t.head? = some a → p a = false) : t.dropWhile p = t := by
  cases t with
  | nil => rfl
  | cons a t => rw [List.dropWhile_cons, if_neg (by rw [h a rfl]; decide)]

theorem trimR_blk (l : List UInt8) : Lib.trimRightS l [32, 9, 10] = (l.reverse.dropWhile blk).reverse := rfl
theorem trimL_blk (l : List UInt8) : Lib.trimLeftS l [32, 9, 10] = l.dropWhile blk := rfl

/-- BLANKS AROUND A TEXT ARE TRIMMED. -/
theorem trim_around (u t v : List UInt8) (hu : Blk u) (hv : Blk v) (h1 : ∀ a, t.head? = some a → blk a = false) (h2 : ∀ a, t.getLast? = some a → blk a = false) (hne : t ≠ []) : Lib.trimS (u ++ t ++ v) [32, 9, 10] = t := by
  have e1 : Lib.trimRightS (u ++ t ++ v) [32, 9, 10] = u ++ t := by
    rw [trimR_blk, List.reverse_append, dropW_app _ _ (fun b hb => hv b (List.mem_reverse.1 hb)), List.reverse_append, dropW_head, ← List.reverse_append, List.reverse_reverse]
    intro a ha
    have hr : t.reverse ≠ [] := by simpa using hne
    have hh : (t.reverse ++ u.reverse).head? = t.reverse.head? := by
      cases ht : t.reverse with
      | nil => exact absurd ht hr
      | cons b l => rfl
    rw [hh, List.head?_reverse] at ha
    exact h2 a ha
  unfold Lib.trimS
  rw [e1, trimL_blk, dropW_app _ _ (fun b hb => hu b hb)]
  exact dropW_head h1

end Go.Proofs.YtfembjjpmjfklaaDoor
