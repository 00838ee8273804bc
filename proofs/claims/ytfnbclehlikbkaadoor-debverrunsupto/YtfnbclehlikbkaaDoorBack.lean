import Derived.Test.YtfnbclehlikbkaaDoorText
import Derived.Test.YtfnbclehlikbkaaDoorCompare
namespace Go.Proofs.YtfnbclehlikbkaaDoor
open Go.RowKit

theorem ba_ext {a b : ByteArray} (h : a.data.toList = b.data.toList) : a = b := by
  apply ByteArray.ext
  apply Array.ext'
  exact h

theorem toList_append (a b : ByteArray) : (a ++ b).data.toList = a.data.toList ++ b.data.toList := by
  rw [ByteArray.data_append, Array.toList_append]

theorem toList_extract (s : ByteArray) (a b : Nat) : (s.extract a b).data.toList = (s.data.toList.drop a).take (b - a) := by
  rw [ByteArray.data_extract, Array.toList_extract]

theorem split_at (s : ByteArray) (i : Nat) (x : UInt8) (h : i < s.size) (hx : s[i] = x) : s.data.toList = (s.extract 0 i).data.toList ++ (x :: (s.extract (i + 1) s.size).data.toList) := by
  rw [toList_extract, toList_extract]
  have h' : i < s.data.toList.length := by simpa using h
  have hg : s.data.toList[i] = x := hx
  have h1 : (s.data.toList.drop (i + 1)).take (s.size - (i + 1)) = s.data.toList.drop (i + 1) := List.take_of_length_le (by simp)
  rw [h1, ← hg, ← List.drop_eq_getElem_cons h']
  simp

theorem cut_colon (s : ByteArray) : pre (cut s).e (rest s) (cut s).c = s := by
  have hce : (cut s).e = if Lib.indexByte s.data.toList 58 = -1 then nob else s.extract 0 (Lib.indexByte s.data.toList 58).toNat := rfl
  have hcc : (cut s).c = decide (Lib.indexByte s.data.toList 58 ≠ -1) := rfl
  rcases indexByte_spec s.data.toList 58 with ⟨h1, _⟩ | ⟨i, hi, h1, h2, _⟩
  · have hr : rest s = s := by unfold rest; rw [if_pos h1]
    have hc : (cut s).c = false := by rw [hcc, h1]; decide
    rw [hc, hr]
    rfl
  · have hi' : i < s.size := by simpa using hi
    have hr : rest s = s.extract (i + 1) s.size := by unfold rest; rw [if_neg (by rw [h1]; omega), h1]; rfl
    have hc : (cut s).c = true := by rw [hcc, h1]; simp
    have he : (cut s).e = s.extract 0 i := by rw [hce, if_neg (by rw [h1]; omega), h1]; rfl
    rw [hc, he, hr]
    apply ba_ext
    show (s.extract 0 i ++ ⟨#[58]⟩ ++ s.extract (i + 1) s.size).data.toList = _
    rw [toList_append, toList_append, split_at s i 58 hi' h2]
    simp

theorem cut_hyphen (s : ByteArray) : (if (cut s).d = true then (cut s).u ++ (⟨#[45]⟩ ++ (cut s).r) else (cut s).u) = rest s := by
  have hu : (cut s).u = if Lib.lastIndexByte (rest s) 45 = -1 then rest s else (rest s).extract 0 (Lib.lastIndexByte (rest s) 45).toNat := rfl
  have hr : (cut s).r = if Lib.lastIndexByte (rest s) 45 = -1 then nob else (rest s).extract ((Lib.lastIndexByte (rest s) 45).toNat + 1) (rest s).size := rfl
  have hd : (cut s).d = decide (Lib.lastIndexByte (rest s) 45 ≠ -1) := rfl
  rcases Lib.lastIndexByte_spec (rest s) 45 with ⟨h1, _⟩ | ⟨j, hj, h1, h2, _⟩
  · have : (cut s).d = false := by rw [hd, h1]; decide
    rw [this, hu, if_pos h1]
    rfl
  · have hd' : (cut s).d = true := by rw [hd, h1]; simp
    have hu' : (cut s).u = (rest s).extract 0 j := by rw [hu, if_neg (by rw [h1]; omega), h1]; rfl
    have hr' : (cut s).r = (rest s).extract (j + 1) (rest s).size := by rw [hr, if_neg (by rw [h1]; omega), h1]; rfl
    have hx : (rest s)[j] = 45 := by
      rw [byteBang _ j hj] at h2
      apply UInt8.toNat_inj.1
      show (rest s)[j].toNat = 45
      omega
    rw [hd', if_pos rfl, hu', hr']
    apply ba_ext
    rw [toList_append, toList_append, split_at (rest s) j 45 hj hx]
    rfl

theorem pre_app (e u x : ByteArray) (c : Bool) : pre e u c ++ x = pre e (u ++ x) c := by
  unfold pre
  cases c
  · rfl
  · apply ba_ext
    simp

theorem join_cut (s : ByteArray) : join (cut s).e (cut s).u (cut s).r (cut s).c (cut s).d = s := by
  have h1 := cut_colon s
  have h2 := cut_hyphen s
  unfold join
  cases hd : (cut s).d
  · rw [hd] at h2
    have h2' : (cut s).u = rest s := h2
    rw [if_neg (by decide), h2', h1]
  · rw [hd, if_pos rfl] at h2
    rw [if_pos rfl, pre_app, h2, h1]

theorem isEmpty_nob : nob.toList.isEmpty = true := by rw [isEmpty_sz]; rfl

theorem text_parsed (s e u r : ByteArray) (c d : Bool) (h : parse s = (⟨e, u, r, c, d⟩, 0)) : text e u r c d = (s, 0) := by
  have h0 := h
  unfold parse at h
  by_cases hl : 256 < s.size
  · rw [if_pos hl] at h; cases h
  · rw [if_neg hl] at h
    by_cases hc : chkV (cut s) = 0
    · rw [if_pos hc] at h
      have hcut : cut s = ⟨e, u, r, c, d⟩ := (Prod.mk.inj h).1
      have hj := join_cut s
      rw [hcut] at hj
      simp only at hj
      unfold text
      have ha : (c = true ∨ e.toList.isEmpty = true) ∧ (d = true ∨ r.toList.isEmpty = true) := by
        constructor
        · cases c
          · have hcc : decide (Lib.indexByte s.data.toList 58 ≠ -1) = false := by
              have : (cut s).c = false := by rw [hcut]
              exact this
            have hi : Lib.indexByte s.data.toList 58 = -1 := by simpa using hcc
            have he : (cut s).e = nob := by show (if _ then _ else _) = _; rw [if_pos hi]
            rw [hcut] at he
            right
            have : e = nob := he
            rw [this]; exact isEmpty_nob
          · exact .inl rfl
        · cases d
          · have hcc : decide (Lib.lastIndexByte (rest s) 45 ≠ -1) = false := by
              have : (cut s).d = false := by rw [hcut]
              exact this
            have hi : Lib.lastIndexByte (rest s) 45 = -1 := by simpa using hcc
            have he : (cut s).r = nob := by show (if _ then _ else _) = _; rw [if_pos hi]
            rw [hcut] at he
            right
            have : r = nob := he
            rw [this]; exact isEmpty_nob
          · exact .inl rfl
      rw [if_pos ha, hj, h0]
      simp only
      rw [if_pos trivial, if_pos (by unfold eqv; simp)]
    · rw [if_neg hc] at h
      have := (Prod.mk.inj h).2
      exact absurd this hc

theorem parse_short_of_ok (s : ByteArray) (v : Ver) (h : parse s = (v, 0)) : s.size ≤ 256 := by
  unfold parse at h
  by_cases hl : 256 < s.size
  · rw [if_pos hl] at h; cases h
  · omega

/-- OF PARTS THAT ARE TOLD AS A TEXT. -/
theorem text_back (e u r : ByteArray) (c d : Bool) (t : ByteArray) (h : text e u r c d = (t, 0)) : ∃ V : Ver, parse t = (V, 0) ∧ eqv V ⟨e, u, r, c, d⟩ = true := by
  unfold text at h
  split at h
  · split at h
    · rename_i h1
      split at h
      · rename_i h2
        cases h
        exact ⟨(parse (join e u r c d)).1, by rw [← h1], h2⟩
      · cases h
    · rename_i h1
      have := (Prod.mk.inj h).2
      exact absurd this h1
  · cases h

end Go.Proofs.YtfnbclehlikbkaaDoor
