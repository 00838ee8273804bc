import Derived.Test.YtfembjjpmjfklaaGreatDoorRef7
import Derived.Test.YtfembjjpmjfklaaGreatDoorRef3
import Derived.Test.YtfembjjpmjfklaaGreatDoorCompare
namespace Go.Proofs.YtfembjjpmjfklaaGreatDoor
open Go.RowKit

/-- THE DIGITS OF A TEXT. -/
def digsL (l : List UInt8) : List UInt8 := l.filter fun c => isDig (c.toNat : Int)
def digs (e : ByteArray) : ByteArray := ⟨(digsL e.data.toList).toArray⟩

theorem digs_of {t e : ByteArray} (h : t.data.toList = digsL e.data.toList) : t = digs e := by
  unfold digs; rw [← h]

theorem digs_dig (e : ByteArray) (h : allB (kind 62) e = true) : digs e = e := by
  refine (digs_of ?_).symm
  unfold digsL
  rw [List.filter_eq_self.2]
  intro c hc
  have k : kind 62 = isDig := rfl
  rw [k] at h
  unfold allB at h
  exact List.all_eq_true.1 h c hc

theorem digsL_snoc_yes (l : List UInt8) (c : UInt8) (h : isDig (c.toNat : Int) = true) : digsL (l ++ [c]) = digsL l ++ [c] := by
  unfold digsL; rw [List.filter_append]; simp [h]
theorem digsL_snoc_no (l : List UInt8) (c : UInt8) (h : isDig (c.toNat : Int) = false) : digsL (l ++ [c]) = digsL l := by
  unfold digsL; rw [List.filter_append]; simp [h]

theorem app_one (t s : ByteArray) (k : Nat) (h : k < s.size) : (t ++ s.extract k (k + 1)).data.toList = t.data.toList ++ [s[k]] := by
  rw [ByteArray.data_append, Array.toList_append, toList_ext, drop_at s k h, show k + 1 - k = 1 by omega]
  rfl

theorem ia_dig (x : ByteArray) (h : ∀ j (hj : j < x.size), isDig (x[j].toNat : Int) = true) : ia x 1 = 0 ∧ ia x 2 = x.size := by
  have h1 : ia x 1 = 0 := by
    show endAt x 0 false = 0
    by_cases hz : 0 < x.size
    · exact endAt_stop x 0 false hz (by rw [h 0 hz]; rfl)
    · exact endAt_end x 0 false (by omega)
  refine ⟨h1, ?_⟩
  have h2 : ∀ (m i : Nat), x.size - i ≤ m → i ≤ x.size → endAt x i true = x.size := by
    intro m
    induction m with
    | zero => intro i hm hi; rw [endAt_end x i true (by omega)]; omega
    | succ m ih =>
      intro i hm hi
      by_cases hlt : i < x.size
      · rw [← endAt_step x i true hlt (by rw [h i hlt]; rfl)]
        exact ih (i + 1) (by omega) (by omega)
      · rw [endAt_end x i true (by omega)]; omega
  show endAt x (ia x 1) true = x.size
  rw [h1]
  exact h2 _ 0 (Nat.le_refl _) (Nat.zero_le _)

theorem extract_all (x : ByteArray) : x.extract 0 x.size = x := by
  apply ByteArray.ext
  apply Array.ext'
  rw [toList_ext, List.drop_zero, List.take_of_length_le (by simp)]

/-- OF TEXTS OF DIGITS ALONE. -/
theorem ordPart_dig (x y : ByteArray) (hx : ∀ j (hj : j < x.size), isDig (x[j].toNat : Int) = true) (hy : ∀ j (hj : j < y.size), isDig (y[j].toNat : Int) = true) : ordPart x y = ordNum x y := by
  obtain ⟨x1, x2⟩ := ia_dig x hx
  obtain ⟨y1, y2⟩ := ia_dig y hy
  have c0 : cp x y 0 = 0 := by
    have hxs : (runOf x 0).size = 0 := by rw [runOf_sz, x1]; rfl
    have hys : (runOf y 0).size = 0 := by rw [runOf_sz, y1]; rfl
    unfold cp
    rw [ba_empty hxs, ba_empty hys]
    exact ordWord_refl _
  have rx : runOf x 1 = x := by unfold runOf; rw [x1, x2]; exact extract_all x
  have ry : runOf y 1 = y := by unfold runOf; rw [y1, y2]; exact extract_all y
  have c1 : cp x y 1 = ordNum x y := by
    unfold cp
    rw [if_pos (show odd 1 = true from rfl), rx, ry]
  have h2 : sq (cp x y) 2 = ordNum x y := by
    show (if (if (0 : Int) = 0 then cp x y 0 else 0) = 0 then cp x y 1 else _) = _
    rw [if_pos rfl, c0, if_pos rfl, c1]
  by_cases e : ordNum x y = 0
  · rw [e, ordPart_done x y 2 x2 y2 (by rw [h2, e])]
  · rw [ordPart_stop x y 2 (by rw [h2]; exact e), h2]

theorem digs_all (e : ByteArray) : ∀ j (hj : j < (digs e).size), isDig ((digs e)[j].toNat : Int) = true := by
  intro j hj
  have hm : (digs e)[j] ∈ digsL e.data.toList := by
    have h2 : (digs e).data.toList = digsL e.data.toList := rfl
    have h' : j < (digs e).data.toList.length := by simpa using hj
    rw [← h2]
    exact List.getElem_mem h'
  exact (List.mem_filter.1 hm).2

theorem digs_size (e : ByteArray) : (digs e).size ≤ e.size := by
  show (digsL e.data.toList).toArray.size ≤ _
  have := List.length_filter_le (fun c : UInt8 => isDig (c.toNat : Int)) e.data.toList
  simpa [digsL] using this

/-- THE ORDER OF ANY PARTS. -/
def ordG (v w : Ver) : Int := if ordNum (digs v.e) (digs w.e) = 0 then (if ordPart v.u w.u = 0 then ordPart v.r w.r else ordPart v.u w.u) else ordNum (digs v.e) (digs w.e)

theorem ordG_dig (v w : Ver) (h1 : allB (kind 62) v.e = true) (h2 : allB (kind 62) w.e = true) : ordG v w = ordV v w := by
  unfold ordG ordV
  rw [digs_dig _ h1, digs_dig _ h2]

end Go.Proofs.YtfembjjpmjfklaaGreatDoor
