import Derived.Test.YtmckmeoondlcpaaDoorRef7
import Derived.Test.YtmckmeoondlcpaaDoorRef3
import Derived.Test.YtmckmeoondlcpaaDoorCompare
namespace Go.Proofs.YtmckmeoondlcpaaDoor
open Go.RowKit

/-- THE DIGITS OF A TEXT. -/
def digsL (l : List UInt8) : List UInt8 := l.filter fun c => isDig (c.toNat : Int)
def digs (e : ByteArray) : ByteArray := ⟨(digsL e.data.toList).toArray⟩

theorem digs_of {t e : ByteArray} (h : t.data.toList = digsL e.data.toList) : t = digs e := by
  unfold digs; rw [← h]

theorem digs_dig (e : ByteArray) (h : allB (kind 41) e = true) : digs e = e := by
  refine (digs_of ?_).symm
  unfold digsL
  rw [List.filter_eq_self.2]
  intro c hc
  have k : kind 41 = isDig := rfl
  rw [k] at h
  unfold allB at h
  exact List.all_eq_true.1 h c hc

theorem digsL_snoc_yes (l : List UInt8) (c : UInt8) (h : isDig (c.toNat : Int) = true) : digsL (l ++ [c]) = digsL l ++ [c] := by
  unfold digsL; rw [List.filter_append]; simp [h]
theorem digsL_snoc_no (l : List UInt8) (c : UInt8) (h : isDig (c.toNat : Int) = false) : digsL (l ++ [c]) = digsL l := by
  unfold digsL; rw [List.filter_append]; simp [h]

theorem app_one (t s : ByteArray) (k : Nat) (h : k < s.size) : (t ++ s.extract k (k + 1)).data.toList = t.data.toList ++ [s[k]] := by
  rw [ByteArray.data_append, Array.toList_append, toList_ext, drop_at s k h, show k + 1 - k = 1 by omega]
  rfl

set_option maxHeartbeats 1000000 in
theorem ronly_any (s : ByteArray) (hs : s.size ≤ 4611686018427387903) (w : World) :
    Calls Tryd.prog 37 #[.string s] w fun e w' => e = .returned (.string (digs s)) ∧ w' = w := by
  go_enter Tryd.func37, Tryd.ntmps37
  go_wp2
  go_loop [3, 4] (fun ov iv => ∃ (k : Nat) (t : ByteArray), k ≤ s.size ∧ iv = .int .i64 k ∧ ov = .string t ∧ t.size ≤ k ∧ Hid (t.data.toList = digsL (s.data.toList.take k))) (fun _ iv => s.size - (intOf iv).toNat)
  case atStart => exact ⟨0, _, Nat.zero_le _, rfl, rfl, Nat.le_refl _, rfl⟩
  case round =>
    obtain ⟨k, t, hk, rfl, rfl, hts, ht⟩ := hrel
    by_cases hlt : k < s.size
    · have hsn := hide (take_snoc s k hlt)
      have hz1 : (s.extract k (k + 1)).size = 1 := by rw [ByteArray.size_extract]; omega
      have HZ1 := hide hz1
      clear hz1
      cases hd : isDig (s[k].toNat : Int)
      · have HT := hide (show t.data.toList = digsL (s.data.toList.take (k + 1)) by rw [unhide hsn, digsL_snoc_no _ _ hd]; exact unhide ht)
        go_wp2_with (go_at_call 50; refine (rdigit_any _ _).mono ?_; rintro e w' ⟨rfl, rfl⟩)
        go_round
        case rel => exact ⟨k + 1, t, by omega, by go_num, rfl, by omega, HT⟩
        case measure => simp [intOf]; omega
      · have HT := hide (show (t ++ s.extract k (k + 1)).data.toList = digsL (s.data.toList.take (k + 1)) by rw [app_one t s k hlt, unhide hsn, digsL_snoc_yes _ _ hd, unhide ht])
        have hsum : t.size + (s.extract k (k + 1)).size ≤ 9223372036854775807 := by have := unhide HZ1; omega
        have hsz := hide (show (t ++ s.extract k (k + 1)).size ≤ k + 1 by rw [ByteArray.size_append, unhide HZ1]; omega)
        go_wp2_with (go_at_call 50; refine (rdigit_any _ _).mono ?_; rintro e w' ⟨rfl, rfl⟩)
        all_goals first
          | (go_round
             case rel => exact ⟨k + 1, _, by omega, by go_num, rfl, unhide hsz, HT⟩
             case measure => simp [intOf]; omega)
          | (exfalso; omega)
    · have HT := hide (show t = digs s from digs_of (by rw [unhide ht, List.take_of_length_le (by simp; omega)]))
      go_wp2
      go_ret
      exact ⟨ret_str' (unhide HT), rfl⟩

theorem ia_dig (x : ByteArray) (h : ∀ j (hj : j < x.size), isDig (x[j].toNat : Int) = true) : ia x 1 = 0 ∧ ia x 2 = x.size := by
  have h1 : ia x 1 = 0 := by
    show endAt x 0 false = 0
    by_cases hz : 0 < x.size
    · exact endAt_stop x 0 false hz (by rw [h 0 hz]; rfl)
    · exact endAt_end x 0 false (by omega)
  refine ⟨h1, ?_⟩
  have h2 : ∀ (m i : Nat), x.size - i ≤ m → i ≤ x.size → endAt x i true = x.size := by
    intro m
    induction m with
    | zero => intro i hm hi; rw [endAt_end x i true (by omega)]; omega
    | succ m ih =>
      intro i hm hi
      by_cases hlt : i < x.size
      · rw [← endAt_step x i true hlt (by rw [h i hlt]; rfl)]
        exact ih (i + 1) (by omega) (by omega)
      · rw [endAt_end x i true (by omega)]; omega
  show endAt x (ia x 1) true = x.size
  rw [h1]
  exact h2 _ 0 (Nat.le_refl _) (Nat.zero_le _)

theorem extract_all (x : ByteArray) : x.extract 0 x.size = x := by
  apply ByteArray.ext
  apply Array.ext'
  rw [toList_ext, List.drop_zero, List.take_of_length_le (by simp)]

/-- OF TEXTS OF DIGITS ALONE. -/
theorem ordPart_dig (x y : ByteArray) (hx : ∀ j (hj : j < x.size), isDig (x[j].toNat : Int) = true) (hy : ∀ j (hj : j < y.size), isDig (y[j].toNat : Int) = true) : ordPart x y = ordNum x y := by
  obtain ⟨x1, x2⟩ := ia_dig x hx
  obtain ⟨y1, y2⟩ := ia_dig y hy
  have c0 : cp x y 0 = 0 := by
    have hxs : (runOf x 0).size = 0 := by rw [runOf_sz, x1]; rfl
    have hys : (runOf y 0).size = 0 := by rw [runOf_sz, y1]; rfl
    unfold cp
    rw [ba_empty hxs, ba_empty hys]
    exact ordWord_refl _
  have rx : runOf x 1 = x := by unfold runOf; rw [x1, x2]; exact extract_all x
  have ry : runOf y 1 = y := by unfold runOf; rw [y1, y2]; exact extract_all y
  have c1 : cp x y 1 = ordNum x y := by
    unfold cp
    rw [if_pos (show odd 1 = true from rfl), rx, ry]
  have h2 : sq (cp x y) 2 = ordNum x y := by
    show (if (if (0 : Int) = 0 then cp x y 0 else 0) = 0 then cp x y 1 else _) = _
    rw [if_pos rfl, c0, if_pos rfl, c1]
  by_cases e : ordNum x y = 0
  · rw [e, ordPart_done x y 2 x2 y2 (by rw [h2, e])]
  · rw [ordPart_stop x y 2 (by rw [h2]; exact e), h2]

theorem digs_all (e : ByteArray) : ∀ j (hj : j < (digs e).size), isDig ((digs e)[j].toNat : Int) = true := by
  intro j hj
  have hm : (digs e)[j] ∈ digsL e.data.toList := by
    have h2 : (digs e).data.toList = digsL e.data.toList := rfl
    have h' : j < (digs e).data.toList.length := by simpa using hj
    rw [← h2]
    exact List.getElem_mem h'
  exact (List.mem_filter.1 hm).2

theorem digs_size (e : ByteArray) : (digs e).size ≤ e.size := by
  show (digsL e.data.toList).toArray.size ≤ _
  have := List.length_filter_le (fun c : UInt8 => isDig (c.toNat : Int)) e.data.toList
  simpa [digsL] using this

/-- THE ORDER OF ANY PARTS. -/
def ordG (v w : Ver) : Int := if ordNum (digs v.e) (digs w.e) = 0 then (if ordPart v.u w.u = 0 then ordPart v.r w.r else ordPart v.u w.u) else ordNum (digs v.e) (digs w.e)

set_option maxHeartbeats 1000000 in
theorem rOrder_any (e u r : ByteArray) (c d : Bool) (E U R : ByteArray) (C D : Bool) (he : e.size ≤ 4611686018427387903) (hu : u.size ≤ maxLen) (hr : r.size ≤ maxLen) (hE : E.size ≤ 4611686018427387903) (hU : U.size ≤ maxLen) (hR : R.size ≤ maxLen) (w : World) :
    Calls Tryd.prog 28 #[.agg #[.string e, .string u, .string r, .bool c, .bool d], .agg #[.string E, .string U, .string R, .bool C, .bool D]] w fun x w' =>
      x = .returned (.int .i64 (ordG ⟨e, u, r, c, d⟩ ⟨E, U, R, C, D⟩)) ∧ Below w.heap.size w w' := by
  have HF := hide (show ordG ⟨e, u, r, c, d⟩ ⟨E, U, R, C, D⟩ = if ordNum (digs e) (digs E) = 0 then (if ordPart u U = 0 then ordPart r R else ordPart u U) else ordNum (digs e) (digs E) from rfl)
  have m1 : (digs e).size ≤ maxLen := Nat.le_trans (digs_size e) (by unfold maxLen; omega)
  have m2 : (digs E).size ≤ maxLen := Nat.le_trans (digs_size E) (by unfold maxLen; omega)
  have c1 := hide (fun w => ronly_any e he w)
  have c2 := hide (fun w => ronly_any E hE w)
  have c3 := hide (fun w => rpart_any (digs e) (digs E) m1 m2 w)
  rw [ordPart_dig _ _ (digs_all e) (digs_all E)] at c3
  have c4 := hide (fun w => rpart_any u U hu hU w)
  have c5 := hide (fun w => rpart_any r R hr hR w)
  generalize ordG ⟨e, u, r, c, d⟩ ⟨E, U, R, C, D⟩ = res at *
  generalize ordNum (digs e) (digs E) = x1 at *
  generalize ordPart u U = x2 at *
  generalize ordPart r R = x3 at *
  generalize digs e = de at *
  generalize digs E = dE at *
  clear m1 m2 he hu hr hE hU hR
  have HB := hide (((Below.refl w.heap.size w).alloc (Nat.le_refl _) (.cells #[.string e, .string u, .string r, .bool c, .bool d] 55)).alloc (by simp) (.cells #[.string E, .string U, .string R, .bool C, .bool D] 55))
  by_cases e1 : x1 = 0
  · have n1 : (x1 == 0) = true := by simp [e1]
    have HF1 := hide ((unhide HF).trans (if_pos e1))
    clear HF
    by_cases e2 : x2 = 0
    · have n2 : (x2 == 0) = true := by simp [e2]
      have HF2 := hide ((unhide HF1).trans (if_pos e2))
      clear e2 HF1 e1
      go_enter Tryd.func28, Tryd.ntmps28
      go_wp2_with fail
      go_quiet (first | (go_at_call_of 37 (Value.string e); exact Calls.quiet_of_same (unhide c1 _)) | (go_at_call_of 37 (Value.string E); exact Calls.quiet_of_same (unhide c2 _)) | (go_at_call 36; refine (unhide c3 _).mono ?_; rintro e w'' ⟨rfl, n9, rfl⟩; exact ⟨rfl, _, by rw [World.drewN_drewN]⟩))
      go_wp2_with fail
      refine (unhide c4 _).mono ?_
      rintro x w1 ⟨rfl, n8, rfl⟩
      go_wp2_with fail
      refine (unhide c5 _).mono ?_
      rintro x w2 ⟨rfl, n7, rfl⟩
      go_wp2_with fail
      go_ret
      exact ⟨ret_int64 (unhide HF2).symm, below_drewN (unhide HB) _⟩
    · have n2 : (x2 == 0) = false := by simpa using e2
      have HF2 := hide ((unhide HF1).trans (if_neg e2))
      clear e2 HF1 e1
      go_enter Tryd.func28, Tryd.ntmps28
      go_wp2_with fail
      go_quiet (first | (go_at_call_of 37 (Value.string e); exact Calls.quiet_of_same (unhide c1 _)) | (go_at_call_of 37 (Value.string E); exact Calls.quiet_of_same (unhide c2 _)) | (go_at_call 36; refine (unhide c3 _).mono ?_; rintro e w'' ⟨rfl, n9, rfl⟩; exact ⟨rfl, _, by rw [World.drewN_drewN]⟩))
      go_wp2_with fail
      refine (unhide c4 _).mono ?_
      rintro x w1 ⟨rfl, n8, rfl⟩
      go_wp2_with fail
      go_ret
      exact ⟨ret_int64 (unhide HF2).symm, below_drewN (unhide HB) _⟩
  · have n1 : (x1 == 0) = false := by simpa using e1
    have HF1 := hide ((unhide HF).trans (if_neg e1))
    clear e1 HF
    go_enter Tryd.func28, Tryd.ntmps28
    go_wp2_with fail
    go_quiet (first | (go_at_call_of 37 (Value.string e); exact Calls.quiet_of_same (unhide c1 _)) | (go_at_call_of 37 (Value.string E); exact Calls.quiet_of_same (unhide c2 _)) | (go_at_call 36; refine (unhide c3 _).mono ?_; rintro e w'' ⟨rfl, n9, rfl⟩; exact ⟨rfl, _, by rw [World.drewN_drewN]⟩))
    go_wp2_with fail
    go_ret
    exact ⟨ret_int64 (unhide HF1).symm, below_drewN (unhide HB) _⟩

theorem ordG_dig (v w : Ver) (h1 : allB (kind 41) v.e = true) (h2 : allB (kind 41) w.e = true) : ordG v w = ordV v w := by
  unfold ordG ordV
  rw [digs_dig _ h1, digs_dig _ h2]

end Go.Proofs.YtmckmeoondlcpaaDoor
