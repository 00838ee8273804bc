import Derived.Test.YtcdajbfoneifaaaDoorOrder
namespace Go.Proofs.YtcdajbfoneifaaaDoor
open Go.RowKit

theorem isEmpty_sz (s : ByteArray) : s.toList.isEmpty = decide (s.size = 0) := by
  have h : s.data.toList.length = s.size := by simp
  rw [Lib.toList_data, Bool.eq_iff_iff, List.isEmpty_iff, ← List.length_eq_zero_iff, h, decide_eq_true_eq]

theorem allB_nob (p : Int → Bool) : allB p nob = true := rfl

theorem parse_dig (s : ByteArray) : allB (kind 29) (parse s).1.e = true := by
  unfold parse
  split
  · exact allB_nob _
  · split
    · rename_i h
      show allB _ (cut s).e = true
      cases hc : (cut s).c
      · have hi : Lib.indexByte s.data.toList 58 = -1 := by
          have h' : decide (Lib.indexByte s.data.toList 58 ≠ -1) = false := hc
          simpa using h'
        have he : (cut s).e = nob := by
          show (if _ then _ else _) = _
          rw [if_pos hi]
        rw [he]; exact allB_nob _
      · unfold chkV chk at h
        rw [hc] at h
        split at h
        · cases h
        · split at h
          · cases h
          · rename_i h2
            simp at h2
            exact h2.2
    · exact allB_nob _

theorem parse_size (s : ByteArray) (hs : s.size ≤ maxLen) : (parse s).1.e.size ≤ maxLen ∧ (parse s).1.u.size ≤ maxLen ∧ (parse s).1.r.size ≤ maxLen := by
  have h := cut_size s
  unfold parse
  split
  · exact ⟨Nat.zero_le _, Nat.zero_le _, Nat.zero_le _⟩
  · split
    · exact ⟨Nat.le_trans h.1 hs, Nat.le_trans h.2.1 hs, Nat.le_trans h.2.2 hs⟩
    · exact ⟨Nat.zero_le _, Nat.zero_le _, Nat.zero_le _⟩

/-- WHAT Compare ANSWERS. -/
def cmpT (a b : ByteArray) : Int × Int :=
  if (parse a).2 = 0 then (if (parse b).2 = 0 then (ordV (parse a).1 (parse b).1, 0) else (0, (parse b).2)) else (0, (parse a).2)

/-- THE PARTS OF A TEXT, AS THE WALKS TAKE THEM. -/
theorem order_parsed (a b : ByteArray) (ha : a.size ≤ maxLen) (hb : b.size ≤ maxLen) (e u r : ByteArray) (c d : Bool) (n : Int) (E U R : ByteArray) (C D : Bool) (m : Int)
    (h1 : parse a = (⟨e, u, r, c, d⟩, n)) (h2 : parse b = (⟨E, U, R, C, D⟩, m)) (w : World) :
    Calls Tryd.prog 17 #[.agg #[.string e, .string u, .string r, .bool c, .bool d], .agg #[.string E, .string U, .string R, .bool C, .bool D]] w fun x w' =>
      x = .returned (.int .i64 (ordV ⟨e, u, r, c, d⟩ ⟨E, U, R, C, D⟩)) ∧ Below w.heap.size w w' := by
  have z1 := parse_size a ha
  have z2 := parse_size b hb
  have d1 := parse_dig a
  have d2 := parse_dig b
  rw [h1] at z1 d1
  rw [h2] at z2 d2
  exact Order_dig e u r c d E U R C D z1.1 z1.2.1 z1.2.2 z2.1 z2.2.1 z2.2.2 d1 d2 w

set_option maxHeartbeats 2000000 in
theorem Compare_any (a b : ByteArray) (ha : a.size ≤ maxLen) (hb : b.size ≤ maxLen) (x0 n0 : Int) (h : cmpT a b = (x0, n0)) (w : World) :
    Calls Tryd.prog 8 #[.string a, .string b] w fun x w' => x = .returned (.tuple #[.int .i64 x0, .int .i64 n0]) ∧ Below w.heap.size w w' := by
  rcases hp : parse a with ⟨⟨e, u, r, c, d⟩, n⟩
  rcases hq : parse b with ⟨⟨E, U, R, C, D⟩, m⟩
  have c1 := hide (fun w => Parse_any a ha e u r c d n hp w)
  have c2 := hide (fun w => Parse_any b hb E U R C D m hq w)
  have c3 := hide (fun w => order_parsed a b ha hb e u r c d n E U R C D m hp hq w)
  unfold cmpT at h
  rw [hp, hq] at h
  simp only at h
  clear hp hq ha hb
  by_cases e1 : n = 0
  · subst e1
    rw [if_pos rfl] at h
    by_cases e2 : m = 0
    · subst e2
      rw [if_pos rfl] at h
      cases h
      generalize ordV ⟨e, u, r, c, d⟩ ⟨E, U, R, C, D⟩ = res at *
      go_enter Tryd.func8, Tryd.ntmps8
      go_wp2_with fail
      refine (unhide c1 _).mono ?_
      rintro x w1 ⟨rfl, hb1⟩
      have hz1 := hb1.size
      have hb1' := hide hb1
      clear hb1
      go_wp2_with fail
      refine (unhide c2 _).mono ?_
      rintro x w2 ⟨rfl, hb2⟩
      have hz2 := hb2.size
      have hb2' := hide hb2
      obtain ⟨hc2, hf2⟩ := bcell hb2
      clear hb2
      simp at hz2
      have q1 : w1.heap.size < w2.heap.size := by omega
      go_wp2_with fail
      refine (unhide c3 _).mono ?_
      rintro x w3 ⟨rfl, hb3⟩
      have hb3' := hide hb3
      clear hb3
      go_wp2_with fail
      go_ret2
      exact ⟨rfl, (((((unhide hb1').alloc (by omega) _).trans ((unhide hb2').mono (by simp; omega))).alloc (by omega) _).trans ((unhide hb3').mono (by simp; omega)))⟩
    · rw [if_neg e2] at h
      cases h
      have n2 : (n0 != 0) = true := by simpa using e2
      clear e2
      go_enter Tryd.func8, Tryd.ntmps8
      go_wp2_with fail
      refine (unhide c1 _).mono ?_
      rintro x w1 ⟨rfl, hb1⟩
      have hz1 := hb1.size
      have hb1' := hide hb1
      clear hb1
      go_wp2_with fail
      refine (unhide c2 _).mono ?_
      rintro x w2 ⟨rfl, hb2⟩
      have hz2 := hb2.size
      have hb2' := hide hb2
      clear hb2
      simp at hz2
      go_wp2_with fail
      go_ret2
      exact ⟨rfl, (((unhide hb1').alloc (by omega) _).trans ((unhide hb2').mono (by simp; omega))).alloc (by omega) _⟩
  · rw [if_neg e1] at h
    cases h
    have n1 : (n0 != 0) = true := by simpa using e1
    clear e1
    go_enter Tryd.func8, Tryd.ntmps8
    go_wp2_with fail
    refine (unhide c1 _).mono ?_
    rintro x w1 ⟨rfl, hb1⟩
    have hz1 := hb1.size
    have hb1' := hide hb1
    clear hb1
    go_wp2_with fail
    go_ret2
    exact ⟨rfl, (unhide hb1').alloc (by omega) _⟩

set_option maxHeartbeats 1000000 in
theorem below_yes (a b : ByteArray) (ha : a.size ≤ maxLen) (hb : b.size ≤ maxLen) (h : cmpT a b = (-1, 0)) (w : World) :
    Calls Tryd.prog 14 #[.string a, .string b] w fun x w' => x = .returned (.bool true) ∧ Below w.heap.size w w' := by
  have c1 := hide (fun w => Compare_any a b ha hb _ _ h w)
  clear h ha hb
  go_enter Tryd.func14, Tryd.ntmps14
  go_wp2_with fail
  refine (unhide c1 _).mono ?_
  rintro x w1 ⟨rfl, hb1⟩
  have hb1' := hide hb1
  clear hb1
  go_wp2_with fail
  go_ret
  exact ⟨rfl, unhide hb1'⟩

set_option maxHeartbeats 1000000 in
theorem alive_any (w : World) :
    Calls Tryd.prog 5 #[] w fun x w' => x = .returned (.bool true) ∧ Below w.heap.size w w' := by
  have c1 := hide (fun w => below_yes ⟨#[49, 46, 48, 126, 114, 99, 49]⟩ ⟨#[49, 46, 48]⟩ (by decide) (by decide) (by decide +kernel) w)
  have c2 := hide (fun w => below_yes ⟨#[57]⟩ ⟨#[49, 48]⟩ (by decide) (by decide) (by decide +kernel) w)
  have c3 := hide (fun w => below_yes ⟨#[49, 46, 48, 97]⟩ ⟨#[49, 46, 48, 43]⟩ (by decide) (by decide) (by decide +kernel) w)
  have c4 := hide (fun w => below_yes ⟨#[57]⟩ ⟨#[48, 58, 49, 48]⟩ (by decide) (by decide) (by decide +kernel) w)
  have c5 := hide (fun w => below_yes ⟨#[57, 57]⟩ ⟨#[49, 58, 48]⟩ (by decide) (by decide) (by decide +kernel) w)
  go_enter Tryd.func5, Tryd.ntmps5
  go_wp2_with fail
  refine (unhide c1 _).mono ?_
  rintro x w1 ⟨rfl, hb1⟩
  have hz1 := hb1.size
  have hb1' := hide hb1
  clear hb1
  go_wp2_with fail
  refine (unhide c2 _).mono ?_
  rintro x w2 ⟨rfl, hb2⟩
  have hz2 := hb2.size
  have hb2' := hide hb2
  clear hb2
  go_wp2_with fail
  refine (unhide c3 _).mono ?_
  rintro x w3 ⟨rfl, hb3⟩
  have hz3 := hb3.size
  have hb3' := hide hb3
  clear hb3
  go_wp2_with fail
  refine (unhide c4 _).mono ?_
  rintro x w4 ⟨rfl, hb4⟩
  have hz4 := hb4.size
  have hb4' := hide hb4
  clear hb4
  go_wp2_with fail
  refine (unhide c5 _).mono ?_
  rintro x w5 ⟨rfl, hb5⟩
  have hb5' := hide hb5
  clear hb5
  go_wp2_with fail
  go_ret
  exact ⟨rfl, ((((unhide hb1').trans ((unhide hb2').mono (by omega))).trans ((unhide hb3').mono (by omega))).trans ((unhide hb4').mono (by omega))).trans ((unhide hb5').mono (by omega))⟩

end Go.Proofs.YtcdajbfoneifaaaDoor
