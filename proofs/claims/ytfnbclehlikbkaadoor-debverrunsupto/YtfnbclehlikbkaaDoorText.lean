import Derived.Test.YtfnbclehlikbkaaDoorParse
namespace Go.Proofs.YtfnbclehlikbkaaDoor
open Go.RowKit

def eqv (v w : Ver) : Bool := (v.e.toList == w.e.toList) && (v.u.toList == w.u.toList) && (v.r.toList == w.r.toList) && (v.c == w.c) && (v.d == w.d)

set_option maxHeartbeats 1000000 in
theorem cmp_eql (E U R e u r : ByteArray) (C D c d : Bool) (w : World) :
    (binOp .eql 24 (.agg #[.string E, .string U, .string R, .bool C, .bool D]) (.agg #[.string e, .string u, .string r, .bool c, .bool d])).run Tryd.prog w = .ok (.bool (eqv ⟨E, U, R, C, D⟩ ⟨e, u, r, c, d⟩)) w := by
  cases h1 : (E.toList == e.toList) <;> cases h2 : (U.toList == u.toList) <;> cases h3 : (R.toList == r.toList) <;> cases h4 : (C == c) <;> cases h5 : (D == d)
  all_goals
    go_simp
    unfold eqv
    simp only [h1, h2, h3, h4, h5]
    rfl

theorem cmp_neq (E U R e u r : ByteArray) (C D c d : Bool) (w : World) :
    (binOp .neq 24 (.agg #[.string E, .string U, .string R, .bool C, .bool D]) (.agg #[.string e, .string u, .string r, .bool c, .bool d])).run Tryd.prog w = .ok (.bool (!eqv ⟨E, U, R, C, D⟩ ⟨e, u, r, c, d⟩)) w := by
  have h := cmp_eql E U R e u r C D c d w
  rw [run_eql_struct] at h
  rw [run_neq_struct]
  generalize (Op.equalIn 10000 24 (.agg #[.string E, .string U, .string R, .bool C, .bool D]) (.agg #[.string e, .string u, .string r, .bool c, .bool d])).run Tryd.prog w = z at h ⊢
  cases z with
  | ok b w' => simp only [Result.andThen] at h ⊢; cases h; rfl
  | halt x w' => simp [Result.andThen] at h

theorem join_size (e u r : ByteArray) (c d : Bool) : (join e u r c d).size ≤ e.size + u.size + r.size + 2 := by
  unfold join pre
  cases c <;> cases d <;> simp [ByteArray.size_append] <;> (try (show _ ≤ _; have h1 : (⟨#[58]⟩ : ByteArray).size = 1 := rfl; have h2 : (⟨#[45]⟩ : ByteArray).size = 1 := rfl)) <;> omega

set_option maxHeartbeats 4000000 in
theorem text_cmp (e u r : ByteArray) (c d : Bool) (E U R : ByteArray) (C D : Bool) (hc : c = true ∨ e.toList.isEmpty = true) (hd : d = true ∨ r.toList.isEmpty = true) (hsum : e.size + u.size + r.size + 2 ≤ 9223372036854775807)
    (hp : parse (join e u r c d) = (⟨E, U, R, C, D⟩, 0)) (w : World) :
    Calls Tryd.prog 18 #[.agg #[.string e, .string u, .string r, .bool c, .bool d]] w fun x w' => x = .returned (if eqv ⟨E, U, R, C, D⟩ ⟨e, u, r, c, d⟩ = true then .tuple #[.string (join e u r c d), .int .i64 0] else .tuple #[.string nob, .int .i64 15]) ∧ Below w.heap.size w w' := by
  have hj : (join e u r c d).size ≤ maxLen := by have := join_size e u r c d; unfold maxLen; omega
  have c1 := hide (fun w => join_any e u r c d w hsum)
  have c2 := hide (fun w => Parse_any (join e u r c d) hj E U R C D 0 hp w)
  generalize join e u r c d = s at *
  clear hp hj
  have ce := fun c d w => cmp_neq E U R e u r C D c d w
  cases hq : eqv ⟨E, U, R, C, D⟩ ⟨e, u, r, c, d⟩ <;> cases h1 : e.toList.isEmpty <;> cases h2 : r.toList.isEmpty <;> cases c <;> cases d <;> simp [h1, h2] at hc hd <;> clear hc hd
  all_goals
    go_enter Tryd.func18, Tryd.ntmps18
    go_wp2_with fail
    refine (unhide c1 _).mono ?_
    rintro x w1 ⟨rfl, hb1⟩
    have hz1 := hb1.size
    have hb1' := hide hb1
    obtain ⟨hc1, hf1⟩ := bcell hb1
    clear hb1
    simp at hz1
    go_wp2_with fail
    refine (unhide c2 _).mono ?_
    rintro x w2 ⟨rfl, hb2⟩
    have hz2 := hb2.size
    have hb2' := hide hb2
    obtain ⟨hc2, hf2⟩ := bcell hb2
    clear hb2
    have q1 : w.heap.size < w1.heap.size := by omega
    have q2 : w.heap.size < w2.heap.size := by omega
    have hB : Below w.heap.size w w2 := (((Below.refl _ w).alloc (Nat.le_refl _) _).trans ((unhide hb1').mono (by simp))).trans ((unhide hb2').mono (by omega))
    have hB' := hide hB
    clear hB
    go_wp2_with fail
    all_goals go_ret2
    all_goals exact ⟨rfl, (unhide hB').alloc (by omega) _⟩

set_option maxHeartbeats 4000000 in
theorem text_err (e u r : ByteArray) (c d : Bool) (E U R : ByteArray) (C D : Bool) (n : Int) (hn : n ≠ 0) (hc : c = true ∨ e.toList.isEmpty = true) (hd : d = true ∨ r.toList.isEmpty = true) (hsum : e.size + u.size + r.size + 2 ≤ 9223372036854775807)
    (hp : parse (join e u r c d) = (⟨E, U, R, C, D⟩, n)) (w : World) :
    Calls Tryd.prog 18 #[.agg #[.string e, .string u, .string r, .bool c, .bool d]] w fun x w' => x = .returned (.tuple #[.string nob, .int .i64 n]) ∧ Below w.heap.size w w' := by
  have hj : (join e u r c d).size ≤ maxLen := by have := join_size e u r c d; unfold maxLen; omega
  have c1 := hide (fun w => join_any e u r c d w hsum)
  have c2 := hide (fun w => Parse_any (join e u r c d) hj E U R C D n hp w)
  generalize join e u r c d = s at *
  clear hp hj
  have hn' : (n != 0) = true := by simpa using hn
  clear hn
  cases h1 : e.toList.isEmpty <;> cases h2 : r.toList.isEmpty <;> cases c <;> cases d <;> simp [h1, h2] at hc hd <;> clear hc hd
  all_goals
    go_enter Tryd.func18, Tryd.ntmps18
    go_wp2_with fail
    refine (unhide c1 _).mono ?_
    rintro x w1 ⟨rfl, hb1⟩
    have hz1 := hb1.size
    have hb1' := hide hb1
    obtain ⟨hc1, hf1⟩ := bcell hb1
    clear hb1
    simp at hz1
    go_wp2_with fail
    refine (unhide c2 _).mono ?_
    rintro x w2 ⟨rfl, hb2⟩
    have hz2 := hb2.size
    have hb2' := hide hb2
    have q2 : w.heap.size ≤ w2.heap.size := by omega
    have hB : Below w.heap.size w w2 := (((Below.refl _ w).alloc (Nat.le_refl _) _).trans ((unhide hb1').mono (by simp))).trans ((unhide hb2').mono (by omega))
    have hB' := hide hB
    clear hB hb2
    go_wp2_with fail
    all_goals go_ret2
    all_goals exact ⟨rfl, (unhide hB').alloc (by omega) _⟩

set_option maxHeartbeats 1000000 in
theorem text_arg (e u r : ByteArray) (c d : Bool) (h : ¬ ((c = true ∨ e.toList.isEmpty = true) ∧ (d = true ∨ r.toList.isEmpty = true))) (w : World) :
    Calls Tryd.prog 18 #[.agg #[.string e, .string u, .string r, .bool c, .bool d]] w fun x w' => x = .returned (.tuple #[.string nob, .int .i64 1]) ∧ Below w.heap.size w w' := by
  cases h1 : e.toList.isEmpty <;> cases h2 : r.toList.isEmpty <;> cases c <;> cases d <;> simp [h1, h2] at h
  all_goals
    go_enter Tryd.func18, Tryd.ntmps18
    go_wp2
    all_goals go_ret2
    all_goals exact ⟨rfl, (Below.refl _ w).alloc (Nat.le_refl _) _⟩

/-- WHAT Text ANSWERS. -/
def text (e u r : ByteArray) (c d : Bool) : ByteArray × Int :=
  if (c = true ∨ e.toList.isEmpty = true) ∧ (d = true ∨ r.toList.isEmpty = true) then
    if (parse (join e u r c d)).2 = 0 then (if eqv (parse (join e u r c d)).1 ⟨e, u, r, c, d⟩ = true then (join e u r c d, 0) else (nob, 15)) else (nob, (parse (join e u r c d)).2)
  else (nob, 1)

theorem Text_any (e u r : ByteArray) (c d : Bool) (hsum : e.size + u.size + r.size + 2 ≤ 9223372036854775807) (t : ByteArray) (n : Int) (h : text e u r c d = (t, n)) (w : World) :
    Calls Tryd.prog 18 #[.agg #[.string e, .string u, .string r, .bool c, .bool d]] w fun x w' => x = .returned (.tuple #[.string t, .int .i64 n]) ∧ Below w.heap.size w w' := by
  unfold text at h
  by_cases ha : (c = true ∨ e.toList.isEmpty = true) ∧ (d = true ∨ r.toList.isEmpty = true)
  · rw [if_pos ha] at h
    rcases hp : parse (join e u r c d) with ⟨⟨E, U, R, C, D⟩, m⟩
    rw [hp] at h
    simp only at h
    by_cases hm : m = 0
    · subst hm
      rw [if_pos rfl] at h
      have := text_cmp e u r c d E U R C D ha.1 ha.2 hsum hp w
      by_cases hq : eqv ⟨E, U, R, C, D⟩ ⟨e, u, r, c, d⟩ = true
      · rw [if_pos hq] at h this
        cases h
        exact this
      · rw [if_neg hq] at h this
        cases h
        exact this
    · rw [if_neg hm] at h
      cases h
      exact text_err e u r c d E U R C D _ hm ha.1 ha.2 hsum hp w
  · rw [if_neg ha] at h
    cases h
    exact text_arg e u r c d ha w

set_option maxHeartbeats 1000000 in
theorem Check_any (e u r : ByteArray) (c d : Bool) (hsum : e.size + u.size + r.size + 2 ≤ 9223372036854775807) (t : ByteArray) (n : Int) (h : text e u r c d = (t, n)) (w : World) :
    Calls Tryd.prog 19 #[.agg #[.string e, .string u, .string r, .bool c, .bool d]] w fun x w' => x = .returned (.int .i64 n) ∧ Below w.heap.size w w' := by
  have c1 := hide (fun w => Text_any e u r c d hsum t n h w)
  clear h
  go_enter Tryd.func19, Tryd.ntmps19
  go_wp2_with fail
  refine (unhide c1 _).mono ?_
  rintro x w1 ⟨rfl, hb1⟩
  have hb1' := hide hb1
  clear hb1
  go_wp2_with fail
  go_ret
  exact ⟨rfl, ((Below.refl _ w).alloc (Nat.le_refl _) _).trans ((unhide hb1').mono (by simp))⟩

end Go.Proofs.YtfnbclehlikbkaaDoor
