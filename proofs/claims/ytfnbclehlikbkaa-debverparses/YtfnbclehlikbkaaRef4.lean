import Derived.Test.YtfnbclehlikbkaaRef3
namespace Go.Proofs.Ytfnbclehlikbkaa
open Go.RowKit

set_option maxHeartbeats 4000000 in
theorem rcheck_cmp (e u r : ByteArray) (c d : Bool) (E U R : ByteArray) (C D : Bool) (hc : c = true ∨ e.toList.isEmpty = true) (hd : d = true ∨ r.toList.isEmpty = true) (hsum : e.size + u.size + r.size + 2 ≤ 9223372036854775807)
    (hp : parse (join e u r c d) = (⟨E, U, R, C, D⟩, 0)) (w : World) :
    Calls Try.prog 15 #[.agg #[.string e, .string u, .string r, .bool c, .bool d]] w fun x w' => x = .returned (if eqv ⟨E, U, R, C, D⟩ ⟨e, u, r, c, d⟩ = true then .int .i64 0 else .int .i64 15) ∧ Below w.heap.size w w' := by
  have hj : (join e u r c d).size ≤ maxLen := by have := join_size e u r c d; unfold maxLen; omega
  have c1 := hide (fun w => rjoin_any e u r c d w hsum)
  have c2 := hide (fun w => rParse_any (join e u r c d) hj E U R C D 0 hp w)
  generalize join e u r c d = s at *
  clear hp hj
  have ce := fun c d w => cmp_neq E U R e u r C D c d w
  cases hq : eqv ⟨E, U, R, C, D⟩ ⟨e, u, r, c, d⟩ <;> cases h1 : e.toList.isEmpty <;> cases h2 : r.toList.isEmpty <;> cases c <;> cases d <;> simp [h1, h2] at hc hd <;> clear hc hd
  all_goals
    go_enter Try.func15, Try.ntmps15
    go_wp2_with fail
    refine (unhide c1 _).mono ?_
    rintro x w1 ⟨rfl, hb1⟩
    have hz1 := hb1.size
    have hb1' := hide hb1
    obtain ⟨hc1, hf1⟩ := bcell hb1
    clear hb1
    simp at hz1
    go_wp2_with fail
    refine (unhide c2 _).mono ?_
    rintro x w2 ⟨rfl, hb2⟩
    have hz2 := hb2.size
    have hb2' := hide hb2
    obtain ⟨hc2, hf2⟩ := bcell hb2
    clear hb2
    have q1 : w.heap.size < w1.heap.size := by omega
    have q2 : w.heap.size < w2.heap.size := by omega
    have hB : Below w.heap.size w w2 := (((Below.refl _ w).alloc (Nat.le_refl _) _).trans ((unhide hb1').mono (by simp))).trans ((unhide hb2').mono (by omega))
    have hB' := hide hB
    clear hB
    go_wp2_with fail
    all_goals go_ret
    all_goals exact ⟨rfl, (unhide hB').alloc (by omega) _⟩

set_option maxHeartbeats 4000000 in
theorem rcheck_err (e u r : ByteArray) (c d : Bool) (E U R : ByteArray) (C D : Bool) (n : Int) (hn : n ≠ 0) (hc : c = true ∨ e.toList.isEmpty = true) (hd : d = true ∨ r.toList.isEmpty = true) (hsum : e.size + u.size + r.size + 2 ≤ 9223372036854775807)
    (hp : parse (join e u r c d) = (⟨E, U, R, C, D⟩, n)) (w : World) :
    Calls Try.prog 15 #[.agg #[.string e, .string u, .string r, .bool c, .bool d]] w fun x w' => x = .returned (.int .i64 n) ∧ Below w.heap.size w w' := by
  have hj : (join e u r c d).size ≤ maxLen := by have := join_size e u r c d; unfold maxLen; omega
  have c1 := hide (fun w => rjoin_any e u r c d w hsum)
  have c2 := hide (fun w => rParse_any (join e u r c d) hj E U R C D n hp w)
  generalize join e u r c d = s at *
  clear hp hj
  have hn' : (n != 0) = true := by simpa using hn
  clear hn
  cases h1 : e.toList.isEmpty <;> cases h2 : r.toList.isEmpty <;> cases c <;> cases d <;> simp [h1, h2] at hc hd <;> clear hc hd
  all_goals
    go_enter Try.func15, Try.ntmps15
    go_wp2_with fail
    refine (unhide c1 _).mono ?_
    rintro x w1 ⟨rfl, hb1⟩
    have hz1 := hb1.size
    have hb1' := hide hb1
    obtain ⟨hc1, hf1⟩ := bcell hb1
    clear hb1
    simp at hz1
    go_wp2_with fail
    refine (unhide c2 _).mono ?_
    rintro x w2 ⟨rfl, hb2⟩
    have hz2 := hb2.size
    have hb2' := hide hb2
    have q2 : w.heap.size ≤ w2.heap.size := by omega
    have hB : Below w.heap.size w w2 := (((Below.refl _ w).alloc (Nat.le_refl _) _).trans ((unhide hb1').mono (by simp))).trans ((unhide hb2').mono (by omega))
    have hB' := hide hB
    clear hB hb2
    go_wp2_with fail
    all_goals go_ret
    all_goals exact ⟨rfl, (unhide hB').alloc (by omega) _⟩

set_option maxHeartbeats 1000000 in
theorem rcheck_arg (e u r : ByteArray) (c d : Bool) (h : ¬ ((c = true ∨ e.toList.isEmpty = true) ∧ (d = true ∨ r.toList.isEmpty = true))) (w : World) :
    Calls Try.prog 15 #[.agg #[.string e, .string u, .string r, .bool c, .bool d]] w fun x w' => x = .returned (.int .i64 1) ∧ Below w.heap.size w w' := by
  cases h1 : e.toList.isEmpty <;> cases h2 : r.toList.isEmpty <;> cases c <;> cases d <;> simp [h1, h2] at h
  all_goals
    go_enter Try.func15, Try.ntmps15
    go_wp2
    all_goals go_ret
    all_goals exact ⟨rfl, (Below.refl _ w).alloc (Nat.le_refl _) _⟩

theorem rCheck_any (e u r : ByteArray) (c d : Bool) (hsum : e.size + u.size + r.size + 2 ≤ 9223372036854775807) (t : ByteArray) (n : Int) (h : text e u r c d = (t, n)) (w : World) :
    Calls Try.prog 15 #[.agg #[.string e, .string u, .string r, .bool c, .bool d]] w fun x w' => x = .returned (.int .i64 n) ∧ Below w.heap.size w w' := by
  unfold text at h
  by_cases ha : (c = true ∨ e.toList.isEmpty = true) ∧ (d = true ∨ r.toList.isEmpty = true)
  · rw [if_pos ha] at h
    rcases hp : parse (join e u r c d) with ⟨⟨E, U, R, C, D⟩, m⟩
    rw [hp] at h
    simp only at h
    by_cases hm : m = 0
    · subst hm
      rw [if_pos rfl] at h
      have := rcheck_cmp e u r c d E U R C D ha.1 ha.2 hsum hp w
      by_cases hq : eqv ⟨E, U, R, C, D⟩ ⟨e, u, r, c, d⟩ = true
      · rw [if_pos hq] at h this
        cases h
        exact this
      · rw [if_neg hq] at h this
        cases h
        exact this
    · rw [if_neg hm] at h
      cases h
      exact rcheck_err e u r c d E U R C D _ hm ha.1 ha.2 hsum hp w
  · rw [if_neg ha] at h
    cases h
    exact rcheck_arg e u r c d ha w


theorem text_ok (e u r : ByteArray) (c d : Bool) (t : ByteArray) (n : Int) (h : text e u r c d = (t, n)) : (n = 0 ∧ t = join e u r c d) ∨ (n ≠ 0 ∧ t = nob) := by
  unfold text at h
  split at h
  · split at h
    · split at h
      · cases h; exact .inl ⟨rfl, rfl⟩
      · cases h; exact .inr ⟨by decide, rfl⟩
    · rename_i hh; cases h; exact .inr ⟨hh, rfl⟩
  · cases h; exact .inr ⟨by decide, rfl⟩

set_option maxHeartbeats 1000000 in
theorem rText_any (e u r : ByteArray) (c d : Bool) (hsum : e.size + u.size + r.size + 2 ≤ 9223372036854775807) (t : ByteArray) (n : Int) (h : text e u r c d = (t, n)) (w : World) :
    Calls Try.prog 13 #[.agg #[.string e, .string u, .string r, .bool c, .bool d]] w fun x w' => x = .returned (.tuple #[.string t, .int .i64 n]) ∧ Below w.heap.size w w' := by
  have c1 := hide (fun w => rCheck_any e u r c d hsum t n h w)
  have c2 := hide (fun w => rjoin_any e u r c d w hsum)
  rcases text_ok e u r c d t n h with ⟨rfl, rfl⟩ | ⟨hn, rfl⟩
  · clear h
    generalize join e u r c d = s at *
    go_enter Try.func13, Try.ntmps13
    go_wp2_with fail
    refine (unhide c1 _).mono ?_
    rintro x w1 ⟨rfl, hb1⟩
    have hz1 := hb1.size
    have hb1' := hide hb1
    obtain ⟨hc1, hf1⟩ := bcell hb1
    clear hb1
    simp at hz1
    go_wp2_with fail
    refine (unhide c2 _).mono ?_
    rintro x w2 ⟨rfl, hb2⟩
    have hb2' := hide hb2
    clear hb2
    go_wp2_with fail
    go_ret2
    exact ⟨rfl, (((Below.refl _ w).alloc (Nat.le_refl _) _).trans ((unhide hb1').mono (by simp))).trans ((unhide hb2').mono (by omega))⟩
  · have hn' : (n != 0) = true := by simpa using hn
    clear hn h
    go_enter Try.func13, Try.ntmps13
    go_wp2_with fail
    refine (unhide c1 _).mono ?_
    rintro x w1 ⟨rfl, hb1⟩
    have hb1' := hide hb1
    clear hb1
    go_wp2_with fail
    go_ret2
    exact ⟨rfl, ((Below.refl _ w).alloc (Nat.le_refl _) _).trans ((unhide hb1').mono (by simp))⟩

end Go.Proofs.Ytfnbclehlikbkaa
