import Derived.Test.YtmckmeoondlcpaaDoorCompare
namespace Go.Proofs.YtmckmeoondlcpaaDoor
open Go.RowKit

def holdsB (d op : Int) : Bool := if (op == 1) = true then decide (d < 0) else if (op == 2) = true then decide (d ≤ 0) else if (op == 3) = true then (d == 0) else if (op == 4) = true then decide (0 ≤ d) else decide (0 < d)

set_option maxHeartbeats 1000000 in
theorem holds_any (d op : Int) (w : World) :
    Calls Tryd.prog 25 #[.int .i64 d, .int .i64 op] w fun x w' => x = .returned (.bool (holdsB d op)) ∧ w' = w := by
  cases h1 : (op == 1) <;> cases h2 : (op == 2) <;> cases h3 : (op == 3) <;> cases h4 : (op == 4)
  all_goals
    go_enter Tryd.func25, Tryd.ntmps25
    go_wp2
    go_ret
    exact ⟨ret_bool (by simp only [holdsB, h1, h2, h3, h4]; rfl), rfl⟩

/-- WHAT Fits ANSWERS. -/
def fitsT (s : ByteArray) (op : Int) (b : ByteArray) : Bool × Int :=
  if 0 ≤ op ∧ op ≤ 5 then
    if (parse s).2 = 0 then
      if op = 0 then (true, 0)
      else if (parse b).2 = 0 then (holdsB (ordV (parse s).1 (parse b).1) op, 0) else (false, (parse b).2)
    else (false, (parse s).2)
  else (false, 1)

set_option maxHeartbeats 2000000 in
theorem Fits_any (a : ByteArray) (op : Int) (b : ByteArray) (ha : a.size ≤ maxLen) (hb : b.size ≤ maxLen) (x0 : Bool) (n0 : Int) (h : fitsT a op b = (x0, n0)) (w : World) :
    Calls Tryd.prog 21 #[.string a, .int .i64 op, .string b] w fun x w' => x = .returned (.tuple #[.bool x0, .int .i64 n0]) ∧ Below w.heap.size w w' := by
  rcases hp : parse a with ⟨⟨e, u, r, c, d⟩, n⟩
  rcases hq : parse b with ⟨⟨E, U, R, C, D⟩, m⟩
  have c1 := hide (fun w => Parse_any a ha e u r c d n hp w)
  have c2 := hide (fun w => Parse_any b hb E U R C D m hq w)
  have c3 := hide (fun w => order_parsed a b ha hb e u r c d n E U R C D m hp hq w)
  unfold fitsT at h
  rw [hp, hq] at h
  simp only at h
  clear hp hq ha hb
  by_cases h0 : 0 ≤ op ∧ op ≤ 5
  · rw [if_pos h0] at h
    obtain ⟨o1, o2⟩ := h0
    by_cases e1 : n = 0
    · subst e1
      rw [if_pos rfl] at h
      by_cases eo : op = 0
      · subst eo
        rw [if_pos rfl] at h
        cases h
        go_enter Tryd.func21, Tryd.ntmps21
        go_wp2_with fail
        refine (unhide c1 _).mono ?_
        rintro x w1 ⟨rfl, hb1⟩
        have hz1 := hb1.size
        have hb1' := hide hb1
        clear hb1
        go_wp2_with fail
        go_ret2
        exact ⟨rfl, (unhide hb1').alloc (by omega) _⟩
      · rw [if_neg eo] at h
        have ho : (op == 0) = false := by simpa using eo
        by_cases e2 : m = 0
        · subst e2
          rw [if_pos rfl] at h
          cases h
          have c4 := hide (fun w => holds_any (ordV ⟨e, u, r, c, d⟩ ⟨E, U, R, C, D⟩) op w)
          generalize holdsB (ordV ⟨e, u, r, c, d⟩ ⟨E, U, R, C, D⟩) op = bb at *
          generalize ordV ⟨e, u, r, c, d⟩ ⟨E, U, R, C, D⟩ = res at *
          clear eo
          go_enter Tryd.func21, Tryd.ntmps21
          go_wp2_with fail
          refine (unhide c1 _).mono ?_
          rintro x w1 ⟨rfl, hb1⟩
          have hz1 := hb1.size
          have hb1' := hide hb1
          clear hb1
          go_wp2_with fail
          refine (unhide c2 _).mono ?_
          rintro x w2 ⟨rfl, hb2⟩
          have hz2 := hb2.size
          have hb2' := hide hb2
          obtain ⟨hc2, hf2⟩ := bcell hb2
          clear hb2
          simp at hz2
          have q1 : w1.heap.size < w2.heap.size := by omega
          go_wp2_with fail
          refine (unhide c3 _).mono ?_
          rintro x w3 ⟨rfl, hb3⟩
          have hb3' := hide hb3
          clear hb3
          go_wp2_with fail
          refine (unhide c4 _).mono ?_
          rintro x w' ⟨rfl, rfl⟩
          go_wp2_with fail
          go_ret2
          exact ⟨rfl, (((((unhide hb1').alloc (by omega) _).trans ((unhide hb2').mono (by simp; omega))).alloc (by omega) _).trans ((unhide hb3').mono (by simp; omega)))⟩
        · rw [if_neg e2] at h
          cases h
          have n2 : (n0 != 0) = true := by simpa using e2
          clear e2 eo
          go_enter Tryd.func21, Tryd.ntmps21
          go_wp2_with fail
          refine (unhide c1 _).mono ?_
          rintro x w1 ⟨rfl, hb1⟩
          have hz1 := hb1.size
          have hb1' := hide hb1
          clear hb1
          go_wp2_with fail
          refine (unhide c2 _).mono ?_
          rintro x w2 ⟨rfl, hb2⟩
          have hz2 := hb2.size
          have hb2' := hide hb2
          clear hb2
          simp at hz2
          go_wp2_with fail
          go_ret2
          exact ⟨rfl, (((unhide hb1').alloc (by omega) _).trans ((unhide hb2').mono (by simp; omega))).alloc (by omega) _⟩
    · rw [if_neg e1] at h
      cases h
      have n1 : (n0 != 0) = true := by simpa using e1
      clear e1
      go_enter Tryd.func21, Tryd.ntmps21
      go_wp2_with fail
      refine (unhide c1 _).mono ?_
      rintro x w1 ⟨rfl, hb1⟩
      have hz1 := hb1.size
      have hb1' := hide hb1
      clear hb1
      go_wp2_with fail
      go_ret2
      exact ⟨rfl, (unhide hb1').alloc (by omega) _⟩
  · rw [if_neg h0] at h
    cases h
    clear c1 c2 c3
    by_cases o1 : op < 0
    · go_enter Tryd.func21, Tryd.ntmps21
      go_wp2
      all_goals go_ret2
      all_goals exact ⟨rfl, Below.refl _ _⟩
    · have o2 : 5 < op := by omega
      have o3 : 0 ≤ op := by omega
      clear h0 o1
      go_enter Tryd.func21, Tryd.ntmps21
      go_wp2
      all_goals go_ret2
      all_goals exact ⟨rfl, Below.refl _ _⟩

end Go.Proofs.YtmckmeoondlcpaaDoor
