import Derived.Test.YtmckmeoondlcpaaDoorRef8
import Derived.Test.YtmckmeoondlcpaaDoorFits
namespace Go.Proofs.YtmckmeoondlcpaaDoor
open Go.RowKit

theorem ret_bi {a b : Bool} {n : Int} (h : a = b) : Ending.returned (.tuple #[.bool a, .int .i64 n]) = .returned (.tuple #[.bool b, .int .i64 n]) := by rw [h]

theorem parse_small (s : ByteArray) : (parse s).1.e.size ≤ 256 := by
  unfold parse
  split
  · exact Nat.zero_le _
  · split
    · exact Nat.le_trans (cut_size s).1 (by omega)
    · exact Nat.zero_le _

/-- THE PARTS OF A TEXT, AS THE WALKS TAKE THEM. -/
theorem rorder_parsed (a b : ByteArray) (ha : a.size ≤ maxLen) (hb : b.size ≤ maxLen) (e u r : ByteArray) (c d : Bool) (n : Int) (E U R : ByteArray) (C D : Bool) (m : Int)
    (h1 : parse a = (⟨e, u, r, c, d⟩, n)) (h2 : parse b = (⟨E, U, R, C, D⟩, m)) (w : World) :
    Calls Tryd.prog 28 #[.agg #[.string e, .string u, .string r, .bool c, .bool d], .agg #[.string E, .string U, .string R, .bool C, .bool D]] w fun x w' =>
      x = .returned (.int .i64 (ordV ⟨e, u, r, c, d⟩ ⟨E, U, R, C, D⟩)) ∧ Below w.heap.size w w' := by
  have z1 := parse_size a ha
  have z2 := parse_size b hb
  have d1 := parse_dig a
  have d2 := parse_dig b
  rw [h1] at z1 d1
  rw [h2] at z2 d2
  have g1 := parse_small a
  have g2 := parse_small b
  rw [h1] at g1
  rw [h2] at g2
  have := rOrder_any e u r c d E U R C D (by have : e.size ≤ 256 := g1
                                             omega) z1.2.1 z1.2.2 (by have : E.size ≤ 256 := g2
                                                                      omega) z2.2.1 z2.2.2 w
  rw [ordG_dig _ _ d1 d2] at this
  exact this

set_option maxHeartbeats 2000000 in
theorem rCompare_any (a b : ByteArray) (ha : a.size ≤ maxLen) (hb : b.size ≤ maxLen) (x0 n0 : Int) (h : cmpT a b = (x0, n0)) (w : World) :
    Calls Tryd.prog 23 #[.string a, .string b] w fun x w' => x = .returned (.tuple #[.int .i64 x0, .int .i64 n0]) ∧ Below w.heap.size w w' := by
  rcases hp : parse a with ⟨⟨e, u, r, c, d⟩, n⟩
  rcases hq : parse b with ⟨⟨E, U, R, C, D⟩, m⟩
  have c1 := hide (fun w => rParse_any a ha e u r c d n hp w)
  have c2 := hide (fun w => rParse_any b hb E U R C D m hq w)
  have c3 := hide (fun w => rorder_parsed a b ha hb e u r c d n E U R C D m hp hq w)
  unfold cmpT at h
  rw [hp, hq] at h
  simp only at h
  clear hp hq ha hb
  by_cases e1 : n = 0
  · subst e1
    rw [if_pos rfl] at h
    by_cases e2 : m = 0
    · subst e2
      rw [if_pos rfl] at h
      cases h
      generalize ordV ⟨e, u, r, c, d⟩ ⟨E, U, R, C, D⟩ = res at *
      go_enter Tryd.func23, Tryd.ntmps23
      go_wp2_with fail
      refine (unhide c1 _).mono ?_
      rintro x w1 ⟨rfl, hb1⟩
      have hz1 := hb1.size
      have hb1' := hide hb1
      clear hb1
      go_wp2_with fail
      refine (unhide c2 _).mono ?_
      rintro x w2 ⟨rfl, hb2⟩
      have hz2 := hb2.size
      have hb2' := hide hb2
      obtain ⟨hc2, hf2⟩ := bcell hb2
      clear hb2
      simp at hz2
      have q1 : w1.heap.size < w2.heap.size := by omega
      go_wp2_with fail
      refine (unhide c3 _).mono ?_
      rintro x w3 ⟨rfl, hb3⟩
      have hb3' := hide hb3
      clear hb3
      go_wp2_with fail
      go_ret2
      exact ⟨rfl, (((((unhide hb1').alloc (by omega) _).trans ((unhide hb2').mono (by simp; omega))).alloc (by omega) _).trans ((unhide hb3').mono (by simp; omega)))⟩
    · rw [if_neg e2] at h
      cases h
      have n2 : (n0 != 0) = true := by simpa using e2
      clear e2
      go_enter Tryd.func23, Tryd.ntmps23
      go_wp2_with fail
      refine (unhide c1 _).mono ?_
      rintro x w1 ⟨rfl, hb1⟩
      have hz1 := hb1.size
      have hb1' := hide hb1
      clear hb1
      go_wp2_with fail
      refine (unhide c2 _).mono ?_
      rintro x w2 ⟨rfl, hb2⟩
      have hz2 := hb2.size
      have hb2' := hide hb2
      clear hb2
      simp at hz2
      go_wp2_with fail
      go_ret2
      exact ⟨rfl, (((unhide hb1').alloc (by omega) _).trans ((unhide hb2').mono (by simp; omega))).alloc (by omega) _⟩
  · rw [if_neg e1] at h
    cases h
    have n1 : (n0 != 0) = true := by simpa using e1
    clear e1
    go_enter Tryd.func23, Tryd.ntmps23
    go_wp2_with fail
    refine (unhide c1 _).mono ?_
    rintro x w1 ⟨rfl, hb1⟩
    have hz1 := hb1.size
    have hb1' := hide hb1
    clear hb1
    go_wp2_with fail
    go_ret2
    exact ⟨rfl, (unhide hb1').alloc (by omega) _⟩

end Go.Proofs.YtmckmeoondlcpaaDoor
