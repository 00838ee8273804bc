import Derived.Test.YtfnbclehlikbkaaDoorDigits
import Derived.Test.YtfnbclehlikbkaaDoorLawFits
namespace Go.Proofs.YtfnbclehlikbkaaDoor
open Go.RowKit

theorem digitsOf_any (e : ByteArray) (he : e.size ≤ 140737488355328) (w : World) :
    Calls Tryd.prog 38 #[.string e] w fun x w' => x = .returned (.string (digs e)) ∧ Below w.heap.size w w' := by
  cases h : allB (kind 53) e
  · exact digitsOf_other e he h w
  · have := digitsOf_dig e (by unfold maxLen; omega) h w
    rw [digs_dig e h]
    exact this.mono fun x w' ⟨h1, h2⟩ => ⟨h1, h2 ▸ Below.refl _ _⟩

theorem keep10 {b b2 : Nat} {W W' : World} {v0 v1 v2 x0 x1 x2 : Value} (hb : Below W.heap.size W W') (hq : b < W.heap.size) (hq2 : b2 < W.heap.size)
    (k0 : W.cell? ⟨b, 0, none⟩ = some v0) (k1 : W.cell? ⟨b, 1, none⟩ = some v1) (k2 : W.cell? ⟨b, 2, none⟩ = some v2) (m0 : W.cell? ⟨b2, 0, none⟩ = some x0) (m1 : W.cell? ⟨b2, 1, none⟩ = some x1) (m2 : W.cell? ⟨b2, 2, none⟩ = some x2) :
    W'.cell? ⟨b, 0, none⟩ = some v0 ∧ W'.cell? ⟨b, 1, none⟩ = some v1 ∧ W'.cell? ⟨b, 2, none⟩ = some v2 ∧ W'.cell? ⟨b2, 0, none⟩ = some x0 ∧ W'.cell? ⟨b2, 1, none⟩ = some x1 ∧ W'.cell? ⟨b2, 2, none⟩ = some x2 ∧ b < W'.heap.size ∧ b2 < W'.heap.size :=
  ⟨(hb.cell (p := ⟨b, 0, none⟩) hq).trans k0, (hb.cell (p := ⟨b, 1, none⟩) hq).trans k1, (hb.cell (p := ⟨b, 2, none⟩) hq).trans k2, (hb.cell (p := ⟨b2, 0, none⟩) hq2).trans m0, (hb.cell (p := ⟨b2, 1, none⟩) hq2).trans m1, (hb.cell (p := ⟨b2, 2, none⟩) hq2).trans m2, Nat.lt_of_lt_of_le hq hb.size, Nat.lt_of_lt_of_le hq2 hb.size⟩

set_option maxHeartbeats 2000000 in
theorem Order_any (e u r : ByteArray) (c d : Bool) (E U R : ByteArray) (C D : Bool) (he : e.size ≤ 140737488355328) (hu : u.size ≤ maxLen) (hr : r.size ≤ maxLen) (hE : E.size ≤ 140737488355328) (hU : U.size ≤ maxLen) (hR : R.size ≤ maxLen) (w : World) :
    Calls Tryd.prog 17 #[.agg #[.string e, .string u, .string r, .bool c, .bool d], .agg #[.string E, .string U, .string R, .bool C, .bool D]] w fun x w' =>
      x = .returned (.int .i64 (ordG ⟨e, u, r, c, d⟩ ⟨E, U, R, C, D⟩)) ∧ Below w.heap.size w w' := by
  have HF := hide (show ordG ⟨e, u, r, c, d⟩ ⟨E, U, R, C, D⟩ = if ordNum (digs e) (digs E) = 0 then (if ordPart u U = 0 then ordPart r R else ordPart u U) else ordNum (digs e) (digs E) from rfl)
  have m1 : (digs e).size ≤ maxLen := Nat.le_trans (digs_size e) (by unfold maxLen; omega)
  have m2 : (digs E).size ≤ maxLen := Nat.le_trans (digs_size E) (by unfold maxLen; omega)
  have c1 := hide (fun w => digitsOf_any e he w)
  have c2 := hide (fun w => digitsOf_any E hE w)
  have c3 := hide (fun w => orderNumbers_any (digs e) (digs E) m1 m2 w)
  have c4 := hide (fun w => orderParts_any u U hu hU w)
  have c5 := hide (fun w => orderParts_any r R hr hR w)
  generalize ordG ⟨e, u, r, c, d⟩ ⟨E, U, R, C, D⟩ = res at *
  generalize ordNum (digs e) (digs E) = x1 at *
  generalize ordPart u U = x2 at *
  generalize ordPart r R = x3 at *
  generalize digs e = de at *
  generalize digs E = dE at *
  clear m1 m2 he hu hr hE hU hR
  have HB := hide (((Below.refl w.heap.size w).alloc (Nat.le_refl _) (.cells #[.string e, .string u, .string r, .bool c, .bool d] 24)).alloc (by simp) (.cells #[.string E, .string U, .string R, .bool C, .bool D] 24))
  have HK := hide (show ((w.alloc (.cells #[.string e, .string u, .string r, .bool c, .bool d] 24)).alloc (.cells #[.string E, .string U, .string R, .bool C, .bool D] 24)).cell? ⟨w.heap.size, 0, none⟩ = some (.string e) ∧ ((w.alloc (.cells #[.string e, .string u, .string r, .bool c, .bool d] 24)).alloc (.cells #[.string E, .string U, .string R, .bool C, .bool D] 24)).cell? ⟨w.heap.size, 1, none⟩ = some (.string u) ∧ ((w.alloc (.cells #[.string e, .string u, .string r, .bool c, .bool d] 24)).alloc (.cells #[.string E, .string U, .string R, .bool C, .bool D] 24)).cell? ⟨w.heap.size, 2, none⟩ = some (.string r) ∧ ((w.alloc (.cells #[.string e, .string u, .string r, .bool c, .bool d] 24)).alloc (.cells #[.string E, .string U, .string R, .bool C, .bool D] 24)).cell? ⟨w.heap.size + 1, 0, none⟩ = some (.string E) ∧ ((w.alloc (.cells #[.string e, .string u, .string r, .bool c, .bool d] 24)).alloc (.cells #[.string E, .string U, .string R, .bool C, .bool D] 24)).cell? ⟨w.heap.size + 1, 1, none⟩ = some (.string U) ∧ ((w.alloc (.cells #[.string e, .string u, .string r, .bool c, .bool d] 24)).alloc (.cells #[.string E, .string U, .string R, .bool C, .bool D] 24)).cell? ⟨w.heap.size + 1, 2, none⟩ = some (.string R) ∧ w.heap.size < ((w.alloc (.cells #[.string e, .string u, .string r, .bool c, .bool d] 24)).alloc (.cells #[.string E, .string U, .string R, .bool C, .bool D] 24)).heap.size ∧ w.heap.size + 1 < ((w.alloc (.cells #[.string e, .string u, .string r, .bool c, .bool d] 24)).alloc (.cells #[.string E, .string U, .string R, .bool C, .bool D] 24)).heap.size by
    refine ⟨?_, ?_, ?_, ?_, ?_, ?_, ?_, ?_⟩ <;> go_simp)
  go_enter Tryd.func17, Tryd.ntmps17
  go_wp2_with fail
  generalize (w.alloc (.cells #[.string e, .string u, .string r, .bool c, .bool d] 24)).alloc (.cells #[.string E, .string U, .string R, .bool C, .bool D] 24) = W0 at *
  obtain ⟨k0, k1, k2, l0, l1, l2, q0, q1⟩ := unhide HK
  clear HK
  go_region_with (first | (go_at_call_of 38 (Value.string e); refine (unhide c1 _).mono ?_; rintro x w1 ⟨rfl, hb1⟩; obtain ⟨g0, g1, g2, g3, g4, g5, g6, g7⟩ := keep10 hb1 (by simpa using q0) (by simpa using q1) (by simpa using k0) (by simpa using k1) (by simpa using k2) (by simpa using l0) (by simpa using l1) (by simpa using l2); have hb1' := hide hb1; clear hb1) | (go_at_call_of 38 (Value.string E); refine (unhide c2 _).mono ?_; rintro x w2 ⟨rfl, hb2⟩; obtain ⟨j0, j1, j2, j3, j4, j5, j6, j7⟩ := keep10 hb2 (by first | simpa using g6 | simpa using q0) (by first | simpa using g7 | simpa using q1) (by first | simpa using g0 | simpa using k0) (by first | simpa using g1 | simpa using k1) (by first | simpa using g2 | simpa using k2) (by first | simpa using g3 | simpa using l0) (by first | simpa using g4 | simpa using l1) (by first | simpa using g5 | simpa using l2); have hb2' := hide hb2; clear hb2) | (go_at_call 37; refine (unhide c3 _).mono ?_; rintro x w' ⟨rfl, rfl⟩))
  all_goals
    have HBB := hide ((((unhide HB).drew.trans ((unhide hb1').mono (by simp; omega))).trans ((unhide hb2').mono (by first | (simp; omega) | omega))))
    clear hb1' hb2' HB k0 k1 k2 l0 l1 l2 q0 q1 g0 g1 g2 g3 g4 g5 g6 g7 j0 j3 c1 c2 c3
    by_cases e1 : x1 = 0
    · have n1 : (x1 != 0) = false := by simp [e1]
      have HF1 := hide ((unhide HF).trans (if_pos e1))
      clear e1 HF
      go_wp2_with fail
      refine (unhide c4 _).mono ?_
      rintro x w3 ⟨rfl, hb3⟩
      have hz3 := hb3.size
      have HB3 := hide ((unhide HBB).trans (hb3.mono (by omega)))
      have t2 := (hb3.cell (p := ⟨w.heap.size, 2, none⟩) j6).trans j2
      have t5 := (hb3.cell (p := ⟨w.heap.size + 1, 2, none⟩) j7).trans j5
      clear hb3 j1 j2 j4 j5
      by_cases e2 : x2 = 0
      · have n2 : (x2 != 0) = false := by simp [e2]
        have HF2 := hide ((unhide HF1).trans (if_pos e2))
        clear e2 HF1
        go_wp2_with fail
        refine (unhide c5 _).mono ?_
        rintro x w4 ⟨rfl, hb4⟩
        have HB4 := hide ((unhide HB3).trans (hb4.mono (by omega)))
        clear hb4
        go_wp2_with fail
        go_ret
        exact ⟨ret_int64 (unhide HF2).symm, unhide HB4⟩
      · have n2 : (x2 != 0) = true := by simpa using e2
        have HF2 := hide ((unhide HF1).trans (if_neg e2))
        clear e2 HF1
        go_wp2_with fail
        go_ret
        exact ⟨ret_int64 (unhide HF2).symm, unhide HB3⟩
    · have n1 : (x1 != 0) = true := by simpa using e1
      have HF1 := hide ((unhide HF).trans (if_neg e1))
      clear e1 HF
      go_wp2_with fail
      go_ret
      exact ⟨ret_int64 (unhide HF1).symm, unhide HBB⟩

end Go.Proofs.YtfnbclehlikbkaaDoor
