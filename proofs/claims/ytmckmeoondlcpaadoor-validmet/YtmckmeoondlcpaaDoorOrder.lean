import Derived.Test.YtmckmeoondlcpaaDoorOrdParts
import Derived.Test.YtmckmeoondlcpaaDoorParse
import Derived.Deep.QuietTactic
import Derived.BigQuiet
import Derived.Deep.RegionWith
namespace Go.Proofs.YtmckmeoondlcpaaDoor
open Go.RowKit

set_option maxHeartbeats 400000 in
theorem digitsOf_dig (e : ByteArray) (he : e.size ≤ maxLen) (h : allB (kind 41) e = true) (w : World) :
    Calls Tryd.prog 32 #[.string e] w fun x w' => x = .returned (.string e) ∧ w' = w := by
  go_enter Tryd.func32, Tryd.ntmps32
  go_wp2_with (go_at_call 40; refine (consists_any _ _ (by decide) _ he).mono ?_; rintro x w' ⟨rfl, rfl⟩)
  go_ret
  exact ⟨rfl, rfl⟩

/-- THE ORDER OF TWO VERSIONS WHOSE EPOCHS ARE DIGITS. -/
def ordV (v w : Ver) : Int := if ordNum v.e w.e = 0 then (if ordPart v.u w.u = 0 then ordPart v.r w.r else ordPart v.u w.u) else ordNum v.e w.e

set_option maxHeartbeats 1000000 in
theorem Order_dig (e u r : ByteArray) (c d : Bool) (E U R : ByteArray) (C D : Bool) (he : e.size ≤ maxLen) (hu : u.size ≤ maxLen) (hr : r.size ≤ maxLen) (hE : E.size ≤ maxLen) (hU : U.size ≤ maxLen) (hR : R.size ≤ maxLen)
    (h1 : allB (kind 41) e = true) (h2 : allB (kind 41) E = true) (w : World) :
    Calls Tryd.prog 26 #[.agg #[.string e, .string u, .string r, .bool c, .bool d], .agg #[.string E, .string U, .string R, .bool C, .bool D]] w fun x w' =>
      x = .returned (.int .i64 (ordV ⟨e, u, r, c, d⟩ ⟨E, U, R, C, D⟩)) ∧ Below w.heap.size w w' := by
  have HF := hide (show ordV ⟨e, u, r, c, d⟩ ⟨E, U, R, C, D⟩ = if ordNum e E = 0 then (if ordPart u U = 0 then ordPart r R else ordPart u U) else ordNum e E from rfl)
  have c1 := hide (fun w => digitsOf_dig e he h1 w)
  have c2 := hide (fun w => digitsOf_dig E hE h2 w)
  have c3 := hide (fun w => orderNumbers_any e E he hE w)
  have c4 := hide (fun w => orderParts_any u U hu hU w)
  have c5 := hide (fun w => orderParts_any r R hr hR w)
  generalize ordV ⟨e, u, r, c, d⟩ ⟨E, U, R, C, D⟩ = res at *
  generalize ordNum e E = x1 at *
  generalize ordPart u U = x2 at *
  generalize ordPart r R = x3 at *
  clear h1 h2 he hu hr hE hU hR
  have HB := hide (((Below.refl w.heap.size w).alloc (Nat.le_refl _) (.cells #[.string e, .string u, .string r, .bool c, .bool d] 55)).alloc (by simp) (.cells #[.string E, .string U, .string R, .bool C, .bool D] 55))
  by_cases e1 : x1 = 0
  · have n1 : (x1 != 0) = false := by simp [e1]
    have HF1 := hide ((unhide HF).trans (if_pos e1))
    clear e1 HF
    go_enter Tryd.func26, Tryd.ntmps26
    go_wp2_with fail
    go_quiet (first | (go_at_call_of 32 (Value.string e); exact Calls.quiet_of_same (unhide c1 _)) | (go_at_call_of 32 (Value.string E); exact Calls.quiet_of_same (unhide c2 _)) | (go_at_call 31; exact Calls.quiet_of_same (unhide c3 _)))
    go_wp2_with fail
    refine (unhide c4 _).mono ?_
    rintro x w1 ⟨rfl, hb1⟩
    have hz1 := hb1.size
    have hb1' := hide hb1
    obtain ⟨hc1, hf1⟩ := bcell hb1
    clear hb1
    simp at hz1
    have q1 : w.heap.size < w1.heap.size := by omega
    have hB1 := hide ((below_drewN (unhide HB) nq).trans ((unhide hb1').mono (by simp; omega)))
    by_cases e2 : x2 = 0
    · have n2 : (x2 != 0) = false := by simp [e2]
      have HF2 := hide ((unhide HF1).trans (if_pos e2))
      clear e2 HF1
      go_wp2_with fail
      refine (unhide c5 _).mono ?_
      rintro x w2 ⟨rfl, hb2⟩
      have hb2' := hide hb2
      clear hb2
      go_wp2_with fail
      go_ret
      exact ⟨ret_int64 (unhide HF2).symm, (unhide hB1).trans ((unhide hb2').mono (by omega))⟩
    · have n2 : (x2 != 0) = true := by simpa using e2
      have HF2 := hide ((unhide HF1).trans (if_neg e2))
      clear e2 HF1
      go_wp2_with fail
      go_ret
      exact ⟨ret_int64 (unhide HF2).symm, unhide hB1⟩
  · have n1 : (x1 != 0) = true := by simpa using e1
    have HF1 := hide ((unhide HF).trans (if_neg e1))
    clear e1 HF
    go_enter Tryd.func26, Tryd.ntmps26
    go_wp2_with fail
    go_quiet (first | (go_at_call_of 32 (Value.string e); exact Calls.quiet_of_same (unhide c1 _)) | (go_at_call_of 32 (Value.string E); exact Calls.quiet_of_same (unhide c2 _)) | (go_at_call 31; exact Calls.quiet_of_same (unhide c3 _)))
    go_wp2_with fail
    go_ret
    exact ⟨ret_int64 (unhide HF1).symm, below_drewN (unhide HB) nq⟩

end Go.Proofs.YtmckmeoondlcpaaDoor
