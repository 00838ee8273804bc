import Derived.Test.YtjnbnndocinicaaGreatDoorFits
namespace Go.Proofs.YtjnbnndocinicaaGreatDoor
open Go.RowKit

/-- DOES A VERSION FIT AN ATOM'S CONSTRAINT? -/
def fitsA (op : Int) (bd v : ByteArray) : Bool := if op = 0 then true else ((fitsT v op bd).2 == 0) && (fitsT v op bd).1

set_option maxHeartbeats 2000000 in
theorem FitsA_any (n : ByteArray) (op : Int) (bd v : ByteArray) (hb : bd.size ≤ maxLen) (hv : v.size ≤ maxLen) (w : World) :
    Calls Tryz.prog 44 #[.agg #[.string n, .int .i64 op, .string bd], .string v] w fun e w' => e = .returned (.bool (fitsA op bd v)) ∧ Below w.heap.size w w' := by
  have hB := hide ((Below.refl w.heap.size w).alloc (Nat.le_refl _) (.cells #[.string n, .int .i64 op, .string bd] 55))
  by_cases o : op = 0
  · subst o
    go_enter Tryz.func44, Tryz.ntmps44
    go_wp2
    go_ret
    exact ⟨rfl, unhide hB⟩
  · rcases hf : fitsT v op bd with ⟨x0, n0⟩
    have HF := hide (show fitsA op bd v = (n0 == 0 && x0) by unfold fitsA; rw [if_neg o, hf])
    have c1 := hide (fun w => Fits_any v op bd hv hb x0 n0 hf w)
    have o' : (op == 0) = false := by simpa using o
    clear hf hb hv o
    cases hn : (n0 == 0)
    all_goals
      rw [hn] at HF
      go_enter Tryz.func44, Tryz.ntmps44
      go_wp2_with (go_at_call 71; refine (unhide c1 _).mono ?_; rintro e w' ⟨rfl, hb⟩; have hb' := hide hb; clear hb)
      go_ret
      exact ⟨ret_bool (unhide HF).symm, (unhide hB).trans ((unhide hb').mono (by simp))⟩

end Go.Proofs.YtjnbnndocinicaaGreatDoor
