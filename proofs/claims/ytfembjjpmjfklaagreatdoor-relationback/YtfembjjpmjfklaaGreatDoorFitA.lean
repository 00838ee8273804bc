import Derived.Test.YtfembjjpmjfklaaGreatDoorLawFits
namespace Go.Proofs.YtfembjjpmjfklaaGreatDoor
open Go.RowKit

/-- DOES A VERSION FIT AN ATOM'S CONSTRAINT? -/
def fitsA (op : Int) (bd v : ByteArray) : Bool := if op = 0 then true else ((fitsT v op bd).2 == 0) && (fitsT v op bd).1

theorem fitsT_cmp (a b : ByteArray) (op : Int) (h1 : 1 ≤ op) (h2 : op ≤ 5) (X n : Int) (h : cmpT a b = (X, n)) : fitsT a op b = if n = 0 then (holdsB X op, 0) else (false, n) := by
  unfold cmpT at h
  unfold fitsT
  rw [if_pos ⟨by omega, h2⟩]
  by_cases e1 : (parse a).2 = 0
  · rw [if_pos e1] at h ⊢
    rw [if_neg (by omega)]
    by_cases e2 : (parse b).2 = 0
    · rw [if_pos e2] at h ⊢
      cases h
      rfl
    · rw [if_neg e2] at h ⊢
      cases h
      rw [if_neg e2]
  · rw [if_neg e1] at h ⊢
    cases h
    rw [if_neg e1]

theorem cmpT_rg (a b : ByteArray) (X n : Int) (h : cmpT a b = (X, n)) : (n ≠ 0 ∧ X = 0) ∨ (n = 0 ∧ (X = -1 ∨ X = 0 ∨ X = 1)) := by
  unfold cmpT at h
  by_cases e1 : (parse a).2 = 0
  · rw [if_pos e1] at h
    by_cases e2 : (parse b).2 = 0
    · rw [if_pos e2] at h
      cases h
      exact .inr ⟨rfl, pre_ordV.rng _ _⟩
    · rw [if_neg e2] at h
      cases h
      exact .inl ⟨e2, rfl⟩
  · rw [if_neg e1] at h
    cases h
    exact .inl ⟨e1, rfl⟩

theorem fitsA_out (op : Int) (bd v : ByteArray) (h : op < 0 ∨ 5 < op) : fitsA op bd v = false := by
  unfold fitsA fitsT
  rw [if_neg (by omega), if_neg (by omega)]
  rfl
theorem fitsA_bad (op : Int) (bd v : ByteArray) (h1 : 1 ≤ op) (h2 : op ≤ 5) (X n : Int) (h : cmpT v bd = (X, n)) (hn : n ≠ 0) : fitsA op bd v = false := by
  unfold fitsA
  rw [if_neg (by omega), fitsT_cmp v bd op h1 h2 X n h, if_neg hn]
  simp
theorem fitsA_ok (op : Int) (bd v : ByteArray) (h1 : 1 ≤ op) (h2 : op ≤ 5) (X : Int) (h : cmpT v bd = (X, 0)) : fitsA op bd v = holdsB X op := by
  unfold fitsA
  rw [if_neg (by omega), fitsT_cmp v bd op h1 h2 X 0 h, if_pos rfl]
  rfl

set_option maxHeartbeats 2000000 in
theorem FitsA_any (n : ByteArray) (op : Int) (bd v : ByteArray) (hb : bd.size ≤ maxLen) (hv : v.size ≤ maxLen) (w : World) :
    Calls Tryz.prog 19 #[.agg #[.string n, .int .i64 op, .string bd], .string v] w fun e w' => e = .returned (.bool (fitsA op bd v)) ∧ Below w.heap.size w w' := by
  have hB := hide ((Below.refl w.heap.size w).alloc (Nat.le_refl _) (.cells #[.string n, .int .i64 op, .string bd] 23))
  by_cases o : op = 0
  · subst o
    go_enter Tryz.func19, Tryz.ntmps19
    go_wp2
    go_ret
    exact ⟨rfl, unhide hB⟩
  · rcases hf : fitsT v op bd with ⟨x0, n0⟩
    have HF := hide (show fitsA op bd v = (n0 == 0 && x0) by unfold fitsA; rw [if_neg o, hf])
    have c1 := hide (fun w => Fits_any v op bd hv hb x0 n0 hf w)
    have o' : (op == 0) = false := by simpa using o
    clear hf hb hv o
    cases hn : (n0 == 0)
    all_goals
      rw [hn] at HF
      go_enter Tryz.func19, Tryz.ntmps19
      go_wp2_with (go_at_call 38; refine (unhide c1 _).mono ?_; rintro e w' ⟨rfl, hb⟩; have hb' := hide hb; clear hb)
      go_ret
      exact ⟨ret_bool (unhide HF).symm, (unhide hB).trans ((unhide hb').mono (by simp))⟩

end Go.Proofs.YtfembjjpmjfklaaGreatDoor
