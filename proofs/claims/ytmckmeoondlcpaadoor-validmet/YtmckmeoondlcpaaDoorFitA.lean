import Derived.Test.YtmckmeoondlcpaaDoorLawFits
namespace Go.Proofs.YtmckmeoondlcpaaDoor
open Go.RowKit

/-- DOES A VERSION FIT AN ATOM'S CONSTRAINT? -/
def fitsA (op : Int) (bd v : ByteArray) : Bool := if op = 0 then true else ((fitsT v op bd).2 == 0) && (fitsT v op bd).1

theorem fitsT_cmp (a b : ByteArray) (op : Int) (h1 : 1 ≤ op) (h2 : op ≤ 5) (X n : Int) (h : cmpT a b = (X, n)) : fitsT a op b = if n = 0 then (holdsB X op, 0) else (false, n) := by
  unfold cmpT at h
  unfold fitsT
  rw [if_pos ⟨by omega, h2⟩]
  by_cases e1 : (parse a).2 = 0
  · rw [if_pos e1] at h ⊢
    rw [if_neg (by omega)]
    by_cases e2 : (parse b).2 = 0
    · rw [if_pos e2] at h ⊢
      cases h
      rfl
    · rw [if_neg e2] at h ⊢
      cases h
      rw [if_neg e2]
  · rw [if_neg e1] at h ⊢
    cases h
    rw [if_neg e1]

theorem cmpT_rg (a b : ByteArray) (X n : Int) (h : cmpT a b = (X, n)) : (n ≠ 0 ∧ X = 0) ∨ (n = 0 ∧ (X = -1 ∨ X = 0 ∨ X = 1)) := by
  unfold cmpT at h
  by_cases e1 : (parse a).2 = 0
  · rw [if_pos e1] at h
    by_cases e2 : (parse b).2 = 0
    · rw [if_pos e2] at h
      cases h
      exact .inr ⟨rfl, pre_ordV.rng _ _⟩
    · rw [if_neg e2] at h
      cases h
      exact .inl ⟨e2, rfl⟩
  · rw [if_neg e1] at h
    cases h
    exact .inl ⟨e1, rfl⟩

theorem fitsA_out (op : Int) (bd v : ByteArray) (h : op < 0 ∨ 5 < op) : fitsA op bd v = false := by
  unfold fitsA fitsT
  rw [if_neg (by omega), if_neg (by omega)]
  rfl
theorem fitsA_bad (op : Int) (bd v : ByteArray) (h1 : 1 ≤ op) (h2 : op ≤ 5) (X n : Int) (h : cmpT v bd = (X, n)) (hn : n ≠ 0) : fitsA op bd v = false := by
  unfold fitsA
  rw [if_neg (by omega), fitsT_cmp v bd op h1 h2 X n h, if_neg hn]
  simp
theorem fitsA_ok (op : Int) (bd v : ByteArray) (h1 : 1 ≤ op) (h2 : op ≤ 5) (X : Int) (h : cmpT v bd = (X, 0)) : fitsA op bd v = holdsB X op := by
  unfold fitsA
  rw [if_neg (by omega), fitsT_cmp v bd op h1 h2 X 0 h, if_pos rfl]
  rfl

set_option maxHeartbeats 2000000 in
theorem FitsA_any (n : ByteArray) (op : Int) (bd v : ByteArray) (hb : bd.size ≤ maxLen) (hv : v.size ≤ maxLen) (w : World) :
    Calls Tryd.prog 17 #[.agg #[.string n, .int .i64 op, .string bd], .string v] w fun e w' => e = .returned (.bool (fitsA op bd v)) ∧ Below w.heap.size w w' := by
  have hB := hide ((Below.refl w.heap.size w).alloc (Nat.le_refl _) (.cells #[.string n, .int .i64 op, .string bd] 33))
  by_cases o : op = 0
  · subst o
    go_enter Tryd.func17, Tryd.ntmps17
    go_wp2
    go_ret
    exact ⟨rfl, unhide hB⟩
  · rcases hf : fitsT v op bd with ⟨x0, n0⟩
    have HF := hide (show fitsA op bd v = (n0 == 0 && x0) by unfold fitsA; rw [if_neg o, hf])
    have c1 := hide (fun w => Fits_any v op bd hv hb x0 n0 hf w)
    have o' : (op == 0) = false := by simpa using o
    clear hf hb hv o
    cases hn : (n0 == 0)
    all_goals
      rw [hn] at HF
      go_enter Tryd.func17, Tryd.ntmps17
      go_wp2_with (go_at_call 21; refine (unhide c1 _).mono ?_; rintro e w' ⟨rfl, hb⟩; have hb' := hide hb; clear hb)
      go_ret
      exact ⟨ret_bool (unhide HF).symm, (unhide hB).trans ((unhide hb').mono (by simp))⟩

set_option maxHeartbeats 4000000 in
theorem rFitsA_any (n : ByteArray) (op : Int) (bd v : ByteArray) (hb : bd.size ≤ maxLen) (hv : v.size ≤ maxLen) (w : World) :
    Calls Tryd.prog 19 #[.agg #[.string n, .int .i64 op, .string bd], .string v] w fun e w' => e = .returned (.bool (fitsA op bd v)) ∧ Below w.heap.size w w' := by
  have hB := hide ((Below.refl w.heap.size w).alloc (Nat.le_refl _) (.cells #[.string n, .int .i64 op, .string bd] 33))
  by_cases o : op = 0
  · subst o
    go_enter Tryd.func19, Tryd.ntmps19
    go_wp2
    go_ret
    exact ⟨rfl, unhide hB⟩
  · rcases hf : cmpT v bd with ⟨X, m⟩
    have c1 := hide (fun w => rCompare_any v bd hv hb X m hf w)
    have o' : (op == 0) = false := by simpa using o
    have hr := cmpT_rg v bd X m hf
    clear hb hv
    by_cases o1 : op < 0 ∨ 5 < op
    · have HF := hide (fitsA_out op bd v o1)
      clear hf o hr
      cases hm : (m != 0)
      all_goals
        rcases o1 with o1 | o1
        all_goals
          go_enter Tryd.func19, Tryd.ntmps19
          go_wp2_with (go_at_call 23; refine (unhide c1 _).mono ?_; rintro e w1 ⟨rfl, hb⟩; have hz1 := hb.size; have hb' := hide hb; obtain ⟨hc1, hf1⟩ := bcell hb; clear hb; simp at hz1; have q1 : w.heap.size < w.heap.size + 1 := Nat.lt_succ_self _)
          go_ret
          exact ⟨ret_bool (unhide HF).symm, (unhide hB).trans ((unhide hb').mono (by simp))⟩
    · rcases hr with ⟨hm, rfl⟩ | ⟨rfl, hx⟩
      · have HF := hide (fitsA_bad op bd v (by omega) (by omega) _ _ hf hm)
        have hm' : (m != 0) = true := by simpa using hm
        clear hf o hm
        go_enter Tryd.func19, Tryd.ntmps19
        go_wp2_with (go_at_call 23; refine (unhide c1 _).mono ?_; rintro e w1 ⟨rfl, hb⟩; have hb' := hide hb; clear hb)
        go_ret
        exact ⟨ret_bool (unhide HF).symm, (unhide hB).trans ((unhide hb').mono (by simp))⟩
      · have HF := hide (fitsA_ok op bd v (by omega) (by omega) X hf)
        have ho : op = 1 ∨ op = 2 ∨ op = 3 ∨ op = 4 ∨ op = 5 := by omega
        clear hf o o' o1
        rcases ho with rfl | rfl | rfl | rfl | rfl <;> rcases hx with rfl | rfl | rfl
        all_goals
          go_enter Tryd.func19, Tryd.ntmps19
          go_wp2_with (go_at_call 23; refine (unhide c1 _).mono ?_; rintro e w1 ⟨rfl, hb⟩; have hz1 := hb.size; have hb' := hide hb; obtain ⟨hc1, hf1⟩ := bcell hb; clear hb; simp at hz1; have q1 : w.heap.size < w.heap.size + 1 := Nat.lt_succ_self _)
          go_ret
          exact ⟨ret_bool (unhide HF).symm, (unhide hB).trans ((unhide hb').mono (by simp))⟩

end Go.Proofs.YtmckmeoondlcpaaDoor
