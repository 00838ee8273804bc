import Derived.Test.YtimjknjpelmdeaaNames
import Derived.Test.YtimjknjpelmdeaaRef3
namespace Go.Proofs.Ytimjknjpelmdeaa
open Go.RowKit

theorem isVersion_any (s : ByteArray) (hs : s.size ≤ maxLen) (w : World) :
    Calls Try.prog 11 #[.string s] w fun e w' => e = .returned (.bool ((parse s).2 == 0)) ∧ Below w.heap.size w w' := by
  rcases hp : parse s with ⟨⟨E, U, R, C, D⟩, n⟩
  have c1 := hide (fun w => Parse_any s hs E U R C D n hp w)
  clear hp hs
  go_enter Try.func11, Try.ntmps11
  go_wp2_with fail
  refine (unhide c1 _).mono ?_
  rintro e w1 ⟨rfl, hb1⟩
  have hz1 := hb1.size
  have hb1' := hide hb1
  clear hb1
  go_wp2_with fail
  go_ret
  exact ⟨rfl, (unhide hb1').alloc hz1 _⟩

theorem rversion_any (s : ByteArray) (hs : s.size ≤ maxLen) (w : World) :
    Calls Try.prog 13 #[.string s] w fun e w' => e = .returned (.bool ((parse s).2 == 0)) ∧ Below w.heap.size w w' := by
  rcases hp : parse s with ⟨⟨E, U, R, C, D⟩, n⟩
  have c1 := hide (fun w => rParse_any s hs E U R C D n hp w)
  clear hp hs
  go_enter Try.func13, Try.ntmps13
  go_wp2_with fail
  refine (unhide c1 _).mono ?_
  rintro e w1 ⟨rfl, hb1⟩
  have hz1 := hb1.size
  have hb1' := hide hb1
  clear hb1
  go_wp2_with fail
  go_ret
  exact ⟨rfl, (unhide hb1').alloc hz1 _⟩

set_option maxHeartbeats 2000000 in
theorem CheckA_any (n : ByteArray) (op : Int) (v : ByteArray) (hn : n.size ≤ maxLen) (hv : v.size ≤ maxLen) (w : World) :
    Calls Try.prog 8 #[.agg #[.string n, .int .i64 op, .string v]] w fun e w' => e = .returned (.int .i64 (ckAtom n op v)) ∧ Below w.heap.size w w' := by
  have hB := hide ((Below.refl w.heap.size w).alloc (Nat.le_refl _) (.cells #[.string n, .int .i64 op, .string v] 30))
  have cN0 := hide (fun w => CheckName_any n w hn)
  have cV0 := hide (fun w => isVersion_any v hv w)
  clear hn hv
  cases h1 : okName n
  · have HF := hide (show ckAtom n op v = 20 by unfold ckAtom; rw [if_pos h1])
    have cN := hide (fun w => (ckName_no n h1) ▸ unhide cN0 w)
    clear cN0 cV0 h1
    go_enter Try.func8, Try.ntmps8
    go_wp2_with (go_at_call 10; refine (unhide cN _).mono ?_; rintro e w' ⟨rfl, rfl⟩)
    go_ret
    exact ⟨ret_i64 (unhide HF).symm, unhide hB⟩
  · have cN := hide (fun w => (ckName_yes n h1) ▸ unhide cN0 w)
    by_cases o1 : op < 0
    · have HF := hide (show ckAtom n op v = 21 by unfold ckAtom; rw [if_neg (by simp [h1]), if_pos (by simp [o1])])
      clear cN0 cV0 h1
      go_enter Try.func8, Try.ntmps8
      go_wp2_with (go_at_call 10; refine (unhide cN _).mono ?_; rintro e w' ⟨rfl, rfl⟩)
      go_ret
      exact ⟨ret_i64 (unhide HF).symm, unhide hB⟩
    · by_cases o2 : 5 < op
      · have HF := hide (show ckAtom n op v = 21 by unfold ckAtom; rw [if_neg (by simp [h1]), if_pos (by simp [o2])])
        clear cN0 cV0 h1
        go_enter Try.func8, Try.ntmps8
        go_wp2_with (go_at_call 10; refine (unhide cN _).mono ?_; rintro e w' ⟨rfl, rfl⟩)
        go_ret
        exact ⟨ret_i64 (unhide HF).symm, unhide hB⟩
      · have HA := hide (show ckAtom n op v = if ((op == 0 && !v.toList.isEmpty) || (!(op == 0) && !((parse v).2 == 0))) = true then 22 else 0 by unfold ckAtom; rw [if_neg (by simp [h1]), if_neg (by simp; omega)])
        by_cases o3 : op = 0
        · subst o3
          cases h2 : v.toList.isEmpty
          all_goals
            have HF := hide ((unhide HA).trans (by simp only [h2]; rfl))
            clear cN0 cV0 h1
            go_enter Try.func8, Try.ntmps8
            go_wp2_with (go_at_call 10; refine (unhide cN _).mono ?_; rintro e w' ⟨rfl, rfl⟩)
            go_ret
            exact ⟨ret_i64 (unhide HF).symm, unhide hB⟩
        · have o4 : (op == 0) = false := by simpa using o3
          cases h2 : ((parse v).2 == 0)
          all_goals
            have HF := hide ((unhide HA).trans (by rw [o4, h2]))
            have cV := hide (fun w => h2 ▸ unhide cV0 w)
            clear cN0 cV0 h1 h2
            go_enter Try.func8, Try.ntmps8
            go_wp2_with (first | (go_at_call 10; refine (unhide cN _).mono ?_; rintro e w' ⟨rfl, rfl⟩) | (go_at_call 11; refine (unhide cV _).mono ?_; rintro e w' ⟨rfl, hb⟩; have hb' := hide hb; clear hb))
            go_ret
            exact ⟨ret_i64 (unhide HF).symm, (unhide hB).trans ((unhide hb').mono (by simp))⟩

set_option maxHeartbeats 2000000 in
theorem rCheckA_any (n : ByteArray) (op : Int) (v : ByteArray) (hn : n.size ≤ maxLen) (hv : v.size ≤ maxLen) (w : World) :
    Calls Try.prog 9 #[.agg #[.string n, .int .i64 op, .string v]] w fun e w' => e = .returned (.int .i64 (ckAtom n op v)) ∧ Below w.heap.size w w' := by
  have hB := hide ((Below.refl w.heap.size w).alloc (Nat.le_refl _) (.cells #[.string n, .int .i64 op, .string v] 30))
  have cN0 := hide (fun w => rCheckName_any n w hn)
  have cV0 := hide (fun w => rversion_any v hv w)
  clear hn hv
  cases h1 : okName n
  · have HF := hide (show ckAtom n op v = 20 by unfold ckAtom; rw [if_pos h1])
    have cN := hide (fun w => (ckName_no n h1) ▸ unhide cN0 w)
    clear cN0 cV0 h1
    go_enter Try.func9, Try.ntmps9
    go_wp2_with (go_at_call 12; refine (unhide cN _).mono ?_; rintro e w' ⟨rfl, rfl⟩)
    go_ret
    exact ⟨ret_i64 (unhide HF).symm, unhide hB⟩
  · have cN := hide (fun w => (ckName_yes n h1) ▸ unhide cN0 w)
    by_cases o1 : op < 0
    · have HF := hide (show ckAtom n op v = 21 by unfold ckAtom; rw [if_neg (by simp [h1]), if_pos (by simp [o1])])
      clear cN0 cV0 h1
      go_enter Try.func9, Try.ntmps9
      go_wp2_with (go_at_call 12; refine (unhide cN _).mono ?_; rintro e w' ⟨rfl, rfl⟩)
      go_ret
      exact ⟨ret_i64 (unhide HF).symm, unhide hB⟩
    · by_cases o2 : 5 < op
      · have HF := hide (show ckAtom n op v = 21 by unfold ckAtom; rw [if_neg (by simp [h1]), if_pos (by simp [o2])])
        clear cN0 cV0 h1
        go_enter Try.func9, Try.ntmps9
        go_wp2_with (go_at_call 12; refine (unhide cN _).mono ?_; rintro e w' ⟨rfl, rfl⟩)
        go_ret
        exact ⟨ret_i64 (unhide HF).symm, unhide hB⟩
      · have HA := hide (show ckAtom n op v = if ((op == 0 && !v.toList.isEmpty) || (!(op == 0) && !((parse v).2 == 0))) = true then 22 else 0 by unfold ckAtom; rw [if_neg (by simp [h1]), if_neg (by simp; omega)])
        by_cases o3 : op = 0
        · subst o3
          cases h2 : v.toList.isEmpty
          all_goals
            have HF := hide ((unhide HA).trans (by simp only [h2]; rfl))
            clear cN0 cV0 h1
            go_enter Try.func9, Try.ntmps9
            go_wp2_with (go_at_call 12; refine (unhide cN _).mono ?_; rintro e w' ⟨rfl, rfl⟩)
            go_ret
            exact ⟨ret_i64 (unhide HF).symm, unhide hB⟩
        · have o4 : (op == 0) = false := by simpa using o3
          cases h2 : ((parse v).2 == 0)
          all_goals
            have HF := hide ((unhide HA).trans (by rw [o4, h2]))
            have cV := hide (fun w => h2 ▸ unhide cV0 w)
            clear cN0 cV0 h1 h2
            go_enter Try.func9, Try.ntmps9
            go_wp2_with (first | (go_at_call 12; refine (unhide cN _).mono ?_; rintro e w' ⟨rfl, rfl⟩) | (go_at_call 13; refine (unhide cV _).mono ?_; rintro e w' ⟨rfl, hb⟩; have hb' := hide hb; clear hb))
            go_ret
            exact ⟨ret_i64 (unhide HF).symm, (unhide hB).trans ((unhide hb').mono (by simp))⟩

end Go.Proofs.Ytimjknjpelmdeaa
