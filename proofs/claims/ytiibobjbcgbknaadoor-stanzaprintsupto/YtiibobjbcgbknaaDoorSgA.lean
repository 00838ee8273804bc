import Derived.Test.YtiibobjbcgbknaaDoorSbA
namespace Go.Proofs.YtiibobjbcgbknaaDoor
open Go.RowKit

theorem idxB_yes : ∀ (s : Bs), (10 : UInt8) ∈ s → 0 ≤ Lib.indexByte s 10
  | [], h => by cases h
  | b :: l, h => by
    unfold Lib.indexByte
    cases hb : (b == 10) with
    | true => simp
    | false =>
      have h2 := idxB_yes l (by
        rcases List.mem_cons.1 h with e | e
        · rw [← e] at hb; cases hb
        · exact e)
      simp only [Bool.false_eq_true, if_false]
      split
      · rename_i h3
        have := eq_of_beq h3
        omega
      · omega

theorem cHas_any (s : Bs) (w : World) :
    Calls Tryd.prog 77 #[.string (ba s), .string ⟨#[10]⟩] w fun e w' => e = .returned (.bool (decide ((10 : UInt8) ∈ s))) ∧ w' = w := by
  refine (Any.strings_Contains_one Tryd.lays144 (ba s) 10 w).mono ?_
  rintro e w' ⟨rfl, rfl⟩
  refine ⟨ret_bool ?_, rfl⟩
  rw [ba_list]
  by_cases h : (10 : UInt8) ∈ s
  · rw [decide_eq_true h]
    exact decide_eq_true (idxB_yes s h)
  · rw [decide_eq_false h, idxB_no s h]
    rfl

set_option maxRecDepth 100000 in
set_option maxHeartbeats 1000000 in
theorem isLine_any (s : Bs) (w : World) (hs : s.length ≤ 268435456) :
    Calls Tryd.prog 62 #[.string (ba s)] w fun e w' => e = .returned (.bool (lineL s)) ∧ w' = w := by
  have c1 := hide (show Calls Tryd.prog 72 #[.string (ba s)] w fun e w' => e = .returned (.bool (oddL s)) ∧ w' = w by
    have := hasOdd_any (ba s) w (by rw [ba_size]; omega)
    rw [ba_list] at this
    exact this)
  have c2 := hide (cHas_any s w)
  unfold lineL
  cases h1 : oddL s
  · rw [h1] at c1
    cases h2 : decide ((10 : UInt8) ∈ s)
    all_goals
      rw [h2] at c2
      have h3 : decide ((10 : UInt8) ∉ s) = !decide ((10 : UInt8) ∈ s) := by simp
      rw [h3, h2]
      clear h1 h2 h3
      go_enter Tryd.func62, Tryd.ntmps62
      go_wp2_with (first | (go_at_call 72; refine (unhide c1).mono ?_; rintro e w1 ⟨rfl, rfl⟩) | (go_at_call 77; refine (unhide c2).mono ?_; rintro e w1 ⟨rfl, rfl⟩))
      go_ret
      exact ⟨rfl, rfl⟩
  · rw [h1] at c1
    clear h1
    generalize decide ((10 : UInt8) ∉ s) = q
    go_enter Tryd.func62, Tryd.ntmps62
    go_wp2_with (first | (go_at_call 72; refine (unhide c1).mono ?_; rintro e w1 ⟨rfl, rfl⟩))
    go_ret
    exact ⟨rfl, rfl⟩

theorem ba_beq (a b : Bs) : ((ba a).toList == (ba b).toList) = decide (a = b) := by
  rw [ba_tl, ba_tl, Bool.eq_iff_iff, decide_eq_true_iff, beq_iff_eq]

set_option maxRecDepth 100000 in
set_option maxHeartbeats 1000000 in
theorem isFirst_any (s : Bs) (w : World) (hs : s.length ≤ 268435456) :
    Calls Tryd.prog 47 #[.string (ba s)] w fun e w' => e = .returned (.bool (firL s)) ∧ Below w.heap.size w w' := by
  have c1 := hide (isLine_any s w hs)
  have c2 := hide (cTrim s w (by omega))
  have hq := ba_beq (Lib.trimS s bl2) s
  unfold firL
  cases h1 : lineL s
  all_goals
    rw [h1] at c1
    clear h1
    generalize decide (Lib.trimS s bl2 = s) = q at *
    generalize ba (Lib.trimS s bl2) = t at *
    generalize ba s = u at *
    go_enter Tryd.func47, Tryd.ntmps47
    go_wp2_with (first | (go_at_call 62; refine (unhide c1).mono ?_; rintro e w1 ⟨rfl, rfl⟩) | (go_at_call 63; refine (unhide c2).mono ?_; rintro e w2 ⟨rfl, hb⟩; have HB := hide hb; clear hb))
    go_ret
  · exact ⟨rfl, Below.refl _ _⟩
  · exact ⟨rfl, unhide HB⟩

set_option maxRecDepth 100000 in
set_option maxHeartbeats 1000000 in
theorem isFurther_any (s : Bs) (w : World) (hs : s.length ≤ 268435456) :
    Calls Tryd.prog 48 #[.string (ba s)] w fun e w' => e = .returned (.bool (furL s)) ∧ Below w.heap.size w w' := by
  have c1 := hide (isLine_any s w hs)
  have c2 := hide (cTrimR s w (by omega))
  have hq := ba_beq (Lib.trimRightS s bl2) s
  unfold furL
  cases h1 : lineL s
  · rw [h1] at c1
    clear h1 c2 hq
    generalize (decide (s ≠ []) && decide (Lib.trimRightS s bl2 = s)) = q at *
    generalize ba s = u at *
    go_enter Tryd.func48, Tryd.ntmps48
    go_wp2_with (first | (go_at_call 62; refine (unhide c1).mono ?_; rintro e w1 ⟨rfl, rfl⟩))
    go_ret
    exact ⟨rfl, Below.refl _ _⟩
  · rw [h1] at c1
    clear h1
    cases s with
    | nil =>
      have hn : (ba ([] : Bs)).toList.isEmpty = true := by rw [ba_tl]; rfl
      clear c2 hq
      rw [show decide (([] : Bs) ≠ []) = false by simp]
      generalize ba ([] : Bs) = u at *
      go_enter Tryd.func48, Tryd.ntmps48
      go_wp2_with (first | (go_at_call 62; refine (unhide c1).mono ?_; rintro e w1 ⟨rfl, rfl⟩))
      go_ret
      exact ⟨rfl, Below.refl _ _⟩
    | cons a r =>
      have hn : (ba (a :: r)).toList.isEmpty = false := by rw [ba_tl]; rfl
      rw [show decide ((a :: r) ≠ []) = true by simp]
      generalize decide (Lib.trimRightS (a :: r) bl2 = a :: r) = q at *
      generalize ba (Lib.trimRightS (a :: r) bl2) = t at *
      generalize ba (a :: r) = u at *
      go_enter Tryd.func48, Tryd.ntmps48
      go_wp2_with (first | (go_at_call 62; refine (unhide c1).mono ?_; rintro e w1 ⟨rfl, rfl⟩) | (go_at_call 64; refine (unhide c2).mono ?_; rintro e w2 ⟨rfl, hb⟩; have HB := hide hb; clear hb))
      go_ret
      exact ⟨rfl, unhide HB⟩

end Go.Proofs.YtiibobjbcgbknaaDoor
