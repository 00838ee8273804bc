import Derived.Test.YtiibobjbcgbknaaDoorRsA
import Derived.Test.YtiibobjbcgbknaaDoorSbR
namespace Go.Proofs.YtiibobjbcgbknaaDoor
open Go.RowKit

def mayL (l : Bs) (k : Nat) : Bool := if k = 0 then firL l else furL l
theorem ba_beq2 (a : Bs) (s : ByteArray) : ((ba a).toList == s.toList) = decide (a = s.data.toList) := by
  rw [ba_tl, Lib.toList_data, Bool.eq_iff_iff, decide_eq_true_iff, beq_iff_eq]

set_option maxRecDepth 100000 in
set_option maxHeartbeats 4000000 in
theorem rmay_any (s : ByteArray) (k : Nat) (w : World) (hs : s.size ≤ 268435456) (hk : k ≤ 268435456) :
    Calls Tryd.prog 50 #[.string s, .int .i64 k] w fun e w' => e = .returned (.bool (mayL s.data.toList k)) ∧ w' = w := by
  have c1 := hide (fun w => rOdd_any s w (by omega))
  cases ho : oddL s.data.toList
  · rw [ho] at c1
    have HO := hide ho
    clear ho
    have c2 := hide (fun w => rBack_any s w (by omega))
    have c3 := hide (fun w => show Calls Tryd.prog 66 #[.string (ba (Lib.trimRightS s.data.toList bl2))] w fun e w' => e = .returned (.string (ba (Lib.trimS s.data.toList bl2))) ∧ w' = w by
      have := rFront_any (ba (Lib.trimRightS s.data.toList bl2)) w
      rw [ba_list] at this
      exact this)
    go_enter Tryd.func50, Tryd.ntmps50
    go_wp2_with (go_at_call 65; refine (unhide c1 _).mono ?_; rintro e w' ⟨rfl, rfl⟩)
    clear c1
    go_loop [6] (fun i => ∃ j : Nat, j ≤ s.size ∧ i = .int .i64 j ∧ Hid (∀ m (hm : m < s.size), m < j → s[m] ≠ 10)) (fun i => s.size - (intOf i).toNat)
    case atStart => exact ⟨0, Nat.zero_le _, rfl, hide (fun m _ h => absurd h (Nat.not_lt_zero _))⟩
    case round =>
      obtain ⟨j, hj, rfl, HZ⟩ := hrel
      by_cases hlt : j < s.size
      · by_cases h10 : s[j] = 10
        · have HF := hide (show mayL s.data.toList k = false by
            have hm : (10 : UInt8) ∈ s.data.toList := by rw [← h10]; exact List.getElem_mem (l := s.data.toList) (by simpa using hlt)
            have hl : lineL s.data.toList = false := by unfold lineL; simp [hm]
            unfold mayL firL furL
            rw [hl]
            simp)
          have e1 : ((s[j].toNat : Int) == 10) = true := by rw [h10]; rfl
          clear h10 HZ c2 c3
          go_wp2_with fail
          go_ret
          exact ⟨ret_bool (unhide HF).symm, rfl⟩
        · have HZ2 := hide (show ∀ m (hm : m < s.size), m < j + 1 → s[m] ≠ 10 from fun m hm hmj => by
            by_cases e : m < j
            · exact unhide HZ m hm e
            · obtain rfl : m = j := by omega
              exact h10)
          have e1 : ((s[j].toNat : Int) == 10) = false := by
            rw [Bool.eq_false_iff]
            intro h
            have h2 : (s[j].toNat : Int) = 10 := by simpa using h
            exact h10 (UInt8.toNat_inj.1 (by show s[j].toNat = 10; omega))
          clear h10 HZ c2 c3
          go_wp2_with fail
          go_round
          case rel => exact ⟨j + 1, by omega, by go_num, HZ2⟩
          case measure => simp [intOf]; omega
      · have HL := hide (show lineL s.data.toList = true by
          unfold lineL
          rw [unhide HO]
          simp only [Bool.not_false, Bool.true_and, decide_eq_true_eq]
          intro hm
          obtain ⟨i, hi, e⟩ := List.getElem_of_mem hm
          exact unhide HZ i (by simpa using hi) (by simp at hi; omega) e)
        clear HZ HO
        by_cases hk0 : k = 0
        · subst hk0
          have hq := ba_beq2 (Lib.trimS s.data.toList bl2) s
          have HF := hide (show mayL s.data.toList 0 = decide (Lib.trimS s.data.toList bl2 = s.data.toList) by unfold mayL firL; rw [unhide HL]; simp)
          generalize decide (Lib.trimS s.data.toList bl2 = s.data.toList) = q at *
          generalize ba (Lib.trimS s.data.toList bl2) = t1 at *
          generalize ba (Lib.trimRightS s.data.toList bl2) = t2 at *
          go_wp2_with (first | (go_at_call 67; refine (unhide c2 _).mono ?_; rintro e w2 ⟨rfl, rfl⟩) | (go_at_call 66; refine (unhide c3 _).mono ?_; rintro e w3 ⟨rfl, rfl⟩))
          go_ret
          exact ⟨ret_bool (unhide HF).symm, rfl⟩
        · have k0 : ((k : Int) == 0) = false := by simp; omega
          have hq := ba_beq2 (Lib.trimRightS s.data.toList bl2) s
          by_cases hz : s.size = 0
          · have HF := hide (show mayL s.data.toList k = false by
              have hn : s.data.toList = [] := List.length_eq_zero_iff.1 (by simpa using hz)
              unfold mayL furL
              rw [if_neg hk0, hn]
              simp)
            have e1 : ¬ (0 : Int) < (s.size : Int) := by omega
            clear hq hk0 hz c2 c3
            go_wp2_with fail
            go_ret
            exact ⟨ret_bool (unhide HF).symm, rfl⟩
          · have HF := hide (show mayL s.data.toList k = decide (Lib.trimRightS s.data.toList bl2 = s.data.toList) by
              have hn : s.data.toList ≠ [] := fun e => hz (by have := congrArg List.length e; simpa using this)
              unfold mayL furL
              rw [if_neg hk0, unhide HL]
              simp [hn])
            have e1 : (0 : Int) < (s.size : Int) := by omega
            clear hk0 hz c3
            generalize decide (Lib.trimRightS s.data.toList bl2 = s.data.toList) = q at *
            generalize ba (Lib.trimRightS s.data.toList bl2) = t2 at *
            go_wp2_with (first | (go_at_call 67; refine (unhide c2 _).mono ?_; rintro e w2 ⟨rfl, rfl⟩))
            go_ret
            exact ⟨ret_bool (unhide HF).symm, rfl⟩
  · rw [ho] at c1
    have HF := hide (show mayL s.data.toList k = false by
      have hl : lineL s.data.toList = false := by unfold lineL; rw [ho]; rfl
      unfold mayL firL furL
      rw [hl]
      simp)
    clear ho
    go_enter Tryd.func50, Tryd.ntmps50
    go_wp2_with (go_at_call 65; refine (unhide c1 _).mono ?_; rintro e w' ⟨rfl, rfl⟩)
    go_ret
    exact ⟨ret_bool (unhide HF).symm, rfl⟩
end Go.Proofs.YtiibobjbcgbknaaDoor
