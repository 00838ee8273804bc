import Derived.Test.YtiibobjbcgbknaaDoorSbR
import Derived.Test.YtiibobjbcgbknaaDoorStY
import Derived.Shelf.Strings.Search3
namespace Go.Proofs.YtiibobjbcgbknaaDoor
open Go.RowKit

theorem idxB_no : ∀ (s : Bs), (10 : UInt8) ∉ s → Lib.indexByte s 10 = -1
  | [], _ => rfl
  | b :: l, h => by
    have hb : (b == 10) = false := by
      rw [beq_eq_false_iff_ne]
      exact fun e => h (by rw [e]; exact List.mem_cons_self)
    unfold Lib.indexByte
    rw [hb, idxB_no l fun h' => h (List.mem_cons_of_mem _ h')]
    rfl
theorem cHas10 (s : Bs) (w : World) (h : (10 : UInt8) ∉ s) :
    Calls Tryd.prog 77 #[.string (ba s), .string ⟨#[10]⟩] w fun e w' => e = .returned (.bool false) ∧ w' = w := by
  refine (Any.strings_Contains_one Tryd.lays144 (ba s) 10 w).mono ?_
  rintro e w' ⟨rfl, rfl⟩
  refine ⟨ret_bool ?_, rfl⟩
  rw [ba_list]
  have : Lib.indexByte s 10 = -1 := idxB_no s h
  rw [this]
  rfl

set_option maxRecDepth 100000 in
set_option maxHeartbeats 1000000 in
theorem isLine_yes (s : Bs) (w : World) (h : lineL s = true) (hs : s.length ≤ 268435456) :
    Calls Tryd.prog 62 #[.string (ba s)] w fun e w' => e = .returned (.bool true) ∧ w' = w := by
  obtain ⟨ho, h10⟩ := lineL_parts h
  have c1 := hide (show Calls Tryd.prog 72 #[.string (ba s)] w fun e w' => e = .returned (.bool false) ∧ w' = w by
    have := hasOdd_any (ba s) w (by rw [ba_size]; omega)
    rw [ba_list, ho] at this
    exact this)
  have c2 := hide (cHas10 s w h10)
  clear ho h10 h
  go_enter Tryd.func62, Tryd.ntmps62
  go_wp2_with (first | (go_at_call 72; refine (unhide c1).mono ?_; rintro e w1 ⟨rfl, rfl⟩) | (go_at_call 77; refine (unhide c2).mono ?_; rintro e w1 ⟨rfl, rfl⟩))
  go_ret
  exact ⟨rfl, rfl⟩

set_option maxRecDepth 100000 in
set_option maxHeartbeats 1000000 in
theorem isFirst_yes (s : Bs) (w : World) (h : firL s = true) (hs : s.length ≤ 268435456) :
    Calls Tryd.prog 47 #[.string (ba s)] w fun e w' => e = .returned (.bool true) ∧ Below w.heap.size w w' := by
  simp only [firL, Bool.and_eq_true, decide_eq_true_eq] at h
  have c1 := hide (isLine_yes s w h.1 hs)
  have c2 := hide (cTrim s w (by omega))
  rw [h.2] at c2
  clear h
  generalize ba s = u at *
  go_enter Tryd.func47, Tryd.ntmps47
  go_wp2_with (first | (go_at_call 62; refine (unhide c1).mono ?_; rintro e w1 ⟨rfl, rfl⟩) | (go_at_call 63; refine (unhide c2).mono ?_; rintro e w2 ⟨rfl, hb⟩; have HB := hide hb; clear hb))
  go_ret
  exact ⟨rfl, unhide HB⟩

set_option maxRecDepth 100000 in
set_option maxHeartbeats 1000000 in
theorem isFurther_yes (s : Bs) (w : World) (h : furL s = true) (hs : s.length ≤ 268435456) :
    Calls Tryd.prog 48 #[.string (ba s)] w fun e w' => e = .returned (.bool true) ∧ Below w.heap.size w w' := by
  simp only [furL, Bool.and_eq_true, decide_eq_true_eq] at h
  have c1 := hide (isLine_yes s w h.1 hs)
  have c2 := hide (cTrimR s w (by omega))
  rw [h.2.2] at c2
  have hne : (ba s).toList.isEmpty = false := by
    rw [ba_tl]
    cases s with
    | nil => exact absurd rfl h.2.1
    | cons a b => rfl
  clear h
  generalize ba s = u at *
  go_enter Tryd.func48, Tryd.ntmps48
  go_wp2_with (first | (go_at_call 62; refine (unhide c1).mono ?_; rintro e w1 ⟨rfl, rfl⟩) | (go_at_call 64; refine (unhide c2).mono ?_; rintro e w2 ⟨rfl, hb⟩; have HB := hide hb; clear hb))
  go_ret
  exact ⟨rfl, unhide HB⟩

end Go.Proofs.YtiibobjbcgbknaaDoor
