import Derived.Test.YtfnbclehlikbkaaDoorFits
import Derived.Test.YtfnbclehlikbkaaDoorPre
namespace Go.Proofs.YtfnbclehlikbkaaDoor
open Go.RowKit

theorem fitsT_of (a b : ByteArray) (op : Int) (h1 : 1 ≤ op) (h2 : op ≤ 5) (X n : Int) (h : cmpT a b = (X, n)) : fitsT a op b = if n = 0 then (holdsB X op, 0) else (false, n) := by
  unfold cmpT at h
  unfold fitsT
  rw [if_pos ⟨by omega, h2⟩]
  by_cases e1 : (parse a).2 = 0
  · rw [if_pos e1] at h ⊢
    rw [if_neg (by omega)]
    by_cases e2 : (parse b).2 = 0
    · rw [if_pos e2] at h ⊢
      cases h
      rfl
    · rw [if_neg e2] at h ⊢
      cases h
      rw [if_neg e2]
  · rw [if_neg e1] at h ⊢
    cases h
    rw [if_neg e1]

theorem cmpT_rng (a b : ByteArray) (X n : Int) (h : cmpT a b = (X, n)) : (n ≠ 0 ∧ X = 0) ∨ (n = 0 ∧ (X = -1 ∨ X = 0 ∨ X = 1)) := by
  unfold cmpT at h
  by_cases e1 : (parse a).2 = 0
  · rw [if_pos e1] at h
    by_cases e2 : (parse b).2 = 0
    · rw [if_pos e2] at h
      cases h
      exact .inr ⟨rfl, pre_ordV.rng _ _⟩
    · rw [if_neg e2] at h
      cases h
      exact .inl ⟨e2, rfl⟩
  · rw [if_neg e1] at h
    cases h
    exact .inl ⟨e1, rfl⟩

set_option maxHeartbeats 4000000 in
/-- DebverBounds, AT ANY TWO TEXTS. -/
theorem debverBounds_walk (a b : ByteArray) (ha : a.size ≤ maxLen) (hb : b.size ≤ maxLen) (w : World) :
    Calls Tryd.prog 4 #[.string a, .string b] w fun x w' => x = .returned (.bool true) ∧ Below w.heap.size w w' := by
  rcases hc : cmpT a b with ⟨X, n⟩
  have hr := cmpT_rng a b X n hc
  have k0 := hide (fun w => Compare_any a b ha hb _ _ hc w)
  have kf : ∀ op, 1 ≤ op → op ≤ 5 → ∀ w, Calls Tryd.prog 15 #[.string a, .int .i64 op, .string b] w fun x w' => x = .returned (.tuple #[.bool (if n = 0 then holdsB X op else false), .int .i64 n]) ∧ Below w.heap.size w w' := by
    intro op h1 h2 w
    refine Fits_any a op b ha hb _ _ ?_ w
    rw [fitsT_of a b op h1 h2 X n hc]
    by_cases e : n = 0
    · rw [if_pos e, if_pos e, e]
    · rw [if_neg e, if_neg e]
  have k1 := hide (kf 1 (by decide) (by decide))
  have k2 := hide (kf 2 (by decide) (by decide))
  have k3 := hide (kf 3 (by decide) (by decide))
  have k4 := hide (kf 4 (by decide) (by decide))
  have k5 := hide (kf 5 (by decide) (by decide))
  clear kf hc ha hb
  rcases hr with ⟨hn, rfl⟩ | ⟨rfl, rfl | rfl | rfl⟩
  · have n1 : (n != 0) = true := by simpa using hn
    rw [if_neg hn] at k1 k2 k3 k4 k5
    clear hn
    go_enter Tryd.func4, Tryd.ntmps4
    go_wp2_with fail
    refine (alive_any _).mono ?_
    rintro x w0 ⟨rfl, hb0⟩
    have hz0 := hb0.size
    have hB0 := hide hb0
    clear hb0
    go_wp2_with fail
    refine (unhide k0 _).mono ?_
    rintro x w1 ⟨rfl, hb1⟩
    have hz1 := hb1.size
    have hB1 := hide ((unhide hB0).trans (hb1.mono (by omega)))
    clear hb1
    go_wp2_with fail
    refine (unhide k1 _).mono ?_
    rintro x w2 ⟨rfl, hb2⟩
    have hz2 := hb2.size
    have hB2 := hide ((unhide hB1).trans (hb2.mono (by omega)))
    clear hb2
    go_wp2_with fail
    refine (unhide k2 _).mono ?_
    rintro x w3 ⟨rfl, hb3⟩
    have hz3 := hb3.size
    have hB3 := hide ((unhide hB2).trans (hb3.mono (by omega)))
    clear hb3
    go_wp2_with fail
    refine (unhide k3 _).mono ?_
    rintro x w4 ⟨rfl, hb4⟩
    have hz4 := hb4.size
    have hB4 := hide ((unhide hB3).trans (hb4.mono (by omega)))
    clear hb4
    go_wp2_with fail
    refine (unhide k4 _).mono ?_
    rintro x w5 ⟨rfl, hb5⟩
    have hz5 := hb5.size
    have hB5 := hide ((unhide hB4).trans (hb5.mono (by omega)))
    clear hb5
    go_wp2_with fail
    refine (unhide k5 _).mono ?_
    rintro x w6 ⟨rfl, hb6⟩
    have hz6 := hb6.size
    have hB6 := hide ((unhide hB5).trans (hb6.mono (by omega)))
    clear hb6
    go_wp2_with fail
    go_ret
    exact ⟨rfl, unhide hB6⟩
  · rw [if_pos rfl, show holdsB (-1) 1 = true from rfl] at k1
    rw [if_pos rfl, show holdsB (-1) 2 = true from rfl] at k2
    rw [if_pos rfl, show holdsB (-1) 3 = false from rfl] at k3
    rw [if_pos rfl, show holdsB (-1) 4 = false from rfl] at k4
    rw [if_pos rfl, show holdsB (-1) 5 = false from rfl] at k5
    go_enter Tryd.func4, Tryd.ntmps4
    go_wp2_with fail
    refine (alive_any _).mono ?_
    rintro x w0 ⟨rfl, hb0⟩
    have hz0 := hb0.size
    have hB0 := hide hb0
    clear hb0
    go_wp2_with fail
    refine (unhide k0 _).mono ?_
    rintro x w1 ⟨rfl, hb1⟩
    have hz1 := hb1.size
    have hB1 := hide ((unhide hB0).trans (hb1.mono (by omega)))
    clear hb1
    go_wp2_with fail
    refine (unhide k1 _).mono ?_
    rintro x w2 ⟨rfl, hb2⟩
    have hz2 := hb2.size
    have hB2 := hide ((unhide hB1).trans (hb2.mono (by omega)))
    clear hb2
    go_wp2_with fail
    refine (unhide k2 _).mono ?_
    rintro x w3 ⟨rfl, hb3⟩
    have hz3 := hb3.size
    have hB3 := hide ((unhide hB2).trans (hb3.mono (by omega)))
    clear hb3
    go_wp2_with fail
    refine (unhide k3 _).mono ?_
    rintro x w4 ⟨rfl, hb4⟩
    have hz4 := hb4.size
    have hB4 := hide ((unhide hB3).trans (hb4.mono (by omega)))
    clear hb4
    go_wp2_with fail
    refine (unhide k4 _).mono ?_
    rintro x w5 ⟨rfl, hb5⟩
    have hz5 := hb5.size
    have hB5 := hide ((unhide hB4).trans (hb5.mono (by omega)))
    clear hb5
    go_wp2_with fail
    refine (unhide k5 _).mono ?_
    rintro x w6 ⟨rfl, hb6⟩
    have hz6 := hb6.size
    have hB6 := hide ((unhide hB5).trans (hb6.mono (by omega)))
    clear hb6
    go_wp2_with fail
    go_ret
    exact ⟨rfl, unhide hB6⟩
  · rw [if_pos rfl, show holdsB 0 1 = false from rfl] at k1
    rw [if_pos rfl, show holdsB 0 2 = true from rfl] at k2
    rw [if_pos rfl, show holdsB 0 3 = true from rfl] at k3
    rw [if_pos rfl, show holdsB 0 4 = true from rfl] at k4
    rw [if_pos rfl, show holdsB 0 5 = false from rfl] at k5
    go_enter Tryd.func4, Tryd.ntmps4
    go_wp2_with fail
    refine (alive_any _).mono ?_
    rintro x w0 ⟨rfl, hb0⟩
    have hz0 := hb0.size
    have hB0 := hide hb0
    clear hb0
    go_wp2_with fail
    refine (unhide k0 _).mono ?_
    rintro x w1 ⟨rfl, hb1⟩
    have hz1 := hb1.size
    have hB1 := hide ((unhide hB0).trans (hb1.mono (by omega)))
    clear hb1
    go_wp2_with fail
    refine (unhide k1 _).mono ?_
    rintro x w2 ⟨rfl, hb2⟩
    have hz2 := hb2.size
    have hB2 := hide ((unhide hB1).trans (hb2.mono (by omega)))
    clear hb2
    go_wp2_with fail
    refine (unhide k2 _).mono ?_
    rintro x w3 ⟨rfl, hb3⟩
    have hz3 := hb3.size
    have hB3 := hide ((unhide hB2).trans (hb3.mono (by omega)))
    clear hb3
    go_wp2_with fail
    refine (unhide k3 _).mono ?_
    rintro x w4 ⟨rfl, hb4⟩
    have hz4 := hb4.size
    have hB4 := hide ((unhide hB3).trans (hb4.mono (by omega)))
    clear hb4
    go_wp2_with fail
    refine (unhide k4 _).mono ?_
    rintro x w5 ⟨rfl, hb5⟩
    have hz5 := hb5.size
    have hB5 := hide ((unhide hB4).trans (hb5.mono (by omega)))
    clear hb5
    go_wp2_with fail
    refine (unhide k5 _).mono ?_
    rintro x w6 ⟨rfl, hb6⟩
    have hz6 := hb6.size
    have hB6 := hide ((unhide hB5).trans (hb6.mono (by omega)))
    clear hb6
    go_wp2_with fail
    go_ret
    exact ⟨rfl, unhide hB6⟩
  · rw [if_pos rfl, show holdsB 1 1 = false from rfl] at k1
    rw [if_pos rfl, show holdsB 1 2 = false from rfl] at k2
    rw [if_pos rfl, show holdsB 1 3 = false from rfl] at k3
    rw [if_pos rfl, show holdsB 1 4 = true from rfl] at k4
    rw [if_pos rfl, show holdsB 1 5 = true from rfl] at k5
    go_enter Tryd.func4, Tryd.ntmps4
    go_wp2_with fail
    refine (alive_any _).mono ?_
    rintro x w0 ⟨rfl, hb0⟩
    have hz0 := hb0.size
    have hB0 := hide hb0
    clear hb0
    go_wp2_with fail
    refine (unhide k0 _).mono ?_
    rintro x w1 ⟨rfl, hb1⟩
    have hz1 := hb1.size
    have hB1 := hide ((unhide hB0).trans (hb1.mono (by omega)))
    clear hb1
    go_wp2_with fail
    refine (unhide k1 _).mono ?_
    rintro x w2 ⟨rfl, hb2⟩
    have hz2 := hb2.size
    have hB2 := hide ((unhide hB1).trans (hb2.mono (by omega)))
    clear hb2
    go_wp2_with fail
    refine (unhide k2 _).mono ?_
    rintro x w3 ⟨rfl, hb3⟩
    have hz3 := hb3.size
    have hB3 := hide ((unhide hB2).trans (hb3.mono (by omega)))
    clear hb3
    go_wp2_with fail
    refine (unhide k3 _).mono ?_
    rintro x w4 ⟨rfl, hb4⟩
    have hz4 := hb4.size
    have hB4 := hide ((unhide hB3).trans (hb4.mono (by omega)))
    clear hb4
    go_wp2_with fail
    refine (unhide k4 _).mono ?_
    rintro x w5 ⟨rfl, hb5⟩
    have hz5 := hb5.size
    have hB5 := hide ((unhide hB4).trans (hb5.mono (by omega)))
    clear hb5
    go_wp2_with fail
    refine (unhide k5 _).mono ?_
    rintro x w6 ⟨rfl, hb6⟩
    have hz6 := hb6.size
    have hB6 := hide ((unhide hB5).trans (hb6.mono (by omega)))
    clear hb6
    go_wp2_with fail
    go_ret
    exact ⟨rfl, unhide hB6⟩

end Go.Proofs.YtfnbclehlikbkaaDoor
