import Derived.Test.YtcdajbfoneifaaaDoorSoA
namespace Go.Proofs.YtcdajbfoneifaaaDoor
open Go.RowKit

set_option maxRecDepth 100000 in
set_option maxHeartbeats 4000000 in
/-- slices.rotateCmpFunc. -/
theorem rotate_any (w0 : World) (b o n cp x m e : Nat) (fv : Value) (f : Nat → Nat) (w : World) (hn : n < 70368744177664) (hx : x < m) (hm : m < e) (he : e ≤ n) (hS : Sw w0 b o n f w) :
    Calls Tryd.prog 53 #[.slice (some ⟨b, o, none⟩) n cp, .int .i64 x, .int .i64 m, .int .i64 e, fv] w fun r w' => r = .returned (.tuple #[]) ∧ Sw w0 b o n (rot f x m e) w' := by
  have S0 : Aside (Sw w0 b o n f w) := hS
  clear hS
  have hi0 : IntKind.i64.wrap ((m : Int) - (x : Int)) = ((m - x : Nat) : Int) := by rw [IntKind.wrap_i64]; omega
  have hj0 : IntKind.i64.wrap ((e : Int) - (m : Int)) = ((e - m : Nat) : Int) := by rw [IntKind.wrap_i64]; omega
  go_enter Tryd.func53, Tryd.ntmps53
  go_wp2
  go_loopg [10, 11] (m - x + (e - m)) (fun g1 vi vj wr => ∃ (i j : Nat) (g : Nat → Nat), vi = .int .i64 i ∧ vj = .int .i64 j ∧ 0 < i ∧ 0 < j ∧ i ≤ m - x ∧ j ≤ e - m ∧ i + j ≤ g1 ∧ Aside (Sw w0 b o n g wr) ∧ Hid (rot g (m - i) m (m + j) = rot f x m e))
  case atStart => exact ⟨m - x, e - m, f, by go_num, by go_num, by omega, by omega, by omega, by omega, by omega, S0, by show _ = _; rw [show m - (m - x) = x by omega, show m + (e - m) = e by omega]⟩
  case round =>
    clear S0 hi0 hj0
    obtain ⟨i, j, g, rfl, rfl, hi, hj, hi2, hj2, hg, S1, HR⟩ := hrel
    have r1 : IntKind.i64.wrap ((m : Int) - (i : Int)) = ((m - i : Nat) : Int) := by rw [IntKind.wrap_i64]; omega
    by_cases hne : i = j
    · subst hne
      have hb : ((i : Int) != (i : Int)) = false := by simp
      go_wp2_with (go_at_call 65; refine (swapRange_at w0 b o n cp _ _ _ (m - i) m i fv g _ (by first | rfl | omega | (rw [IntKind.wrap_i64]; omega)) (by first | rfl | omega | (rw [IntKind.wrap_i64]; omega)) (by first | rfl | omega | (rw [IntKind.wrap_i64]; omega)) hn (by omega) (by omega) S1.out).mono ?_; rintro e1 w1 ⟨rfl, hw1⟩)
      go_end0
      have e2 := HR.out
      rw [rot_even g (m - i) m i (by omega)] at e2
      exact ⟨rfl, e2 ▸ hw1⟩
    · have hb : ((i : Int) != (j : Int)) = true := by simp; omega
      have HN : Hid (¬ i = j) := hne
      clear hne
      by_cases hgt : j < i
      · have hz : (j : Int) < (i : Int) := by omega
        have r2 : IntKind.i64.wrap ((i : Int) - (j : Int)) = ((i - j : Nat) : Int) := by rw [IntKind.wrap_i64]; omega
        go_wp2_with (go_at_call 65; refine (swapRange_at w0 b o n cp _ _ _ (m - i) m j fv g _ (by first | rfl | omega | (rw [IntKind.wrap_i64]; omega)) (by first | rfl | omega | (rw [IntKind.wrap_i64]; omega)) (by first | rfl | omega | (rw [IntKind.wrap_i64]; omega)) hn (by omega) (by omega) S1.out).mono ?_; rintro e1 w1 ⟨rfl, hw1⟩)
        go_roundg (i - j + j)
        case measure => omega
        case rel => exact ⟨i - j, j, swr g (m - i) m j, by go_num, rfl, by omega, hj, by omega, hj2, by omega, hw1, by
            show _ = _
            rw [← HR.out, rot_left g (m - i) m i j (by omega) hgt, show m - i + j = m - (i - j) by omega]⟩
      · have hz : ¬ (j : Int) < (i : Int) := by omega
        have hlt : i < j := by have := HN.out; omega
        have r2 : IntKind.i64.wrap ((j : Int) - (i : Int)) = ((j - i : Nat) : Int) := by rw [IntKind.wrap_i64]; omega
        have r3 : IntKind.i64.wrap ((m : Int) + (j : Int)) = ((m + j : Nat) : Int) := by rw [IntKind.wrap_i64]; omega
        have r4 : IntKind.i64.wrap ((m : Int) + (j : Int) - (i : Int)) = ((m + j - i : Nat) : Int) := by rw [IntKind.wrap_i64]; omega
        go_wp2_with (go_at_call 65; refine (swapRange_at w0 b o n cp _ _ _ (m - i) (m + j - i) i fv g _ (by first | rfl | omega | (rw [IntKind.wrap_i64]; omega)) (by first | rfl | omega | (rw [IntKind.wrap_i64]; omega)) (by first | rfl | omega | (rw [IntKind.wrap_i64]; omega)) hn (by omega) (by omega) S1.out).mono ?_; rintro e1 w1 ⟨rfl, hw1⟩)
        go_roundg (i + (j - i))
        case measure => omega
        case rel => exact ⟨i, j - i, swr g (m - i) (m + j - i) i, rfl, by go_num, hi, by omega, hi2, by omega, by omega, hw1, by
            show _ = _
            rw [← HR.out, rot_right g (m - i) m i j (by omega) hlt]⟩
end Go.Proofs.YtcdajbfoneifaaaDoor
