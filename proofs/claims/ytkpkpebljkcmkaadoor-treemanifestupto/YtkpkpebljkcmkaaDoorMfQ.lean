import Derived.Test.YtkpkpebljkcmkaaDoorMfP
namespace Go.Proofs.YtkpkpebljkcmkaaDoor
open Go.RowKit

set_option maxRecDepth 100000 in
set_option maxHeartbeats 4000000 in
theorem stillFiles_yes {w : World} {B : Nat} {u : Value} {fs : List (List Value)} (hl : fs.length ≤ 1048576) (h : Fb w B fs) (k : Rws 40 34 w u fs) :
    Calls Tryd.prog 25 #[.slice (some ⟨B, 0, none⟩) fs.length (fs.length + 1), u] w fun e w' => e = .returned (.bool true) ∧ ∃ n, w' = w.drewN n := by
  obtain ⟨a, c, rfl⟩ := k.form
  have c0 := h.mark
  unfold mark at c0
  have HC := hide (sameFiles_yes (Nat.le_trans hl (by decide)) (h.rws (fs.length + 1)) k)
  obtain ⟨N, hN⟩ : ∃ N, fs.length = N := ⟨_, rfl⟩
  rw [hN] at hl HC c0 ⊢
  have hw1 : IntKind.i64.wrap ((N : Int) + 1) = (N : Int) + 1 := IntWalk.i64_in _ (by omega)
  have hcz : (0 : Int) ≤ (N : Int) + 1 := by omega
  have hcy : (N : Int) < (N : Int) + 1 := by omega
  clear h k hN
  go_enter Tryd.func25, Tryd.ntmps25
  go_wp2_with (first
    | (go_at_call 9; refine (unhide HC).mono ?_; rintro e w1 ⟨rfl, n, rfl⟩))
  go_ret
  exact ⟨rfl, n, rfl⟩
end Go.Proofs.YtkpkpebljkcmkaaDoor
