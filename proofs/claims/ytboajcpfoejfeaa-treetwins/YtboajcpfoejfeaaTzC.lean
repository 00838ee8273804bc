import Derived.Test.YtboajcpfoejfeaaTzB
namespace Go.Proofs.Ytboajcpfoejfeaa
open Go.RowKit Go.Maps

set_option maxRecDepth 100000 in
set_option maxHeartbeats 4000000 in
theorem stillFiles_yes {w : World} {B c : Nat} {v : Value} {fs : List Fi} (hl : fs.length ≤ 2513169434843) (hc : fs.length + 1 ≤ c) (h : Fb w B fs) (k : Fis w v fs) :
    Calls Try.prog 8 #[.slice (some ⟨B, 0, none⟩) fs.length c, v] w fun e w' => e = .returned (.bool true) ∧ ∃ n, w' = w.drewN n := by
  obtain ⟨a, c2, rfl⟩ := k.form
  have C := hide (sameFiles_yes hl (h.fis c) k)
  have hm : ∀ n, (w.drewN n).cell? ⟨B, fs.length * 34, none⟩ = some (.string ⟨#[77, 65, 82, 75]⟩) := fun n => h.mark
  obtain ⟨N, hN⟩ : ∃ N, fs.length = N := ⟨_, rfl⟩
  rw [hN] at C hm hl hc ⊢
  clear h k hN
  have h1 : ((N : Int) + 1 ≤ (c : Int)) := by omega
  go_enter Try.func8, Try.ntmps8
  go_wp2_with (go_at_call 16; refine (unhide C).mono ?_; rintro e w' ⟨rfl, n, rfl⟩; have hm' := hm n)
  go_ret
  exact ⟨rfl, n, rfl⟩
end Go.Proofs.Ytboajcpfoejfeaa
