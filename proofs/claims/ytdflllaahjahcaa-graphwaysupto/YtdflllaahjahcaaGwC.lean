import Derived.Test.YtdflllaahjahcaaGwA
namespace Go.Proofs.Ytdflllaahjahcaa
open Go.RowKit

theorem apart3 {s8 s9 s10 s11 s12 n k1 k3 kp c1 c3 cq : Nat} {C1 C3 Cp : Option Addr} {V : Nat → Int} {W : World} (h1 : Rw s8 s9 C1 k1 n c1 V W) (h3 : Rw s11 s12 C3 k3 n c3 V W) (hp : Rw s10 s11 Cp kp 2 cq pF W) (ho : s8 ≤ s9 ∧ s9 ≤ s10 ∧ s10 ≤ s11 ∧ s11 ≤ s12) (hlo : s8 ≤ W.heap.size) (hn : n ≤ 1099511627776) :
    Calls Try.prog 23 #[.slice (some ⟨W.heap.size, 0, none⟩) 3 3] (W.alloc (.cells #[.slice C1 n c1, .slice C3 n c3, .slice Cp 2 cq] 23)) fun x w' => x = .returned (.bool true) ∧ Fx (fun b => (s8 ≤ b ∧ b < s9) ∨ (s10 ≤ b ∧ b < s12)) W w' ∧ Below s8 W w' := by
  have hbA := al W (.cells #[.slice C1 n c1, .slice C3 n c3, .slice Cp 2 cq] 23)
  have g1 : C1 = some ⟨k1, 0, none⟩ → s8 ≤ k1 ∧ k1 < s9 := fun e => ⟨by rcases h1.1 with ⟨q, _⟩ | ⟨_, _, q, _⟩; · rw [e] at q; cases q
                                                                        · exact q, h1.2 e⟩
  have g3 : C3 = some ⟨k3, 0, none⟩ → s11 ≤ k3 ∧ k3 < s12 := fun e => ⟨by rcases h3.1 with ⟨q, _⟩ | ⟨_, _, q, _⟩; · rw [e] at q; cases q
                                                                          · exact q, h3.2 e⟩
  have gp : Cp = some ⟨kp, 0, none⟩ → s10 ≤ kp ∧ kp < s11 := fun e => ⟨by rcases hp.1 with ⟨q, _⟩ | ⟨_, _, q, _⟩; · rw [e] at q; cases q
                                                                          · exact q, hp.2 e⟩
  have hrp : Rp s8 W.heap.size 3 (fun k => match k with | 0 => C1 | 1 => C3 | _ => Cp) (fun k => match k with | 0 => k1 | 1 => k3 | _ => kp) (fun k => match k with | 0 => n | 1 => n | _ => 2) (fun k => match k with | 0 => c1 | 1 => c3 | _ => cq) (fun k => match k with | 0 => V | 1 => V | _ => pF) (W.alloc (.cells #[.slice C1 n c1, .slice C3 n c3, .slice Cp 2 cq] 23)) := by
    refine ⟨⟨_, heap_new _ _, fun k hk => ?_⟩, fun k hk => ?_, fun i j hi hj hij e1 e2 => ?_⟩
    · match k, hk with
      | 0, _ => rfl
      | 1, _ => rfl
      | 2, _ => rfl
    · match k, hk with
      | 0, _ => exact (h1.later hbA).low (by omega)
      | 1, _ => exact (h3.later hbA).low (by omega)
      | 2, _ => exact (hp.later hbA).low (by omega)
    · match i, j, hi, hj with
      | 0, 0, _, _ => exact absurd rfl hij
      | 0, 1, _, _ => have := g1 e1; have := g3 e2; show k1 ≠ k3; omega
      | 0, 2, _, _ => have := g1 e1; have := gp e2; show k1 ≠ kp; omega
      | 1, 0, _, _ => have := g3 e1; have := g1 e2; show k3 ≠ k1; omega
      | 1, 1, _, _ => exact absurd rfl hij
      | 1, 2, _, _ => have := g3 e1; have := gp e2; show k3 ≠ kp; omega
      | 2, 0, _, _ => have := gp e1; have := g1 e2; show kp ≠ k1; omega
      | 2, 1, _, _ => have := gp e1; have := g3 e2; show kp ≠ k3; omega
      | 2, 2, _, _ => exact absurd rfl hij
  refine (apart_any (by omega) (fun k hk => ?_) (Nat.le_trans hlo hbA.size) hrp).mono fun x w' hx => ⟨hx.1, ?_, ?_⟩
  · match k, hk with
    | 0, _ => exact hn
    | 1, _ => exact hn
    | 2, _ => show 2 ≤ 1099511627776; omega
  · refine ⟨Nat.le_trans hbA.size hx.2.size, fun b hb hn => ?_⟩
    refine (hx.2.kb b (Nat.lt_of_lt_of_le hb hbA.size) fun k hk e => ?_).trans (hbA.block b hb)
    match k, hk with
    | 0, _ => have := g1 e; show b ≠ k1; intro q; exact hn (by omega)
    | 1, _ => have := g3 e; show b ≠ k3; intro q; exact hn (by omega)
    | 2, _ => have := gp e; show b ≠ kp; intro q; exact hn (by omega)
  · exact (hbA.mono hlo).trans hx.2.bel
end Go.Proofs.Ytdflllaahjahcaa
