import Derived.Test.YticpjooejeibnaaLwH
namespace Go.Proofs.Yticpjooejeibnaa
open Go.RowKit

theorem right_walk (n : Int) (N : Nat) (ln : Nat → Nat) (L : Nat → Nat → Int) (m : Nat) (f : Nat → Int) (B : Int) (cn : Nat) (cand : Nat → Bool) (M : Int) (ca qa na : Option Addr) (cc qc nc : Nat) (w : World) (hN : N * 24 ≤ 140737488351232) (hm : m * 8 ≤ 140737488351232) (hln : ∀ k, k < N → ln k * 8 ≤ 140737488351232) (hR : Rr w ca N ln L) (hQ : Ri w qa m f) (hC : Rt w na cn cand) :
    Calls Try.prog 6 #[.int .i64 n, .slice ca N cc, .slice qa m qc, .int .i64 B, .slice na cn nc, .int .i64 M] w fun x w' => x = .returned (.bool true) ∧ Below w.heap.size w w' := by
  cases hp : prob n B N ln L m f with
  | false => exact right_bad hp cn ca qa na cc qc nc M w hN hm hln hR hQ
  | true =>
    obtain ⟨k, rfl⟩ : ∃ k : Nat, n = (k : Int) := ⟨_, (prob_ok hp).2.1⟩
    exact right_ok hp cn cand ca qa na cc qc nc M w hN hm hln hR hQ hC
end Go.Proofs.Yticpjooejeibnaa
