import Derived.Test.YtoblmpfdbcmcaaaCoI
namespace Go.Proofs.Ytoblmpfdbcmcaaa
open Go.RowKit

set_option maxRecDepth 100000 in
set_option maxHeartbeats 4000000 in
theorem blames_bad {n B : Int} {N : Nat} {ln : Nat → Nat} {L : Nat → Nat → Int} (hp : prob n B N ln L 0 nof = false) (cn : Nat) (ca na : Option Addr) (cc nc : Nat) (w : World) (hN : N * 24 ≤ 140737488351232) (hln : ∀ k, k < N → ln k * 8 ≤ 140737488351232) (hR : Rr w ca N ln L) :
    Calls Try.prog 8 #[.int .i64 n, .slice ca N cc, .int .i64 B, .slice na cn nc] w fun x w' => x = .returned (.bool true) ∧ Below w.heap.size w w' := by
  have HLN := hide (show ∀ k, k < N → ln k ≤ 140737488355328 from fun k hk => by have := hln k hk; omega)
  have HLN2 := hide hln
  have HR := hide hR
  clear hR hln
  have HCO := hide (fun (w1 : World) {ca : Option Addr} {cc : Nat} (h : Rr w1 ca N ln L) => Core_bad (cc := cc) hp hN (unhide HLN) h)
  have HSO := hide (fun (w1 : World) {ca : Option Addr} {cc : Nat} (h : Rr w1 ca N ln L) => Solve_bad (cc := cc) (qa := none) (qc := 0) hp (by omega) (by omega) (unhide HLN) h (fun h0 => absurd h0 (Nat.lt_irrefl _)))
  have HLT := hide (fun (w1 : World) (hb : Below w.heap.size w w1) => twin_any N ln L ca cc w1 hN (unhide HLN2) ((unhide HR).later hb))
  clear hp
  go_enter Try.func8, Try.ntmps8
  go_upto_region 4 with (first | (go_at_call 11; refine (lives_any _).mono ?_; rintro x1 w1 ⟨rfl, hb1⟩; have HB1 := hide hb1; clear hb1) | (go_at_call 14; refine (unhide HLT _ (unhide HB1)).mono ?_; rintro x3 w3 ⟨tb, tcb, tg, tcp, rfl, htw, hb3⟩; have HTW := hide htw; have HB3 := hide (bl_t (unhide HB1) hb3); clear htw hb3) | (go_at_call 29; refine (unhide HCO _ (unhide HTW).rr).mono ?_; rintro x4 w4 ⟨e, he, rfl, hb4⟩; have HE := hide he; have HB4 := hide (bl_t (unhide HB3) hb4); clear he hb4))
  go_upto_region 5 with (first | (go_at_call 14; refine (unhide HLT _ (unhide HB4)).mono ?_; rintro x5 w5 ⟨ub, ucb, ug, ucp, rfl, htw, hb5⟩; have HTW5 := hide htw; have HB5 := hide (bl_t (unhide HB4) hb5); clear htw hb5) | (go_at_call 13; refine (unhide HSO _ (unhide HTW5).rr).mono ?_; rintro x6 w6 ⟨e6, he6, rfl, hb6⟩; obtain rfl : e = e6 := (unhide HE).trans he6.symm; have HB6 := hide (bl_t (unhide HB5) hb6); clear he6 hb6))
  have hz := heap_new w6 (.cells #[.int .i64 0, .slice none 0 0, .int .i64 0] 29)
  have HB7 := hide (bl_t (unhide HB6) (al w6 (.cells #[.int .i64 0, .slice none 0 0, .int .i64 0] 29)))
  have c0 : (w6.alloc (.cells #[.int .i64 0, .slice none 0 0, .int .i64 0] 29)).cell? ⟨w6.heap.size, 0, none⟩ = some (.int .i64 0) := (cell_blk hz 0).1
  have hne : e ≠ 0 := by
    have := unhide HE
    split at this <;> omega
  clear hz HTW HTW5 HB1 HB3 HB4 HB5 HB6 HSO HCO HE HLT
  generalize w6.alloc (.cells #[.int .i64 0, .slice none 0 0, .int .i64 0] 29) = W7 at *
  generalize w6.heap.size = rb at *
  go_wp2
  go_ret
  exact ⟨rfl, unhide HB7⟩
/-- ANY PROBLEM. -/
theorem blames_walk (n B : Int) (N : Nat) (ln : Nat → Nat) (L : Nat → Nat → Int) (cn : Nat) (cand : Nat → Bool) (ca na : Option Addr) (cc nc : Nat) (w : World) (hN : N * 24 ≤ 140737488351232) (hln : ∀ k, k < N → ln k * 8 ≤ 140737488351232) (hR : Rr w ca N ln L) (hC : Rt w na cn cand) :
    Calls Try.prog 8 #[.int .i64 n, .slice ca N cc, .int .i64 B, .slice na cn nc] w fun x w' => x = .returned (.bool true) ∧ Below w.heap.size w w' := by
  cases hp : prob n B N ln L 0 nof with
  | true =>
    obtain ⟨_, e1, _⟩ := prob_ok hp
    obtain ⟨k, rfl⟩ : ∃ k : Nat, n = (k : Int) := ⟨n.toNat, by omega⟩
    exact blames_ok hp cn cand ca na cc nc w hN hln hR hC
  | false => exact blames_bad hp cn ca na cc nc w hN hln hR
end Go.Proofs.Ytoblmpfdbcmcaaa
