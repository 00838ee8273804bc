import Derived.Test.YticpjooejeibnaaLwB
import Derived.Test.YticpjooejeibnaaLwC
namespace Go.Proofs.Yticpjooejeibnaa
open Go.RowKit

set_option maxRecDepth 100000 in
set_option maxHeartbeats 2000000 in
theorem enough_walk (n : Int) (N : Nat) (ln : Nat → Nat) (L : Nat → Nat → Int) (m : Nat) (f : Nat → Int) (ca qa : Option Addr) (cc qc : Nat) (w : World) (hN : N * 24 ≤ 140737488351232) (hm : m * 8 ≤ 140737488351232) (hln : ∀ k, k < N → ln k * 8 ≤ 140737488351232) (hR : Rr w ca N ln L) (hQ : Ri w qa m f) :
    Calls Try.prog 3 #[.int .i64 n, .slice ca N cc, .slice qa m qc] w fun x w' => x = .returned (.bool true) ∧ Below w.heap.size w w' := by
  have HLN := hide (show ∀ k, k < N → ln k ≤ 140737488355328 from fun k hk => by have := hln k hk; omega)
  have HLN2 := hide hln
  have HR := hide hR
  have HQ := hide hQ
  clear hR hQ hln
  by_cases h1 : n < 0 ∨ n > 58
  · have hh : n < 0 ∨ n > 58 := h1
    by_cases a : n < 0
    · go_enter Try.func3, Try.ntmps3
      go_wp2_with (go_at_call 11; refine (lives_any _).mono ?_; rintro x1 w1 ⟨rfl, hb1⟩; have HB1 := hide hb1; clear hb1)
      go_ret
      exact ⟨rfl, unhide HB1⟩
    · have b : n > 58 := by omega
      go_enter Try.func3, Try.ntmps3
      go_wp2_with (go_at_call 11; refine (lives_any _).mono ?_; rintro x1 w1 ⟨rfl, hb1⟩; have HB1 := hide hb1; clear hb1)
      go_ret
      exact ⟨rfl, unhide HB1⟩
  · obtain ⟨k, hk⟩ : ∃ k : Nat, n = (k : Int) := ⟨n.toNat, by omega⟩
    subst hk
    have hk58 : k ≤ 58 := by omega
    have a1 : ¬ (k : Int) < 0 := by omega
    have a2 : ¬ (k : Int) > 58 := by omega
    clear h1
    have cP := hide (fun (w1 : World) (hb : Below w.heap.size w w1) => problem_any k 0 N ln L m f ca qa cc qc w1 hN (by omega) (unhide HLN) ((unhide HR).later hb) (Ri.later (unhide HQ) hb))
    cases hp : prob k 0 N ln L m f with
    | false =>
      rw [hp] at cP
      go_enter Try.func3, Try.ntmps3
      go_wp2_with (first | (go_at_call 11; refine (lives_any _).mono ?_; rintro x1 w1 ⟨rfl, hb1⟩; have HB1 := hide hb1; clear hb1) | (go_at_call 12; refine (unhide cP _ (unhide HB1)).mono ?_; rintro x2 w2 ⟨rfl, hb2⟩; have HB2 := hide (bl_t (unhide HB1) hb2); clear hb2))
      go_ret
      exact ⟨rfl, unhide HB2⟩
    | true =>
      rw [hp] at cP
      by_cases hq : (1152921504606846976 : Int) / 2 ^ (k + 1) < (N : Int)
      · go_enter Try.func3, Try.ntmps3
        go_wp2_with (first | (go_at_call 11; refine (lives_any _).mono ?_; rintro x1 w1 ⟨rfl, hb1⟩; have HB1 := hide hb1; clear hb1) | (go_at_call 12; refine (unhide cP _ (unhide HB1)).mono ?_; rintro x2 w2 ⟨rfl, hb2⟩; have HB2 := hide (bl_t (unhide HB1) hb2); clear hb2))
        go_ret
        exact ⟨rfl, unhide HB2⟩
      · have hpw : (0 : Int) < 2 ^ (k + 1) := Int.pow_pos (by decide)
        have hB : (N : Int) * 2 ^ (k + 1) ≤ 1152921504606846976 := by
          have h1 : (N : Int) ≤ 1152921504606846976 / 2 ^ (k + 1) := by omega
          exact (Int.le_ediv_iff_mul_le hpw).1 h1
        have hB0 : (0 : Int) ≤ (N : Int) * 2 ^ (k + 1) := Int.mul_nonneg (by omega) (by omega)
        have HBn := hide (show ((N : Int) * 2 ^ (k + 1)).toNat = N * 2 ^ (k + 1) from by
          have e : (N : Int) * 2 ^ (k + 1) = ((N * 2 ^ (k + 1) : Nat) : Int) := by rw [Int.natCast_mul, Int.natCast_pow]; rfl
          rw [e]
          exact Int.toNat_natCast _)
        have hwB : IntKind.i64.wrap ((N : Int) * 2 ^ (k + 1)) = (N : Int) * 2 ^ (k + 1) := IntWalk.i64_in _ (by omega)
        obtain ⟨q1, q2, q3, q4, q5⟩ := prob_iff.1 hp
        have HPB := hide (show prob k ((N : Int) * 2 ^ (k + 1)) N ln L m f = true from prob_iff.2 ⟨q1, hB0, hB, q4, q5⟩)
        have HLT := hide (fun (w1 : World) (hb : Below w.heap.size w w1) => twin_any N ln L ca cc w1 hN (unhide HLN2) ((unhide HR).later hb))
        have HLE := hide (fun (w1 : World) (hb : Below w.heap.size w w1) => lent_any m f qa qc w1 hm (Ri.later (unhide HQ) hb))
        clear q1 q2 q3 q4 q5 hp
        have HSO := hide (fun (w1 : World) {ca qa : Option Addr} {cc qc : Nat} (h : Rr w1 ca N ln L) (h2 : Ri w1 qa m f) => Solve_ok (cc := cc) (qc := qc) (unhide HPB) (by omega) (by omega) (unhide HLN) h h2)
        have HEN := hide (fun v tr S (h : Rs ⟨(k : Int).toNat, N, ln, L, m, f⟩ ((N : Int) * 2 ^ (k + 1)).toNat v tr S) => h.enough (prob_ok (unhide HPB)).1 (by show N * 2 ^ ((k : Int).toNat + 1) ≤ _; rw [unhide HBn, Int.toNat_natCast]; exact Nat.le_refl _))
        generalize hBB : (N : Int) * 2 ^ (k + 1) = BB at *
        go_enter Try.func3, Try.ntmps3
        go_upto_region 6 with (first | (go_at_call 11; refine (lives_any _).mono ?_; rintro x1 w1 ⟨rfl, hb1⟩; have HB1 := hide hb1; clear hb1) | (go_at_call 12; refine (unhide cP _ (unhide HB1)).mono ?_; rintro x2 w2 ⟨rfl, hb2⟩; have HB2 := hide (bl_t (unhide HB1) hb2); clear hb2) | (go_at_call 14; refine (unhide HLT _ (unhide HB2)).mono ?_; rintro x3 w3 ⟨tb, tcb, tg, tcp, rfl, htw, hb3⟩; have HTW := hide htw; have HB3 := hide (bl_t (unhide HB2) hb3); clear htw hb3) | (go_at_call 15; refine (unhide HLE _ (unhide HB3)).mono ?_; rintro x4 w4 ⟨lg, lcp, rfl, hmk, hb4⟩; have HMK := hide hmk; have HTW4 := hide ((unhide HTW).later hb4); have HB4 := hide (bl_t (unhide HB3) hb4); clear hmk hb4) | (go_at_call 13; refine (unhide HSO _ (unhide HTW4).rr (unhide HMK).ri).mono ?_; rintro x5 w5 ⟨v, tr, S, vv, hrs, rfl, hb5, hvv⟩; have HRS := hide hrs; have HB5 := hide (bl_t (unhide HB4) hb5); obtain ⟨ga, gl, gc, hva⟩ : ∃ ga gl gc, vv = .slice ga gl gc := (by rcases hvv with ⟨_, e⟩ | ⟨_, g, e, _⟩; exact ⟨_, _, _, e⟩; exact ⟨_, _, _, e⟩); subst hva; clear hrs hb5 hvv))
        have HV := hide (unhide HEN _ _ _ (unhide HRS))
        have HB6 := hide (bl_t (unhide HB5) ((Below.refl w5.heap.size w5).alloc (Nat.le_refl _) (.cells #[.int .i64 v, .slice ga gl gc, .int .i64 (S : Int)] 29)))
        clear HRS
        rcases unhide HV with hv | hv
        · subst hv
          go_wp2
          go_ret
          exact ⟨rfl, unhide HB6⟩
        · subst hv
          go_wp2
          go_ret
          exact ⟨rfl, unhide HB6⟩
end Go.Proofs.Yticpjooejeibnaa
