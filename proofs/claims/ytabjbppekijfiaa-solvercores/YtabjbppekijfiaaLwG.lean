import Derived.Test.YtabjbppekijfiaaLwF
import Derived.Deep.RegionHeld3
import Derived.Deep.DrawnRows
namespace Go.Proofs.Ytabjbppekijfiaa
open Go.RowKit

/-- What Solve answers, with the values' length. -/
theorem So.first {P : Pb} {B : Nat} {w w' : World} {x : Ending} (h : So P B w x w') : ∃ v tr S l g, Rs P B v tr S ∧ x = .returned (.tuple #[.agg #[.int .i64 v, .slice g l l, .int .i64 (S : Int)], .int .i64 0]) ∧ Below w.heap.size w w' ∧ Rt w' g l (mv tr) ∧ l = (if v = 1 then P.n else 0) ∧ (0 < l → ∃ x, g = some ⟨x, 0, none⟩ ∧ w.heap.size ≤ x) := by
  obtain ⟨v, tr, S, vv, hrs, hx, hb, ⟨hv, e⟩ | ⟨hv, g, e, hge, hm⟩⟩ := h
  · subst e
    exact ⟨v, tr, S, 0, none, hrs, hx, hb, fun h => absurd h (Nat.lt_irrefl _), (if_neg hv).symm, fun h => absurd h (Nat.lt_irrefl _)⟩
  · subst e
    exact ⟨v, tr, S, P.n, _, hrs, hx, hb, hm.rt, (if_pos hv).symm, fun _ => ⟨g, rfl, hge⟩⟩
/-- .. and once more. -/
theorem So.next {P : Pb} {B B2 : Nat} {v : Int} {tr : List Int} {S : Nat} (h1 : Rs P B v tr S) {w w' : World} {x : Ending} (h : So P B2 w x w') (hB : B2 = S ∨ (v ≠ 3 ∧ S ≤ B2)) {l : Nat} (hl : l = if v = 1 then P.n else 0) : ∃ g, x = .returned (.tuple #[.agg #[.int .i64 v, .slice g l l, .int .i64 (S : Int)], .int .i64 0]) ∧ Below w.heap.size w w' ∧ Rt w' g l (mv tr) ∧ (0 < l → ∃ x, g = some ⟨x, 0, none⟩ ∧ w.heap.size ≤ x) := by
  obtain ⟨v2, tr2, S2, l2, g, h2, hx, hb, hr, hl2, hgg⟩ := h.first
  have key : v2 = v ∧ S2 = S ∧ (v ≠ 3 → tr2 = tr) := by
    by_cases h3 : v = 3
    · have e : B2 = B := by
        rcases hB with e | ⟨e, _⟩
        · rcases h1.le.2 with q | q | q
          · omega
          · omega
          · omega
        · exact absurd h3 e
      rw [e] at h2
      exact h1.same h2
    · have := h1.again h3 h2 (by rcases hB with e | ⟨_, e⟩ <;> omega)
      exact ⟨this.1, this.2.2, fun _ => this.2.1⟩
  obtain ⟨e1, e2, e3⟩ := key
  subst e1 e2
  have e4 : l2 = l := hl2.trans hl.symm
  subst e4
  refine ⟨g, hx, hb, ?_, hgg⟩
  by_cases h3 : v2 = 3
  · subst h3
    have : l2 = 0 := hl2
    subst this
    exact fun h => absurd h (Nat.lt_irrefl _)
  · rw [← e3 h3]
    exact hr
set_option maxRecDepth 100000 in
set_option maxHeartbeats 2000000 in
theorem right_bad {n B : Int} {N : Nat} {ln : Nat → Nat} {L : Nat → Nat → Int} {m : Nat} {f : Nat → Int} (hp : prob n B N ln L m f = false) (cn : Nat) (ca qa na : Option Addr) (cc qc nc : Nat) (M : Int) (w : World) (hN : N * 24 ≤ 140737488351232) (hm : m * 8 ≤ 140737488351232) (hln : ∀ k, k < N → ln k * 8 ≤ 140737488351232) (hR : Rr w ca N ln L) (hQ : Ri w qa m f) :
    Calls Try.prog 6 #[.int .i64 n, .slice ca N cc, .slice qa m qc, .int .i64 B, .slice na cn nc, .int .i64 M] w fun x w' => x = .returned (.bool true) ∧ Below w.heap.size w w' := by
  have HLN := hide (show ∀ k, k < N → ln k ≤ 140737488355328 from fun k hk => by have := hln k hk; omega)
  have HLN2 := hide hln
  have HR := hide hR
  have HQ := hide hQ
  clear hR hQ hln
  have cP := hide (fun (w1 : World) (hb : Below w.heap.size w w1) => problem_any n B N ln L m f ca qa cc qc w1 hN (by omega) (unhide HLN) ((unhide HR).later hb) (Ri.later (unhide HQ) hb))
  rw [hp] at cP
  have HSO := hide (fun (w1 : World) {ca qa : Option Addr} {cc qc : Nat} (h : Rr w1 ca N ln L) (h2 : Ri w1 qa m f) => Solve_bad (cc := cc) (qc := qc) hp (by omega) (by omega) (unhide HLN) h h2)
  have HLT := hide (twin_any N ln L ca cc w hN (unhide HLN2) (unhide HR))
  have HLE := hide (fun (w1 : World) (hb : Below w.heap.size w w1) => lent_any m f qa qc w1 hm (Ri.later (unhide HQ) hb))
  clear hp
  go_enter Try.func6, Try.ntmps6
  go_upto_region 2 with (first | (go_at_call 14; refine (unhide HLT).mono ?_; rintro x3 w3 ⟨tb, tcb, tg, tcp, rfl, htw, hb3⟩; have HTW := hide htw; have HB3 := hide hb3; clear htw hb3) | (go_at_call 15; refine (unhide HLE _ (unhide HB3)).mono ?_; rintro x4 w4 ⟨lg, lcp, rfl, hmk, hb4⟩; have HMK := hide hmk; have HTW4 := hide ((unhide HTW).later hb4); have HB4 := hide (bl_t (unhide HB3) hb4); clear hmk hb4) | (go_at_call 13; refine (unhide HSO _ (unhide HTW4).rr (unhide HMK).ri).mono ?_; rintro x5 w5 ⟨e, he, rfl, hb5⟩; have HE := hide he; have HB5 := hide (bl_t (unhide HB4) hb5); clear he hb5))
  have HZ := hide (heap_new w5 (.cells #[.int .i64 0, .slice none 0 0, .int .i64 0] 29))
  have HB6 := hide (bl_t (unhide HB5) ((Below.refl w5.heap.size w5).alloc (Nat.le_refl _) (.cells #[.int .i64 0, .slice none 0 0, .int .i64 0] 29)))
  have hne : e ≠ 0 := by
    have := unhide HE
    split at this <;> omega
  clear HTW HTW4 HMK HB3 HB4 HB5 HLT HLE HSO HE
  generalize w5.alloc (.cells #[.int .i64 0, .slice none 0 0, .int .i64 0] 29) = W6 at *
  generalize w5.heap.size = rb at *
  go_upto_region 5 with (first | (go_at_call 11; refine (lives_any _).mono ?_; rintro x1 w1 ⟨rfl, hb1⟩; have HZ1 := hide ((hb1.block _ (blk_lt (unhide HZ))).trans (unhide HZ)); have HB1 := hide (bl_t (unhide HB6) hb1); clear hb1) | (go_at_call 12; refine (unhide cP _ (unhide HB1)).mono ?_; rintro x2 w2 ⟨rfl, hb2⟩; have HZ2 := hide ((hb2.block _ (blk_lt (unhide HZ1))).trans (unhide HZ1)); have HB2 := hide (bl_t (unhide HB1) hb2); clear hb2))
  have z0 : w2.cell? ⟨rb, 0, none⟩ = some (.int .i64 0) := (cell_blk (unhide HZ2) 0).1
  have z1 : w2.cell? ⟨rb, 1, none⟩ = some (.slice none 0 0) := (cell_blk (unhide HZ2) 1).1
  have z2 : w2.cell? ⟨rb, 2, none⟩ = some (.int .i64 0) := (cell_blk (unhide HZ2) 2).1
  go_wp2_with (go_at_call 20; refine (found_any 0 0 0 (fun _ => false) none none 0 0 _ (by omega) (fun h => absurd h (Nat.lt_irrefl _)) (fun h => absurd h (Nat.lt_irrefl _))).mono ?_; rintro x7 w7 ⟨rfl, hb7⟩; have HB7 := hide (bl_t (unhide HB2) hb7); clear hb7)
  go_ret
  exact ⟨by show Ending.returned (.bool (e != 0)) = _; rw [show (e != 0) = true from by simpa using hne], unhide HB7⟩
end Go.Proofs.Ytabjbppekijfiaa
