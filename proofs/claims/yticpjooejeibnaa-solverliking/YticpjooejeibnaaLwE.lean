import Derived.Test.YticpjooejeibnaaLwA
import Derived.Test.YticpjooejeibnaaLwB
import Derived.Test.YticpjooejeibnaaLwC
namespace Go.Proofs.Yticpjooejeibnaa
open Go.RowKit

set_option maxRecDepth 100000 in
set_option maxHeartbeats 2000000 in
theorem liking_walk (n : Int) (N : Nat) (ln : Nat → Nat) (L : Nat → Nat → Int) (m : Nat) (f : Nat → Int) (B : Int) (cn : Nat) (cand : Nat → Bool) (ca qa na : Option Addr) (cc qc nc : Nat) (w : World) (hN : N * 24 ≤ 140737488351232) (hm : m * 8 ≤ 140737488351232) (_hcn : cn ≤ 140737488351232) (hln : ∀ k, k < N → ln k * 8 ≤ 140737488351232) (hR : Rr w ca N ln L) (hQ : Ri w qa m f) (hC : Rt w na cn cand) :
    Calls Try.prog 5 #[.int .i64 n, .slice ca N cc, .slice qa m qc, .int .i64 B, .slice na cn nc] w fun x w' => x = .returned (.bool true) ∧ Below w.heap.size w w' := by
  have HLN := hide (show ∀ k, k < N → ln k ≤ 140737488355328 from fun k hk => by have := hln k hk; omega)
  have HLN2 := hide hln
  have HR := hide hR
  have HQ := hide hQ
  have HC := hide hC
  clear hR hQ hln hC
  have cP := hide (fun (w1 : World) (hb : Below w.heap.size w w1) => problem_any n B N ln L m f ca qa cc qc w1 hN (by omega) (unhide HLN) ((unhide HR).later hb) (Ri.later (unhide HQ) hb))
  cases hp : prob n B N ln L m f with
  | false =>
    rw [hp] at cP
    go_enter Try.func5, Try.ntmps5
    go_wp2_with (first | (go_at_call 11; refine (lives_any _).mono ?_; rintro x1 w1 ⟨rfl, hb1⟩; have HB1 := hide hb1; clear hb1) | (go_at_call 12; refine (unhide cP _ (unhide HB1)).mono ?_; rintro x2 w2 ⟨rfl, hb2⟩; have HB2 := hide (bl_t (unhide HB1) hb2); clear hb2))
    go_ret
    exact ⟨rfl, unhide HB2⟩
  | true =>
    rw [hp] at cP
    obtain ⟨hO, e1, e2, hB⟩ := prob_ok hp
    obtain ⟨k, hk⟩ : ∃ k : Nat, n = (k : Int) := ⟨n.toNat, e1⟩
    subst hk
    have HOK := hide (show Pb.Ok ⟨k, N, ln, L, m, f⟩ from by simpa using hO)
    have hk1 : k ≤ 131071 := (unhide HOK).n
    have cD := hide (fun (w1 : World) (hb : Below w.heap.size w w1) => padded_any k hk1 cn cand na nc w1 (Rt.later (unhide HC) hb))
    obtain ⟨mc, hmc⟩ : ∃ g : Nat → Bool, g = fun j => decide (j < cn) && cand j := ⟨_, rfl⟩
    rw [← hmc] at cD
    clear hmc
    have cM := hide (fun (w1 : World) {va : Option Addr} {vc : Nat} (hb : Below w.heap.size w w1) (h : Rt w1 va k mc) => lmodel_any k hk1 N ln L mc ca va cc vc w1 (by omega) (unhide HLN) ((unhide HR).later hb) h (unhide HOK).cl)
    have HSO := hide (fun (w1 : World) {ca qa : Option Addr} {cc qc : Nat} (h : Rr w1 ca N ln L) (h2 : Ri w1 qa m f) => Solve_ok (cc := cc) (qc := qc) hp (by omega) (by omega) (unhide HLN) h h2)
    have HLT := hide (fun (w1 : World) (hb : Below w.heap.size w w1) => twin_any N ln L ca cc w1 hN (unhide HLN2) ((unhide HR).later hb))
    have HLE := hide (fun (w1 : World) (hb : Below w.heap.size w w1) => lent_any m f qa qc w1 hm (Ri.later (unhide HQ) hb))
    clear hO e1 e2 hB hp
    cases hmo : (bAll N fun i => clT mc (ln i) (L i)) with
    | false =>
      rw [hmo] at cM
      go_enter Try.func5, Try.ntmps5
      go_wp2_with (first | (go_at_call 11; refine (lives_any _).mono ?_; rintro x1 w1 ⟨rfl, hb1⟩; have HB1 := hide hb1; clear hb1) | (go_at_call 12; refine (unhide cP _ (unhide HB1)).mono ?_; rintro x2 w2 ⟨rfl, hb2⟩; have HB2 := hide (bl_t (unhide HB1) hb2); clear hb2) | (go_at_call 18; refine (unhide cD _ (unhide HB2)).mono ?_; rintro x3 w3 ⟨va, vc, rfl, hrt, hb3⟩; have HRT := hide hrt; have HB3 := hide (bl_t (unhide HB2) hb3); clear hrt hb3) | (go_at_call 16; refine (unhide cM _ (unhide HB3) (unhide HRT)).mono ?_; rintro x4 w4 ⟨rfl, hb4⟩; have HB4 := hide (bl_t (unhide HB3) hb4); clear hb4))
      go_ret
      exact ⟨rfl, unhide HB4⟩
    | true =>
      have HMO := hide (show Pb.Mo ⟨k, N, ln, L, m, f⟩ mc from (bAll_iff _ _).1 hmo)
      rw [hmo] at cM
      clear hmo
      go_enter Try.func5, Try.ntmps5
      go_wp2_with (first | (go_at_call 11; refine (lives_any _).mono ?_; rintro x1 w1 ⟨rfl, hb1⟩; have HB1 := hide hb1; clear hb1) | (go_at_call 12; refine (unhide cP _ (unhide HB1)).mono ?_; rintro x2 w2 ⟨rfl, hb2⟩; have HB2 := hide (bl_t (unhide HB1) hb2); clear hb2) | (go_at_call 18; refine (unhide cD _ (unhide HB2)).mono ?_; rintro x3 w3 ⟨va, vc, rfl, hrt, hb3⟩; have HRT := hide hrt; have HB3 := hide (bl_t (unhide HB2) hb3); clear hrt hb3) | (go_at_call 16; refine (unhide cM _ (unhide HB3) (unhide HRT)).mono ?_; rintro x4 w4 ⟨rfl, hb4⟩; have HRT4 := hide ((unhide HRT).later hb4); have HB4 := hide (bl_t (unhide HB3) hb4); clear hb4))
      clear cP cD cM HRT HB1 HB2 HB3
      go_loopg [12] m (fun g1 vi wr => ∃ i : Nat, vi = .int .i64 i ∧ i ≤ m ∧ m - i ≤ g1 ∧ Hid (∀ j, j < i → says mc (f j) = true) ∧ Hid (Below w.heap.size w wr) ∧ Hid (Rt wr va k mc))
      case atStart => exact ⟨0, by go_num, by omega, by omega, hide fun j h => absurd h (Nat.not_lt_zero _), HB4, HRT4⟩
      case round =>
        obtain ⟨i, rfl, hi, hg, HA, HB, HRT⟩ := hrel
        by_cases hlt : i < m
        · obtain ⟨b, o, hqa, _, hc⟩ := (Ri.later (unhide HQ) (unhide HB)).at hlt
          subst hqa
          unfold iv at hc
          have cS := hide (fun (w1 : World) (h : Rt w1 va k mc) => says_any k hk1 mc va vc (f i) ((unhide HOK).pf i hlt) w1 h)
          cases hy : says mc (f i) with
          | true =>
            have HA2 := hide (show ∀ j, j < i + 1 → says mc (f j) = true from fun j hj => by
              by_cases e : j = i
              · subst e; exact hy
              · exact unhide HA j (by omega))
            rw [hy] at cS
            clear hy
            generalize f i = l at *
            go_wp2_with (go_at_call 19; refine (unhide cS _ (unhide HRT)).mono ?_; rintro x w2 ⟨rfl, hw2⟩; rw [hw2]; clear hw2 w2)
            go_roundg (m - (i + 1))
            case measure => omega
            case rel => exact ⟨i + 1, by go_num, by omega, by omega, HA2, HB, HRT⟩
          | false =>
            rw [hy] at cS
            clear hy
            generalize f i = l at *
            go_wp2_with (go_at_call 19; refine (unhide cS _ (unhide HRT)).mono ?_; rintro x w2 ⟨rfl, hw2⟩; rw [hw2]; clear hw2 w2)
            go_ret
            exact ⟨rfl, unhide HB⟩
        · have HSA := hide (show ∀ j, j < m → says mc (f j) = true from fun j hj => unhide HA j (by omega))
          clear HA HRT HRT4 HB4
          go_upto_region 14 with (first | (go_at_call 14; refine (unhide HLT _ (unhide HB)).mono ?_; rintro x3 w3 ⟨tb, tcb, tg, tcp, rfl, htw, hb3⟩; have HTW := hide htw; have HB3 := hide (bl_t (unhide HB) hb3); clear htw hb3) | (go_at_call 15; refine (unhide HLE _ (unhide HB3)).mono ?_; rintro x4 w4 ⟨lg, lcp, rfl, hmk, hb4⟩; have HMK := hide hmk; have HTW4 := hide ((unhide HTW).later hb4); have HB4 := hide (bl_t (unhide HB3) hb4); clear hmk hb4) | (go_at_call 13; refine (unhide HSO _ (unhide HTW4).rr (unhide HMK).ri).mono ?_; rintro x5 w5 ⟨v, tr, S, vv, hrs, rfl, hb5, hvv⟩; rw [Int.toNat_natCast] at hrs hvv; have HRS := hide hrs; have HVV := hide hvv; have HB5 := hide (bl_t (unhide HB4) hb5); obtain ⟨ga, gl, gc, hva⟩ : ∃ ga gl gc, vv = .slice ga gl gc := (by rcases hvv with ⟨_, e⟩ | ⟨_, g, e, _⟩; exact ⟨_, _, _, e⟩; exact ⟨_, _, _, e⟩); subst hva; clear hrs hb5 hvv))
          have hba : Below w5.heap.size w5 (w5.alloc (.cells #[.int .i64 v, .slice ga gl gc, .int .i64 (S : Int)] 29)) := (Below.refl w5.heap.size w5).alloc (Nat.le_refl _) _
          have HB6 := hide (bl_t (unhide HB5) hba)
          have HV := hide (show (v = 1 ∧ ∃ g, (Value.slice ga gl gc) = .slice (some ⟨g, 0, none⟩) k k ∧ Rt (w5.alloc (.cells #[.int .i64 v, .slice ga gl gc, .int .i64 (S : Int)] 29)) (some ⟨g, 0, none⟩) k (mv tr) ∧ ∀ j, j < m → says (mv tr) (f j) = true) ∨ v = 3 from by
            rcases (unhide HRS).le.2 with h | h | h
            · subst h
              rcases unhide HVV with ⟨h, _⟩ | ⟨_, g, e, _, hm⟩
              · exact absurd rfl h
              · exact .inl ⟨rfl, g, e, (hm.later hba).rt, (unhide HRS).liking (unhide HOK) (unhide HMO) (unhide HSA)⟩
            · subst h
              exact absurd (unhide HMO) ((unhide HRS).unsat (unhide HOK) mc)
            · exact .inr h.1)
          have hz := heap_new w5 (.cells #[.int .i64 v, .slice ga gl gc, .int .i64 (S : Int)] 29)
          have HC0 := hide (cell_blk hz 0).1
          have HC1 := hide (cell_blk hz 1).1
          clear hz hba HRS HVV HSO HLT HLE HMO HSA HTW4 HMK HTW HB4 HB3
          rcases unhide HV with ⟨hv, g, he, hrt, hsa⟩ | hv
          · subst hv
            cases he
            have HRT6 := hide hrt
            have HSA := hide hsa
            clear hrt hsa
            generalize w5.alloc (.cells #[.int .i64 1, .slice (some ⟨g, 0, none⟩) k k, .int .i64 (S : Int)] 29) = W6 at *
            generalize w5.heap.size = rb at *
            have HC0' := hide (show W6.cell? ⟨rb, 0, none⟩ = some (.int .i64 1) from unhide HC0)
            have HC1' := hide (show W6.cell? ⟨rb, 1, none⟩ = some (.slice (some ⟨g, 0, none⟩) k k) from unhide HC1)
            clear HC0 HC1
            have c0 := unhide HC0'
            go_wp2
            clear c0
            go_loopg [15] m (fun g1 vi wr => ∃ i : Nat, vi = .int .i64 i ∧ i ≤ m ∧ m - i ≤ g1 ∧ Hid (Below w.heap.size w wr) ∧ Hid (wr.cell? ⟨rb, 0, none⟩ = some (.int .i64 1)) ∧ Hid (wr.cell? ⟨rb, 1, none⟩ = some (.slice (some ⟨g, 0, none⟩) k k)) ∧ Hid (Rt wr (some ⟨g, 0, none⟩) k (mv tr)))
            case atStart => exact ⟨0, by go_num, by omega, by omega, HB6, HC0', HC1', HRT6⟩
            case round =>
              obtain ⟨i2, rfl, hi2, hg2, HB7, HC07, HC17, HRT7⟩ := hrel
              have c0 := unhide HC07
              have c1 := unhide HC17
              by_cases hlt2 : i2 < m
              · obtain ⟨b, o, hqa, _, hc⟩ := (Ri.later (unhide HQ) (unhide HB7)).at hlt2
                subst hqa
                unfold iv at hc
                have cS := hide (fun d {vc : Nat} => says_any k hk1 (mv tr) (some ⟨g, 0, none⟩) vc (f i2) ((unhide HOK).pf i2 hlt2) (wr.drewN d) (Rt.later (unhide HRT7) (bl_drewN wr d)))
                rw [unhide HSA i2 hlt2] at cS
                generalize f i2 = l at *
                go_wp2_with fail
                go_quiet (first | (go_at_call 19; exact Calls.quiet_of_same (unhide cS _)))
                have HB8 := hide (bl_t (unhide HB7) (bl_drewN wr nq))
                have HRT8 := hide (Rt.later (unhide HRT7) (bl_drewN wr nq))
                have HC08 := hide (show (wr.drewN nq).cell? ⟨rb, 0, none⟩ = some (.int .i64 1) from c0)
                have HC18 := hide (show (wr.drewN nq).cell? ⟨rb, 1, none⟩ = some (.slice (some ⟨g, 0, none⟩) k k) from c1)
                clear c0 c1 hc cS
                generalize wr.drewN nq = W8 at *
                go_wp2
                go_roundg (m - (i2 + 1))
                case measure => omega
                case rel => exact ⟨i2 + 1, by go_num, by omega, by omega, HB8, HC08, HC18, HRT8⟩
              · go_wp2
                go_ret
                exact ⟨rfl, unhide HB7⟩
          · subst hv
            generalize w5.alloc (.cells #[.int .i64 3, .slice ga gl gc, .int .i64 (S : Int)] 29) = W6 at *
            generalize w5.heap.size = rb at *
            have HC0' := hide (show W6.cell? ⟨rb, 0, none⟩ = some (.int .i64 3) from unhide HC0)
            clear HC0 HC1 HV
            have c0 := unhide HC0'
            go_wp2
            clear c0
            go_loopg [15] 0 (fun g1 vi wr => vi = .int .i64 0 ∧ Hid (Below w.heap.size w wr) ∧ Hid (wr.cell? ⟨rb, 0, none⟩ = some (.int .i64 3)))
            case atStart => exact ⟨rfl, HB6, HC0'⟩
            case round =>
              obtain ⟨rfl, HB7, HC07⟩ := hrel
              have c0 := unhide HC07
              by_cases hlt2 : 0 < m
              · go_wp2
                go_ret
                exact ⟨rfl, unhide HB7⟩
              · go_wp2
                go_ret
                exact ⟨rfl, unhide HB7⟩
end Go.Proofs.Yticpjooejeibnaa
