import Derived.Test.YtoblmpfdbcmcaaaCoH
namespace Go.Proofs.Ytoblmpfdbcmcaaa
open Go.RowKit

theorem Cq.form {n N B : Nat} {ln : Nat → Nat} {L : Nat → Nat → Int} {w w' : World} {x : Ending} (h : Cq n N B ln L w x w') : ∃ v tr S la m lc, Rs ⟨n, N, ln, L, 0, nof⟩ B v tr S ∧ Below w.heap.size w w' ∧ x = .returned (.tuple #[.slice la m lc, .int .i64 v, .int .i64 0]) ∧ ((v ≠ 2 ∧ m = 0) ∨ (v = 2 ∧ ∃ p : List Int, p.length = m ∧ Cf n N B ln L p ∧ Ri w' la m (fun j => p.getD j 0))) := by
  obtain ⟨v, tr, S, h1, h2, ⟨h3, h4⟩ | ⟨h3, p, la, lc, h4, h5, h6⟩⟩ := h
  · exact ⟨v, tr, S, none, 0, 0, h1, h2, h4, .inl ⟨h3, rfl⟩⟩
  · subst h3
    exact ⟨2, tr, S, la, p.length, lc, h1, h2, h4, .inr ⟨rfl, p, rfl, h5, h6⟩⟩
set_option maxRecDepth 100000 in
set_option maxHeartbeats 4000000 in
theorem blames_ok {k : Nat} {B : Int} {N : Nat} {ln : Nat → Nat} {L : Nat → Nat → Int} (hp : prob k B N ln L 0 nof = true) (cn : Nat) (cand : Nat → Bool) (ca na : Option Addr) (cc nc : Nat) (w : World) (hN : N * 24 ≤ 140737488351232) (hln : ∀ k, k < N → ln k * 8 ≤ 140737488351232) (hR : Rr w ca N ln L) (hC : Rt w na cn cand) :
    Calls Try.prog 8 #[.int .i64 k, .slice ca N cc, .int .i64 B, .slice na cn nc] w fun x w' => x = .returned (.bool true) ∧ Below w.heap.size w w' := by
  have HLN := hide (show ∀ k, k < N → ln k ≤ 140737488355328 from fun k hk => by have := hln k hk; omega)
  have HLN2 := hide hln
  have HR := hide hR
  have HC := hide hC
  clear hR hC hln
  have hO := (prob_ok hp).1
  rw [Int.toNat_natCast] at hO
  have HOK := hide hO
  have hk1 : k ≤ 131071 := hO.n
  have HPP := hide (fun (p : List Int) (hi : ∀ x ∈ p, 0 ≤ x ∧ x < (N : Int)) => PP_prob hp hi)
  have HCO := hide (fun (w1 : World) {ca : Option Addr} {cc : Nat} (h : Rr w1 ca N ln L) => Core_ok (cc := cc) hp hN (unhide HLN) h)
  have HSO := hide (fun (w1 : World) {ca : Option Addr} {cc : Nat} (h : Rr w1 ca N ln L) => Solve_ok (cc := cc) (qa := none) (qc := 0) hp (by omega) (by omega) (unhide HLN) h (fun h0 => absurd h0 (Nat.lt_irrefl _)))
  rw [Int.toNat_natCast] at HSO
  have HLT := hide (fun (w1 : World) (hb : Below w.heap.size w w1) => twin_any N ln L ca cc w1 hN (unhide HLN2) ((unhide HR).later hb))
  have cD := hide (fun (w1 : World) (hb : Below w.heap.size w w1) => padded_any k hk1 cn cand na nc w1 (Rt.later (unhide HC) hb))
  clear hO hp
  go_enter Try.func8, Try.ntmps8
  go_upto_region 4 with (first | (go_at_call 11; refine (lives_any _).mono ?_; rintro x1 w1 ⟨rfl, hb1⟩; have HB1 := hide hb1; clear hb1) | (go_at_call 14; refine (unhide HLT _ (unhide HB1)).mono ?_; rintro x3 w3 ⟨tb, tcb, tg, tcp, rfl, htw, hb3⟩; have HTW := hide htw; have HB3 := hide (bl_t (unhide HB1) hb3); clear htw hb3) | (go_at_call 29; refine (unhide HCO _ (unhide HTW).rr).mono ?_; rintro x4 w4 hcq; obtain ⟨v, tr, S, la, m, lc, hrs, hb4, rfl, hx⟩ := hcq.form; have HRS := hide hrs; have HB4 := hide (bl_t (unhide HB3) hb4); have HX := hide hx; clear hrs hb4 hx hcq))
  go_upto_region 5 with (first | (go_at_call 14; refine (unhide HLT _ (unhide HB4)).mono ?_; rintro x5 w5 ⟨ub, ucb, ug, ucp, rfl, htw, hb5⟩; have HTW5 := hide htw; have HB5 := hide hb5; clear htw hb5) | (go_at_call 13; refine (unhide HSO _ (unhide HTW5).rr).mono ?_; rintro x6 w6 hso; obtain ⟨v6, tr6, S6, l6, g6, hrs6, rfl, hb6, hrt6, hl6, hgg6⟩ := hso.first; obtain rfl : v6 = v := ((unhide HRS).same hrs6).1; have HB6 := hide (bl_t (unhide HB5) hb6); clear hrs6 hl6 hrt6 hb6 hso hgg6))
  have hz := heap_new w6 (.cells #[.int .i64 v6, .slice g6 l6 l6, .int .i64 (S6 : Int)] 29)
  have HB7 := hide (bl_t (unhide HB6) (al w6 (.cells #[.int .i64 v6, .slice g6 l6 l6, .int .i64 (S6 : Int)] 29)))
  have c0 : (w6.alloc (.cells #[.int .i64 v6, .slice g6 l6 l6, .int .i64 (S6 : Int)] 29)).cell? ⟨w6.heap.size, 0, none⟩ = some (.int .i64 v6) := (cell_blk hz 0).1
  clear hz HTW HTW5 HB1 HB3 HB5 HB6 HSO HCO
  generalize w6.alloc (.cells #[.int .i64 v6, .slice g6 l6 l6, .int .i64 (S6 : Int)] 29) = W7 at *
  generalize w6.heap.size = rb at *
  rcases unhide HX with ⟨hv, hm0⟩ | ⟨hv, p, hpl, hcf, hri⟩
  · subst hm0
    have HBB := hide (bl_t (unhide HB4) (unhide HB7))
    go_wp2
    go_ret
    exact ⟨rfl, unhide HBB⟩
  · subst hv
    have HCF := hide hcf
    have HRI := hide (Ri.later hri (unhide HB7))
    have HPL := hide hpl
    have hmN : m ≤ N := by have := hcf.1.len; omega
    have hmp : 0 < m := by have := hcf.1.pos; omega
    have HBB := hide (bl_t (unhide HB4) (unhide HB7))
    clear HX hcf hri hpl HB7 HB4
    go_upto_region 9 with fail
    clear c0
    have HIN := hide (unhide HCF).1.inN
    have HRS1 := hide (unhide HCF).1.rise
    have cH := hide (fun (but : Int) (w1 : World) (hb : Below w.heap.size w w1) (h : Ri w1 la m (fun j => p.getD j 0)) => lchosen_any N ln L p m but ca la cc lc w1 (unhide HPL) (by omega) (unhide HIN) ((unhide HR).later hb) h)
    go_wp2_with fail
    go_loopg [14] m (fun g1 vi wr => ∃ i : Nat, vi = .int .i64 i ∧ i ≤ m ∧ m - i ≤ g1 ∧ Hid (Below w.heap.size w wr) ∧ Hid (Ri wr la m (fun j => p.getD j 0)))
    case atStart => exact ⟨0, by go_num, by omega, by omega, HBB, HRI⟩
    case round =>
      obtain ⟨i, rfl, hi, hg, HB, HI⟩ := hrel
      by_cases hlt : i < m
      · obtain ⟨b, o, rfl, _, hc0⟩ := (unhide HI).at hlt
        have hin := unhide HIN _ (getD_mem (p := p) (j := i) (by rw [unhide HPL]; exact hlt))
        obtain ⟨x, hx⟩ : ∃ x : Nat, p.getD i 0 = (x : Int) := ⟨(p.getD i 0).toNat, by omega⟩
        have hc : wr.cell? ⟨b, o + i, none⟩ = some (.int .i64 (x : Int)) := by rw [← hx]; exact hc0
        have a1 : ¬ (x : Int) < 0 := by omega
        have a2 : ¬ N ≤ x := by omega
        clear hc0 hin
        have i1 : (0 : Int) ≤ (i : Int) := by omega
        have i2 : (i : Int) < (m : Int) := by omega
        by_cases h00 : i = 0
        · have j6 : ¬ 0 < i := by omega
          clear h00 hx
          go_wp2_with fail
          refine wp_region_quiet_lit (by kernel_rfl) (by kernel_rfl) ?_
          repeat (with_reducible refine wpQuiet_step (fun K hK => ?_); go_simp; first | (refine hK _ ?_; clear hK K) | (apply Exists.intro; refine ⟨fun _ => ?_, hK _ ?_⟩; fail))
          with_reducible refine wpQuiet_nil ?_
          intro _ hw'
          obtain ⟨nq, hw''⟩ := hw'
          subst hw''
          have HB2 := hide (bl_t (unhide HB) (bl_drewN wr nq))
          have HI2 := hide (Ri.later (unhide HI) (bl_drewN wr nq))
          clear hc
          generalize wr.drewN nq = W8 at *
          go_wp2
          go_roundg (m - (i + 1))
          case measure => omega
          case rel => exact ⟨i + 1, by go_num, by omega, by omega, HB2, HI2⟩
        · obtain ⟨i', hi'⟩ : ∃ i', i = i' + 1 := ⟨i - 1, by omega⟩
          obtain ⟨b', o', e', _, hd0⟩ := (unhide HI).at (k := i') (by omega)
          cases e'
          have hin2 := unhide HIN _ (getD_mem (p := p) (j := i') (by rw [unhide HPL]; omega))
          obtain ⟨y, hy⟩ : ∃ y : Nat, p.getD i' 0 = (y : Int) := ⟨(p.getD i' 0).toNat, by omega⟩
          have hd : wr.cell? ⟨b, o + i', none⟩ = some (.int .i64 (y : Int)) := by rw [← hy]; exact hd0
          have hr := getD_lt (unhide HRS1) (show i' < i by omega) (by rw [unhide HPL]; exact hlt)
          have a3 : ¬ x ≤ y := by omega
          have j1 : (i : Int) - 1 = (i' : Int) := by omega
          have j2 : IntKind.i64.wrap (i' : Int) = (i' : Int) := IntWalk.i64_in _ (by omega)
          have j3 : (i' : Int) < (m : Int) := by omega
          have j5 : 0 < i := by omega
          clear hd0 hi' h00 hr hin2 hx hy
          go_wp2_with fail
          refine wp_region_quiet_lit (by kernel_rfl) (by kernel_rfl) ?_
          repeat (with_reducible refine wpQuiet_step (fun K hK => ?_); go_simp; first | (refine hK _ ?_; clear hK K) | (apply Exists.intro; refine ⟨fun _ => ?_, hK _ ?_⟩; fail))
          with_reducible refine wpQuiet_nil ?_
          intro _ hw'
          obtain ⟨nq, hw''⟩ := hw'
          subst hw''
          have HB2 := hide (bl_t (unhide HB) (bl_drewN wr nq))
          have HI2 := hide (Ri.later (unhide HI) (bl_drewN wr nq))
          clear hc hd
          generalize wr.drewN nq = W8 at *
          go_wp2
          go_roundg (m - (i + 1))
          case measure => omega
          case rel => exact ⟨i + 1, by go_num, by omega, by omega, HB2, HI2⟩
      · have e1 : ch p (-1) m = p := by rw [ch_all p m (by have := unhide HPL; omega), List.take_of_length_le (by have := unhide HPL; omega)]
        have HIN2 := hide (fun w1 hb h => unhide cH (-1) w1 hb h)
        rw [e1, unhide HPL] at HIN2
        clear hg e1
        have HLM := hide (fun (w1 : World) {qa va : Option Addr} {c vc : Nat} (h : Rr w1 qa m (fun j => ln (p.getD j 0).toNat) (fun j => L (p.getD j 0).toNat)) (hv : Rt w1 va k (fun k => decide (k < cn) && cand k)) => lmodel_any k hk1 m (fun j => ln (p.getD j 0).toNat) (fun j => L (p.getD j 0).toNat) _ qa va c vc w1 (by omega) (fun j hj => unhide HLN _ (by have := unhide HIN _ (getD_mem (p := p) (j := j) (by rw [unhide HPL]; exact hj)); omega)) h hv (fun j hj => (unhide HOK).cl _ (by have := unhide HIN _ (getD_mem (p := p) (j := j) (by rw [unhide HPL]; exact hj)); show _ < N; omega)))
        have hno : (bAll m fun j => clT (fun k => decide (k < cn) && cand k) (ln (p.getD j 0).toNat) (L (p.getD j 0).toNat)) = false := by
          cases e : (bAll m fun j => clT (fun k => decide (k < cn) && cand k) (ln (p.getD j 0).toNat) (L (p.getD j 0).toNat)) with
          | false => rfl
          | true =>
            refine absurd (fun x hx => ?_) ((unhide HCF).1.no (fun k => decide (k < cn) && cand k))
            obtain ⟨j, hj, e3⟩ := List.getElem_of_mem hx
            have := (bAll_iff _ _).1 e j (by rw [← unhide HPL]; exact hj)
            rwa [show p.getD j 0 = x by rw [← e3]; simp [hj]] at this
        rw [hno] at HLM
        clear hno
        go_upto_region 16 with (first | (go_at_call 30; refine (unhide HIN2 _ (unhide HB) (unhide HI)).mono ?_; rintro x8 w8 ⟨qa, qc, rfl, hq8, hb8⟩; have HQ8 := hide hq8; have HB8 := hide (bl_t (unhide HB) hb8); have HI8 := hide (Ri.later (unhide HI) hb8); clear hq8 hb8) | (go_at_call 18; refine (unhide cD _ (unhide HB8)).mono ?_; rintro x9 w9 ⟨va, vc, rfl, hv9, hb9⟩; have HQ9 := hide ((unhide HQ8).later hb9); have HV9 := hide hv9; have HB9 := hide (bl_t (unhide HB8) hb9); have HI9 := hide (Ri.later (unhide HI8) hb9); clear hv9 hb9) | (go_at_call 16; refine (unhide HLM _ (unhide HQ9) (unhide HV9)).mono ?_; rintro xa wa ⟨rfl, hba⟩; have HBa := hide (bl_t (unhide HB9) hba); have HIa := hide (Ri.later (unhide HI9) hba); clear hba))
        clear HB HI HB8 HB9 HI8 HI9 HQ8 HQ9 HV9 HLM HIN2 hlt hi
        have cI := hide (fun (i : Nat) (hi : i < m) (w1 : World) (hb : Below w.heap.size w w1) (h : Ri w1 la m (fun j => p.getD j 0)) => unhide cH (i : Int) w1 hb h)
        have eI := hide (fun (i : Nat) (hi : i < m) => show ch p (i : Int) m = wo p (p.getD i 0) from by rw [ch_one (unhide HRS1) (by rw [unhide HPL]; exact hi) m (by have := unhide HPL; omega), List.take_of_length_le (by have := unhide HPL; omega)])
        go_wp2_with fail
        go_loopg [15] m (fun g1 vi wr => ∃ i : Nat, vi = .int .i64 i ∧ i ≤ m ∧ m - i ≤ g1 ∧ Hid (Below w.heap.size w wr) ∧ Hid (Ri wr la m (fun j => p.getD j 0)))
        case atStart => exact ⟨0, by go_num, by omega, by omega, HBa, HIa⟩
        case round =>
          obtain ⟨i3, rfl, hi3, hg3, HB, HI⟩ := hrel
          by_cases hlt : i3 < m
          · have cJ := hide (unhide cI i3 hlt)
            rw [unhide eI i3 hlt] at cJ
            have hgm : p.getD i3 0 ∈ p := getD_mem (by rw [unhide HPL]; exact hlt)
            have HNS := hide ((unhide HCF).2 _ hgm)
            have HW := hide (wo_in (unhide HIN) (p.getD i3 0))
            have HPR := hide (unhide HPP _ (unhide HW))
            have hql : (wo p (p.getD i3 0)).length ≤ N := by have := wo_lt hgm; have := unhide HPL; omega
            clear cI eI hgm
            unfold Ns at HNS
            generalize wo p (p.getD i3 0) = q at *
            obtain ⟨n2, hn2⟩ : ∃ n2, n2 = q.length := ⟨_, rfl⟩
            rw [← hn2] at cJ HPR hql
            have HN2 := hide hn2
            clear hn2
            have HL2 := hide (show ∀ j, j < n2 → ln (q.getD j 0).toNat * 8 ≤ 140737488351232 from fun j hj => unhide HLN2 _ (by have := unhide HW _ (getD_mem (p := q) (j := j) (by rw [← unhide HN2]; exact hj)); omega))
            have HL3 := hide (show ∀ j, j < n2 → ln (q.getD j 0).toNat ≤ 140737488355328 from fun j hj => by have := unhide HL2 j hj; omega)
            go_upto_region 20 with (first | (go_at_call 30; refine (unhide cJ _ (unhide HB) (unhide HI)).mono ?_; rintro xb wb ⟨qa2, qc2, rfl, hqb, hbb⟩; have HQb := hide hqb; have HBb := hide (bl_t (unhide HB) hbb); have HIb := hide (Ri.later (unhide HI) hbb); clear hqb hbb) | (go_at_call 14; refine (twin_any n2 _ _ qa2 qc2 _ (by omega) (unhide HL2) (unhide HQb)).mono ?_; rintro xc wc ⟨tb2, tcb2, tg2, tcp2, rfl, htc, hbc⟩; have HTc := hide htc; have HBc := hide (bl_t (unhide HBb) hbc); have HIc := hide (Ri.later (unhide HIb) hbc); clear htc hbc) | (go_at_call 13; refine (Solve_ok (cc := tcb2) (qa := none) (qc := 0) (unhide HPR) (by omega) (by omega) (unhide HL3) (unhide HTc).rr (fun h0 => absurd h0 (Nat.lt_irrefl _))).mono ?_; rintro xd wd hso; obtain ⟨vd, trd, Sd, ld, gd, hrsd, rfl, hbd, -, -, -⟩ := hso.first; have hvd : vd ≠ 2 := unhide HNS vd trd Sd (by have e9 := unhide HN2; subst e9; exact hrsd); have HBd := hide (bl_t (unhide HBc) hbd); have HId := hide (Ri.later (unhide HIc) hbd); clear hrsd hbd hso))
            have hze := heap_new wd (.cells #[.int .i64 vd, .slice gd ld ld, .int .i64 (Sd : Int)] 29)
            have HBe := hide (bl_t (unhide HBd) (al wd (.cells #[.int .i64 vd, .slice gd ld ld, .int .i64 (Sd : Int)] 29)))
            have HIe := hide (Ri.later (unhide HId) (al wd (.cells #[.int .i64 vd, .slice gd ld ld, .int .i64 (Sd : Int)] 29)))
            have ce : (wd.alloc (.cells #[.int .i64 vd, .slice gd ld ld, .int .i64 (Sd : Int)] 29)).cell? ⟨wd.heap.size, 0, none⟩ = some (.int .i64 vd) := (cell_blk hze 0).1
            clear hze HBd HId HBc HIc HTc HBb HIb HQb HB HI cJ
            generalize wd.alloc (.cells #[.int .i64 vd, .slice gd ld ld, .int .i64 (Sd : Int)] 29) = We at *
            generalize wd.heap.size = re at *
            go_wp2_with fail
            go_roundg (m - (i3 + 1))
            case measure => omega
            case rel => exact ⟨i3 + 1, by go_num, by omega, by omega, HBe, HIe⟩
          · go_wp2
            go_ret
            exact ⟨by simp, unhide HB⟩
end Go.Proofs.Ytoblmpfdbcmcaaa
