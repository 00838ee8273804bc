import Derived.Test.YtdflllaahjahcaaGwC
namespace Go.Proofs.Ytdflllaahjahcaa
open Go.RowKit

theorem Ab.low {lo lo2 hi : Nat} {ga : Option Addr} {g n e : Nat} {F : Nat → Value} {W : World} (h : Ab lo hi ga g n e F W) (hl : lo2 ≤ lo) : Ab lo2 hi ga g n e F W := by
  rcases h with h | ⟨h1, h2, h3, h4⟩
  · exact .inl h
  · exact .inr ⟨h1, Nat.le_trans hl h2, h3, h4⟩
theorem Rw.lower {lo hi lo2 : Nat} {G : Option Addr} {g l c : Nat} {V : Nat → Int} {W : World} (h : Rw lo hi G g l c V W) (hl : lo2 ≤ lo) : Rw lo2 hi G g l c V W := ⟨h.low hl, h.2⟩
theorem Wr.fx {P : Nat → Prop} {base B N : Nat} {ln g cp : Nat → Nat} {L : Nat → Nat → Int} {W W2 : World} (h : Wr base B N ln g cp L W) (f : Fx P W W2) (hB : ¬ P B) (hg : ∀ k, k < N → ¬ P (g k)) : Wr base B N ln g cp L W2 := by
  obtain ⟨cur, h1, h2⟩ := h.blk
  refine ⟨⟨cur, (f.blk B (blk_lt h1) hB).trans h1, h2⟩, fun k hk => ?_, h.ge, h.ne⟩
  obtain ⟨c2, h3, h4⟩ := h.row k hk
  exact ⟨c2, (f.blk _ (blk_lt h3) (hg k hk)).trans h3, h4⟩
/-- The start turned about up to a place. -/
def stF (N : Nat) (fs : Nat → Int) (k j : Nat) : Int := if j < k then tn N (fs j) else fs j
theorem stF_next (N : Nat) (fs : Nat → Int) (k : Nat) : (fun j => if j = k then Value.int .i64 (tn N (fs k)) else iv (stF N fs k) j) = iv (stF N fs (k + 1)) := by
  funext j
  unfold iv stF
  by_cases e : j = k
  · subst e; rw [if_pos rfl, if_pos (by omega)]
  · rw [if_neg e]
    by_cases e2 : j < k
    · rw [if_pos e2, if_pos (by omega)]
    · rw [if_neg e2, if_neg (by omega)]
theorem stF_same (N : Nat) (fs : Nat → Int) (k : Nat) (h : tn N (fs k) = fs k) : stF N fs (k + 1) = stF N fs k := by
  funext j
  unfold stF
  by_cases e : j = k
  · subst e; rw [if_pos (by omega), if_neg (by omega), h]
  · by_cases e2 : j < k
    · rw [if_pos e2, if_pos (by omega)]
    · rw [if_neg e2, if_neg (by omega)]
set_option maxRecDepth 100000 in
set_option maxHeartbeats 8000000 in
theorem ways_walk (N : Nat) (ln : Nat → Nat) (L : Nat → Nat → Int) (q : Nat) (fs : Nat → Int) (u v : Int) (na pa : Option Addr) (nc pc : Nat) (w : World) (hN : N ≤ 1048576) (hln : ∀ k, k < N → ln k ≤ 1048576) (hq : q ≤ 1048576) (hR : Rr w na N ln L) (hF : Ri w pa q fs) :
    Calls Try.prog 3 #[.slice na N nc, .slice pa q pc, .int .i64 u, .int .i64 v] w fun x w' => x = .returned (.bool true) ∧ Below w.heap.size w w' := by
  have hRN := reN_le N ln L q fs
  have hCN := cyN_le N ln L u v
  have cT := hide (twin_any N ln L na nc w (by omega) (fun k hk => by have := hln k hk; omega) hR)
  have cRe := hide (fun (W : World) (ga sa : Option Addr) (gc sc : Nat) (h1 : Rr W ga N ln L) (h2 : Ri W sa q fs) => Reach_any (nc := gc) (pc := sc) hN hln hq h1 h2)
  have cRr := hide (fun (W : World) (h1 : Below w.heap.size w W) => rReach_any (nc := nc) (pc := pc) hN hln hq (hR.later h1) (Ri.later hF h1))
  have cCy := hide (fun (W : World) (ga : Option Addr) (gc : Nat) (h1 : Rr W ga N ln L) => Cycle_any (nc := gc) (u := u) (v := v) hN hln h1)
  have cCr := hide (fun (W : World) (h1 : Below w.heap.size w W) => rCycle_any (nc := nc) (u := u) (v := v) hN hln (hR.later h1))
  have cUn := hide (fun (B cB : Nat) (g cp : Nat → Nat) (qa : Option Addr) (qc : Nat) (W : World) (h1 : Tw w.heap.size B N cB ln g cp L W) (h2 : Rv W qa N (Hd g ln cp)) (h3 : Rr W na N ln L) => untouched_any w.heap.size B N cB ln g cp L qa na qc nc W (by omega) (fun k hk => by have := hln k hk; omega) h1 h2 h3)
  have HR := hide hR
  have HF := hide hF
  have HLN := hide hln
  clear hR hF hln
  have HER := hide (show reE N ln L q fs = reE N ln L q fs from rfl)
  generalize hgR : reN N ln L q fs = R at *
  generalize hgE : reE N ln L q fs = eR at *
  generalize hgF : rb N ln L q fs = F at *
  generalize hgC : cyN N ln L u v = n at *
  generalize hgD : cyE N ln L u v = eC at *
  generalize hgV : cyF N ln L u v = V at *
  clear HER hgR hgE hgF hgC hgD hgV
  go_enter Try.func3, Try.ntmps3
  go_upto_region 2 with (go_at_call 10; refine (unhide cT).mono ?_; rintro x1 w1 ⟨B, cB, g, cp, rfl, htw, hb1⟩; have T1 := hide htw.tx; have B1 := hide hb1; clear htw hb1)
  go_upto_region 3 with (go_at_call 11; refine (headers_own N (Hd g ln cp) (fun _ => rfl) _ _ _ (by omega) (unhide T1).tw.hd).mono ?_; rintro x2 w2 ⟨qa, qc, rfl, hrv, hb2⟩; have T2 := hide hrv.rh; have B2 := hide hb2; clear hrv hb2)
  go_upto_region 4 with (go_at_call 12; refine (lent_any q fs _ _ _ (by omega) (Ri.later (unhide HF) (bl_t (unhide B1) (unhide B2)))).mono ?_; rintro x3 w3 ⟨gs, cs, rfl, hmk, hb3⟩; have T3 := hide hmk; have B3 := hide hb3; clear hmk hb3)
  have K3 := hide (show GK w na pa N q ln L fs w1.heap.size w2.heap.size w3.heap.size B cB gs cs g cp qa w3 from ⟨((unhide T1).later (unhide B2)).later (unhide B3), (unhide T2).later (unhide B3), unhide T3, (unhide T3).lt, (unhide HR).later (bl_t (bl_t (unhide B1) (unhide B2)) (unhide B3)), Ri.later (unhide HF) (bl_t (bl_t (unhide B1) (unhide B2)) (unhide B3)), bl_t (bl_t (unhide B1) (unhide B2)) (unhide B3), (unhide B2).size, (unhide B3).size⟩)
  clear T1 T2 T3 B1 B2 B3
  generalize w1.heap.size = s1 at K3
  generalize w2.heap.size = s2 at K3
  go_upto_region 5 with (go_at_call 13; refine (unhide cRe _ _ _ _ _ (unhide K3).tx.tw.rr (unhide K3).st.ri).mono ?_; rintro x4 w4 ⟨ga1, g1, rfl, ha, hb⟩; have A1 := hide ha.ab; have B4 := hide hb; have K4 := hide ((unhide K3).later hb); clear ha hb)
  go_upto_region 6 with (go_at_call 13; refine (unhide cRe _ _ _ _ _ (unhide K4).tx.tw.rr (unhide K4).st.ri).mono ?_; rintro x5 w5 ⟨ga2, g2, rfl, ha, hb⟩; have A2 := hide ha.ab; have B5 := hide hb; have K5 := hide ((unhide K4).later hb); clear ha hb)
  go_upto_region 7 with (first | (go_at_call 14; refine (another_any _).mono ?_; rintro x6 w5a ⟨BA, rfl, hra, hb⟩; have RA := hide (hra.later (al w5a (.cells #[.int .i64 2] 3))); have B5a := hide (bl_t hb (al w5a (.cells #[.int .i64 2] 3))); clear hra hb) | (go_at_call 13; refine (ReachA (unhide RA) (heap_new _ _)).mono ?_; rintro x7 w6 ⟨go, g0, rfl, ha, hb⟩; have AO0 := hide ha.ab; have B6 := hide (bl_t (unhide B5a) hb); have K6 := hide ((unhide K5).later (bl_t (unhide B5a) hb)); clear ha hb))
  go_upto_region 8 with (go_at_call 13; refine (unhide cRe _ _ _ _ _ (unhide K6).tx.tw.rr (unhide K6).st.ri).mono ?_; rintro x8 w7 ⟨ga3, g3, rfl, ha, hb⟩; have A3 := hide ha.ab; have B7 := hide hb; have K7 := hide ((unhide K6).later hb); clear ha hb)
  go_upto_region 9 with (go_at_call 15; refine (unhide cRr _ (unhide K7).bel).mono ?_; rintro x9 w8 ⟨ba, bc, rfl, ha, hb⟩; have AB := hide ha.rh; have B8 := hide hb; have K8 := hide ((unhide K7).later hb); clear ha hb)
  go_upto_region 10 with (go_at_call 16; refine (unhide cCy _ _ _ (unhide K8).tx.tw.rr).mono ?_; rintro x10 w9 ⟨C1, c1, rfl, ha, hb⟩; have AC1 := hide (Rw.of ha); have B9 := hide hb; have K9 := hide ((unhide K8).later hb); clear ha hb)
  go_upto_region 11 with (go_at_call 16; refine (unhide cCy _ _ _ (unhide K9).tx.tw.rr).mono ?_; rintro x11 w10 ⟨C2, c2, rfl, ha, hb⟩; have AC2 := hide (Rw.of ha); have B10 := hide hb; have K10 := hide ((unhide K9).later hb); clear ha hb)
  go_upto_region 12 with (first | (go_at_call 14; refine (another_any _).mono ?_; rintro x12 w10a ⟨BA2, rfl, hra, hb⟩; have RA2 := hide hra; have B10a := hide hb; clear hra hb) | (go_at_call 16; refine (CycleA (unhide RA2)).mono ?_; rintro x13 w11 ⟨Cp, cq, rfl, ha, hb⟩; have ACp := hide (Rw.of ha); have B11 := hide (bl_t (unhide B10a) hb); have K11 := hide ((unhide K10).later (bl_t (unhide B10a) hb)); clear ha hb))
  go_upto_region 13 with (go_at_call 16; refine (unhide cCy _ _ _ (unhide K11).tx.tw.rr).mono ?_; rintro x14 w12 ⟨C3, c3, rfl, ha, hb⟩; have AC3 := hide (Rw.of ha); have B12 := hide hb; have K12 := hide ((unhide K11).later hb); clear ha hb)
  go_upto_region 14 with (go_at_call 17; refine (unhide cCr _ (unhide K12).bel).mono ?_; rintro x15 w13 ⟨da, dc, rfl, ha, hb⟩; have AD := hide ha.rh; have B13 := hide hb; have K13 := hide ((unhide K12).later hb); clear ha hb)
  obtain ⟨k1, AC1⟩ := unhide AC1
  obtain ⟨k2, AC2⟩ := unhide AC2
  obtain ⟨kp, ACp⟩ := unhide ACp
  obtain ⟨k3, AC3⟩ := unhide AC3
  have X13 := hide (show GX R n F V w3.heap.size w4.heap.size w5.heap.size w6.heap.size w7.heap.size w8.heap.size w9.heap.size w10.heap.size w11.heap.size w12.heap.size w13.heap.size ga1 ga2 go ga3 ba g1 g2 g0 g3 C1 C2 Cp C3 da k1 k2 kp k3 c1 c2 cq c3 w13 from by
    have b13 := unhide B13
    have b12 := bl_t (unhide B12) b13
    have b11 := bl_t (unhide B11) b12
    have b10 := bl_t (unhide B10) b11
    have b9 := bl_t (unhide B9) b10
    have b8 := bl_t (unhide B8) b9
    have b7 := bl_t (unhide B7) b8
    have b6 := bl_t (unhide B6) b7
    have b5 := bl_t (unhide B5) b6
    exact ⟨(unhide A1).later b5, (unhide A2).later b6, ((unhide AO0).low (unhide B5a).size).later b7, (unhide A3).later b8, (unhide AB).later b9, AC1.later b10, AC2.later b11, (ACp.lower (unhide B10a).size).later b12, AC3.later b13, unhide AD, (unhide B4).size, (unhide B5).size, (unhide B6).size, (unhide B7).size, (unhide B8).size, (unhide B9).size, (unhide B10).size, (unhide B11).size, (unhide B12).size, (unhide B13).size⟩)
  clear A1 A2 AO0 A3 AB AC1 AC2 ACp AC3 AD B4 B5 B5a B6 B7 B8 B9 B10 B10a B11 B12 B13 K4 K5 K6 K7 K8 K9 K10 K11 K12 K3 RA RA2
  generalize w3.heap.size = s3 at *
  generalize w4.heap.size = s4 at *
  generalize w5.heap.size = s5 at *
  generalize w6.heap.size = s6 at *
  generalize w7.heap.size = s7 at *
  generalize w8.heap.size = s8 at *
  generalize w9.heap.size = s9 at *
  generalize w10.heap.size = s10 at *
  generalize w11.heap.size = s11 at *
  generalize w12.heap.size = s12 at *
  generalize hs13 : w13.heap.size = s13 at X13
  have HS13 := hide hs13
  clear hs13
  have er : (eR != eR) = false := by simp
  have ec : (eC != eC) = false := by simp
  go_upto_region 16 with (first | (go_at_call 18; refine (bools_any R F ga1 ba R bc _ (by omega) (unhide X13).a1.rv (unhide X13).b.rv).mono ?_; rintro x16 w14 ⟨rfl, hb⟩; have B14 := hide hb; clear hb) | (go_at_call 19; refine (num_any _ _).mono ?_; rintro x17 w99 ⟨rfl, hw⟩; rw [hw]; clear hw w99) | (go_at_call 20; refine (numbers_any n V C1 da c1 dc _ (by omega) (Ri.later (unhide X13).c1.ri (unhide B14)) ((unhide X13).d.rv.later (unhide B14))).mono ?_; rintro x18 w15 ⟨rfl, hb⟩; have B15 := hide (bl_t (unhide B14) hb); have K15 := hide ((unhide K13).later (unhide B15)); clear hb) | (go_at_call 21; refine (unhide cUn _ _ _ _ _ _ _ (unhide K15).tx.tw (unhide K15).hd.rv (unhide K15).cl).mono ?_; rintro x19 w16 ⟨rfl, hb⟩; have B16 := hide (bl_t (unhide B15) hb); have K16 := hide ((unhide K15).later hb); clear hb) | (go_at_call 22; refine (still_any s2 gs q cs fs pa pc _ (by omega) (unhide K16).st (unhide K16).fr).mono ?_; rintro x20 w17 ⟨rfl, hb⟩; have B17 := hide (bl_t (unhide B16) hb); have K17 := hide ((unhide K16).later hb); have X17 := hide ((unhide X13).later (unhide B17)); clear hb))
  have HS17 := hide (show s13 ≤ w17.heap.size from by have := (unhide B17).size; have := unhide HS13; omega)
  clear X13 K13 K15 K16 B14 B15 B16 B17 HS13
  have G1 := hide trivial
  have G2 := hide trivial
  have G3 := hide trivial
  have G4 := hide trivial
  have G5 := hide trivial
  go_upto_region 18 with (first | (go_at_call 18; have _u := G1; clear _u G1; refine (bools_any R F ga2 ba R bc _ (by omega) (unhide X17).a2.rv (unhide X17).b.rv).mono ?_; rintro x21 w18 ⟨rfl, hb⟩; have B18 := hide hb; clear hb) | (go_at_call 18; have _u := G2; clear _u G2; refine (bools_any R F ga3 ba R bc _ (by omega) ((unhide X17).a3.rv.later (unhide B18)) ((unhide X17).b.rv.later (unhide B18))).mono ?_; rintro x22 w19 ⟨rfl, hb⟩; have B19 := hide (bl_t (bl_t (unhide B18) hb) (al w19 (.cells #[.bool false, .bool false, .bool true] 4))); clear hb) | (go_at_call 18; have _u := G3; clear _u G3; refine (bools_any 3 oF go (some ⟨w19.heap.size, 0, none⟩) 3 3 _ (by omega) ((unhide X17).oo.rv.later (unhide B19)) (rt_three (heap_new _ _))).mono ?_; rintro x23 w20 ⟨rfl, hb⟩; have B20 := hide (bl_t (unhide B19) hb); clear hb) | (go_at_call 20; have _u := G4; clear _u G4; refine (numbers_any n V C2 da c2 dc _ (by omega) (Ri.later (unhide X17).c2.ri (unhide B20)) ((unhide X17).d.rv.later (unhide B20))).mono ?_; rintro x24 w21 ⟨rfl, hb⟩; have B21 := hide (bl_t (unhide B20) hb); clear hb) | (go_at_call 20; have _u := G5; clear _u G5; refine (numbers_any n V C3 da c3 dc _ (by omega) (Ri.later (unhide X17).c3.ri (unhide B21)) ((unhide X17).d.rv.later (unhide B21))).mono ?_; rintro x25 w22 ⟨rfl, hb⟩; have B22 := hide (bl_t (bl_t (unhide B21) hb) (al w22 (.cells #[.int .i64 0, .int .i64 1] 3))); clear hb) | (go_at_call 20; refine (numbers_any 2 pF Cp (some ⟨w22.heap.size, 0, none⟩) cq 2 _ (by omega) (Ri.later (unhide X17).p.ri (unhide B22)) (ri_two (u := 0) (v := 1) (heap_new _ _))).mono ?_; rintro x26 w23 ⟨rfl, hb⟩; have B23 := hide (bl_t (unhide B22) hb); clear hb))
  have X23 := hide ((unhide X17).later (unhide B23))
  have K23 := hide ((unhide K17).later (unhide B23))
  have HS23 := hide (Nat.le_trans (unhide HS17) (unhide B23).size)
  clear X17 K17 B18 B19 B20 B21 B22 B23 HS17
  have HBL := hide (unhide K23).bel
  have HY0 := hide (show GY R n F V s4 s5 s7 s8 s9 s10 s12 s13 ga2 ba g2 C2 da k2 c2 w23 from ⟨(unhide X23).a2, (unhide X23).b, (unhide X23).c2, (unhide X23).d⟩)
  have HA0 := hide (show Ab s3 s4 ga1 g1 R 4 (bv (flipB F 0)) w23 from by rw [flipB_zero]; exact (unhide X23).a1)
  have HC0 := hide (show Ab s6 s7 ga3 g3 R 4 (bv (onB F 0)) w23 from by rw [onB_zero]; exact (unhide X23).a3)
  have HOR := hide (unhide X23).o
  have HKO := hide (unhide K23).o
  have HW3 := hide (show w.heap.size ≤ s3 from by
    have h1 := (unhide K23).st.ge
    have h2 := (unhide K23).gl
    have h3 := (unhide K23).tx.tw.ge
    have h4 := (unhide K23).tx.bk
    have h5 := (unhide K23).o
    omega)
  go_wp2_with fail
  go_loopg [32] R (fun g1' vi wr => ∃ i : Nat, vi = .int .i64 i ∧ i ≤ R ∧ R - i ≤ g1' ∧ Hid (Ab s3 s4 ga1 g1 R 4 (bv (flipB F i)) wr) ∧ Hid (Ab s6 s7 ga3 g3 R 4 (bv (onB F i)) wr) ∧ Hid (Fx (fun b => (s3 ≤ b ∧ b < s4) ∨ (s6 ≤ b ∧ b < s7)) w23 wr) ∧ Hid (Below w.heap.size w wr))
  case atStart => exact ⟨0, by go_num, by omega, by omega, HA0, HC0, hide (Fx.refl _ _), HBL⟩
  case round =>
    clear HA0 HC0 HBL
    obtain ⟨i, rfl, hi, hgi, HA, HC, HX, HB⟩ := hrel
    by_cases hlt : i < R
    · rcases unhide HA with ⟨_, e0⟩ | ⟨e1, a1, a2, a3⟩
      · omega
      rcases unhide HC with ⟨_, e0⟩ | ⟨e2, b1, b2, b3⟩
      · omega
      subst e1
      subst e2
      obtain ⟨ca, fa⟩ := a3.cell hlt
      unfold bv at ca
      rw [show flipB F i i = F i from if_neg (by omega)] at ca
      have hne : g3 ≠ g1 := by have := unhide HOR; omega
      have HC1 := hide (b3.same (set_other wr g1 i (.bool (!F i)) g3 hne))
      obtain ⟨cc, fc⟩ := (unhide HC1).cell hlt
      unfold bv at cc
      have HA2 := hide (show Ab s3 s4 (some ⟨g1, 0, none⟩) g1 R 4 (bv (flipB F (i + 1))) ((wr.setCell ⟨g1, i, none⟩ (.bool (!F i))).setCell ⟨g3, i, none⟩ (.bool true)) from .inr ⟨rfl, a1, a2, by
        have h1 := a3.set hlt (.bool (!F i))
        rw [flipB_next] at h1
        exact h1.same (set_other _ _ _ _ _ (fun e => hne e.symm))⟩)
      have HC2 := hide (show Ab s6 s7 (some ⟨g3, 0, none⟩) g3 R 4 (bv (onB F (i + 1))) ((wr.setCell ⟨g1, i, none⟩ (.bool (!F i))).setCell ⟨g3, i, none⟩ (.bool true)) from .inr ⟨rfl, b1, b2, by
        have h1 := (unhide HC1).set hlt (.bool true)
        rw [onB_next] at h1
        exact h1⟩)
      have HX2 := hide (((unhide HX).set (g := g1) (.inl ⟨a1, a2⟩) i (.bool (!F i))).set (g := g3) (.inr ⟨b1, b2⟩) i (.bool true))
      have HB2 := hide (((unhide HB).setCell (p := ⟨g1, i, none⟩) (by have := unhide HW3; show w.heap.size ≤ g1; omega) (.bool (!F i))).setCell (p := ⟨g3, i, none⟩) (by have := unhide HW3; have := unhide HOR; show w.heap.size ≤ g3; omega) (.bool true))
      clear HA HC HX HB HC1 a3 b3
      generalize onB F i i = oz at *
      generalize F i = fi at *
      go_wp2_with fail
      generalize (wr.setCell ⟨g1, i, none⟩ (.bool (!fi))).setCell ⟨g3, i, none⟩ (.bool true) = w24 at *
      go_wp2_with fail
      go_roundg (R - (i + 1))
      case measure => omega
      case rel => exact ⟨i + 1, by go_num, by omega, by omega, HA2, HC2, HX2, HB2⟩
    · obtain rfl : i = R := by omega
      have HKw := hide ((unhide K23).fx (unhide HX) (fun b e => by have := unhide HOR; omega) (unhide HB) (unhide HR) (unhide HF))
      have HYw := hide ((unhide HY0).fx (unhide HX) (fun b e => by have := unhide HOR; omega))
      have H1w := hide ((unhide X23).c1.fx (unhide HX) (fun b h1 h2 e => by have := unhide HOR; omega))
      have Hpw := hide ((unhide X23).p.fx (unhide HX) (fun b h1 h2 e => by have := unhide HOR; omega))
      have H3w := hide ((unhide X23).c3.fx (unhide HX) (fun b h1 h2 e => by have := unhide HOR; omega))
      have HOL := hide (show ∀ (W : World) (hb : Below wr.heap.size wr W), ((vl i (bv (flipB F i))).length = (i + 0) * 1) ∧ (∀ bb, ga1 = some bb → ∀ j y, (vl i (bv (flipB F i)))[j]? = some y → W.cell? (bb.add j) = some y) ∧ (ga1 = none → i + 0 = 0 ∧ i = 0) from fun W hb => by
        refine ⟨by simp [vl], fun bb e j y hj => ?_, fun e => ?_⟩
        · rcases unhide HA with ⟨e0, _⟩ | ⟨e1, a1, a2, a3⟩
          · rw [e0] at e; cases e
          · rw [e1] at e
            cases e
            have hjl : j < i := by
              have := (List.getElem?_eq_some_iff.1 hj).1
              simpa [vl] using this
            rw [vl_at _ _ _ hjl] at hj
            cases hj
            rw [Addr.add_mid, Nat.zero_add]
            exact ((a3.later hb).cell hjl).1
        · rcases unhide HA with ⟨_, e0⟩ | ⟨e1, _⟩
          · omega
          · rw [e1] at e; cases e)
      have HSw := hide (Nat.le_trans (unhide HS23) (unhide HX).size)
      clear HA HC HX HB X23 K23 HY0 hgi hi HS23
      generalize wr = W24 at *
      obtain ⟨iB, hiB, hzB0, hzB1, hzB2⟩ := info_parts infoB
      go_wp2_with fail
      go_loopg [33, 34] 70 (fun g2' vm vk wr => ∃ (k : Nat) (la : Option Addr) (lc : Nat), vk = .int .i64 k ∧ vm = .slice la (i + k) lc ∧ k ≤ 70 ∧ 70 - k ≤ g2' ∧ Hid ((la = ga1 ∧ lc = i ∧ k = 0) ∨ ∃ xs, wr.ownsRow W24.heap.size 4 1 (.slice la (i + k) lc) (i + k) xs) ∧ Hid (Below W24.heap.size W24 wr))
      case atStart => exact ⟨0, ga1, i, by go_num, rfl, by omega, by omega, hide (.inl ⟨rfl, rfl, rfl⟩), hide (Below.refl _ _)⟩
      case round =>
        obtain ⟨k, la, lc, rfl, rfl, hk, hgk, HO, HB⟩ := hrel
        have hszz := (unhide HB).size
        by_cases hlk : k < 70
        · rcases unhide HO with ⟨e1, e2, e3⟩ | ⟨xs, ho⟩
          · subst e1
            subst e2
            subst e3
            have HOL2 := hide (unhide HOL (wr.alloc (.cells #[.bool true] 4)) (bl_t (unhide HB) (al _ _)))
            clear HO
            go_wp2_with (at_builtin; go_must (refine wpList_append_grows _ rfl _ _ 26 rfl 4 iB (.bool false) 1 1 Try.underlying26 hiB hzB0 hzB1 hzB2 rfl (by decide) la lc lc (vl lc (bv (flipB F lc))) rfl (unhide HOL2).2.2 (unhide HOL2).1 (unhide HOL2).2.1 ⟨wr.heap.size, 0, none⟩ 1 1 [.bool true] rfl rfl (cell_one_new _ _ _) (by simp [Value.oneCell']) (by omega) (by unfold maxLen; omega) (by omega) ?_); intro v9 w9 hown hgrow; obtain ⟨la9, lc9, hv9⟩ := owns_form hown; subst hv9; have HO9 := hide (own_up (b0 := W24.heap.size) hown (by simp; omega)); have HB9 := hide ((bl_t (unhide HB) (al wr _)).grown hgrow (by simp; omega) (fun j e => by cases e)); clear hown hgrow)
            go_roundg (70 - (0 + 1))
            case measure => omega
            case rel => exact ⟨0 + 1, la9, lc9, by go_num, rfl, by omega, by omega, hide (.inr ⟨_, unhide HO9⟩), HB9⟩
          · have HO2 := hide ho
            clear ho HO
            go_wp2_with (at_builtin; go_must (refine wpList_append_lies _ rfl _ _ 26 rfl W24.heap.size 4 iB (.bool false) 1 1 Try.underlying26 hiB hzB0 hzB1 hzB2 rfl (by decide) (.slice la (i + k) lc) (i + k) xs rfl ((unhide HO2).alloc _) ⟨wr.heap.size, 0, none⟩ 1 1 [.bool ((k : Int) % 2 == 0)] rfl rfl (cell_one_new _ _ _) (by simp [Value.oneCell']) (by decide) (by unfold maxLen; omega) (by omega) (by simp; omega) _ rfl ?_); intro gg c9 w9 hown hgrow hat _; have HO9 := hide hown; have HB9 := hide ((bl_t (unhide HB) (al wr _)).grown hgrow (by simp; omega) (fun j e => ((unhide HO2).lt j e).1)); clear hown hgrow hat)
            go_roundg (70 - (k + 1))
            case measure => omega
            case rel => exact ⟨k + 1, _, _, by go_num, rfl, by omega, by omega, hide (.inr ⟨_, unhide HO9⟩), HB9⟩
        · obtain rfl : k = 70 := by omega
          have K25 := hide ((unhide HKw).later (unhide HB))
          have Y25 := hide ((unhide HYw).later (unhide HB))
          have D1 := hide ((unhide H1w).later (unhide HB))
          have Dp := hide ((unhide Hpw).later (unhide HB))
          have D3 := hide ((unhide H3w).later (unhide HB))
          have HS25 := hide (Nat.le_trans (unhide HSw) hszz)
          clear HO HKw HYw H1w Hpw H3w HSw HB hszz HOL hgk hk
          generalize wr = W25 at *
          have cA := hide (apart3 (unhide D1) (unhide D3) (unhide Dp) (by have := unhide HOR; omega) (by have := unhide HOR; have := unhide HS25; omega) (by omega))
          have iw : IntKind.i64.wrap ((i : Int) + 70) = (i : Int) + 70 := IntWalk.i64_in _ (by omega)
          have ie : ((i : Int) + 70 != (i : Int) + 70) = false := by simp
          have HP2 := hide (show ∀ b, ((s8 ≤ b ∧ b < s9) ∨ (s10 ≤ b ∧ b < s12)) → ¬ ((s4 ≤ b ∧ b < s5) ∨ (s7 ≤ b ∧ b < s8) ∨ (s9 ≤ b ∧ b < s10) ∨ (s12 ≤ b ∧ b < s13)) from fun b e => by have := unhide HOR; omega)
          have HP3 := hide (show ∀ b, ((s8 ≤ b ∧ b < s9) ∨ (s10 ≤ b ∧ b < s12)) → s3 ≤ b from fun b e => by have := unhide HOR; omega)
          have HW8 := hide (show w.heap.size ≤ s8 from by have := unhide HOR; have := unhide HW3; omega)
          have G6 := hide trivial
          go_upto_region 30 with (first | (go_at_call 23; refine (unhide cA).mono ?_; rintro x27 w26 ⟨rfl, hfx, hbb⟩; have B26 := hide ((unhide K25).bel.trans (hbb.mono (unhide HW8))); have K26 := hide ((unhide K25).fx hfx (unhide HP3) (unhide B26) (unhide HR) (unhide HF)); have Y26 := hide ((unhide Y25).fx hfx (unhide HP2)); clear hfx hbb) | (go_at_call 18; refine (bools_any i F ga2 ba i bc _ (by omega) (unhide Y26).a2.rv (unhide Y26).b.rv).mono ?_; rintro x28 w27 ⟨rfl, hb⟩; have B27 := hide hb; clear hb) | (go_at_call 20; refine (numbers_any n V C2 da c2 dc _ (by omega) (Ri.later (unhide Y26).c2.ri (unhide B27)) ((unhide Y26).d.rv.later (unhide B27))).mono ?_; rintro x29 w28 ⟨rfl, hb⟩; have K28 := hide ((unhide K26).later (bl_t (unhide B27) hb)); clear hb) | (go_at_call 21; refine (unhide cUn _ _ _ _ _ _ _ (unhide K28).tx.tw (unhide K28).hd.rv (unhide K28).cl).mono ?_; rintro x30 w29 ⟨rfl, hb⟩; have K29 := hide ((unhide K28).later hb); clear hb) | (go_at_call 22; refine (still_any s2 gs q cs fs pa pc _ (by omega) (unhide K29).st (unhide K29).fr).mono ?_; rintro x31 w30 ⟨rfl, hb⟩; have K30 := hide ((unhide K29).later hb); clear hb))
          clear cA K25 Y25 D1 Dp D3 K26 Y26 K28 K29 B26 B27 G6 HP2 HP3
          -- the graph is written over
          have cTu := hide (lturned_any w.heap.size B N cB ln g cp L w30 (by omega) (fun k hk => by have := unhide HLN k hk; omega) (unhide K30).tx.tw.wr)
          have HNG := hide (show ∀ k, k < N → gs ≠ g k from fun k hk => by
            have h1 := (unhide K30).tx.gk k hk
            have h2 := (unhide K30).st.ge
            have h3 := (unhide K30).o
            omega)
          have HGS := hide (show w.heap.size ≤ gs from by
            have h2 := (unhide K30).st.ge
            have h3 := (unhide K30).o
            have h4 := (unhide K30).tx.bk
            have h5 := (unhide K30).tx.tw.ge
            omega)
          go_upto_region 31 with (go_at_call 24; refine (unhide cTu).mono ?_; rintro x32 w31 ⟨rfl, hwr, hbb, hot⟩; have HWR := hide hwr; have B31 := hide ((unhide K30).bel.trans hbb); have HST := hide ((unhide K30).st.same (hot gs (unhide HNG))); clear hwr hbb hot)
          clear cTu K30
          obtain ⟨L2, hL2⟩ : ∃ L2 : Nat → Nat → Int, L2 = fun a b => tn N (L a b) := ⟨_, rfl⟩
          rw [← hL2] at HWR
          clear hL2
          have cT2 := hide (fun (W : World) (h : Rr W (some ⟨B, 0, none⟩) N ln L2) => twin_any N ln L2 _ cB W (by omega) (fun k hk => by have := unhide HLN k hk; omega) h)
          have cRe2 := hide (fun (W : World) (ga sa : Option Addr) (gc sc : Nat) (f2 : Nat → Int) (h1 : Rr W ga N ln L2) (h2 : Ri W sa q f2) => Reach_any (nc := gc) (pc := sc) hN (unhide HLN) hq h1 h2)
          have cRr2 := hide (fun (W : World) (ga sa : Option Addr) (gc sc : Nat) (f2 : Nat → Int) (h1 : Rr W ga N ln L2) (h2 : Ri W sa q f2) => rReach_any (nc := gc) (pc := sc) hN (unhide HLN) hq h1 h2)
          have cCy2 := hide (fun (W : World) (ga : Option Addr) (gc : Nat) (h1 : Rr W ga N ln L2) => Cycle_any (nc := gc) (u := u) (v := v) hN (unhide HLN) h1)
          have cCr2 := hide (fun (W : World) (ga : Option Addr) (gc : Nat) (h1 : Rr W ga N ln L2) => rCycle_any (nc := gc) (u := u) (v := v) hN (unhide HLN) h1)
          have hRN2 := reN_le N ln L2 q fs
          have hRN3 := reN_le N ln L2 q (stF N fs q)
          have hCN2 := cyN_le N ln L2 u v
          clear cT cRe cRr cCy cCr cUn
          go_upto_region 32 with (go_at_call 10; refine (unhide cT2 _ (unhide HWR).rr).mono ?_; rintro x33 w32 ⟨B2, cB2, gg2, cp2, rfl, htw, hb⟩; have HT2 := hide htw; have E32 := hide hb; clear htw hb)
          go_upto_region 33 with (go_at_call 13; refine (unhide cRe2 _ _ _ _ _ _ ((unhide HWR).rr.later (unhide E32)) (Ri.later (unhide HST).ri (unhide E32))).mono ?_; rintro x34 w33 ⟨la1, lg1, rfl, ha, hb⟩; have AL := hide ha.rv; have E33 := hide hb; clear ha hb)
          go_upto_region 34 with (go_at_call 16; refine (unhide cCy2 _ _ _ (((unhide HWR).rr.later (unhide E32)).later (unhide E33))).mono ?_; rintro x35 w34 ⟨nA, nC, rfl, ha, hb⟩; have ANn := hide (Rv.of_owns ha); have E34 := hide hb; clear ha hb)
          go_upto_region 35 with (go_at_call 15; refine (unhide cRr2 _ _ _ _ _ _ (((unhide HT2).rr.later (unhide E33)).later (unhide E34)) (Ri.later (unhide HF) (bl_t (bl_t (bl_t (unhide B31) (unhide E32)) (unhide E33)) (unhide E34)))).mono ?_; rintro x36 w35 ⟨wA, wC, rfl, ha, hb⟩; have AW := hide ha.rv; have E35 := hide hb; clear ha hb)
          go_upto_region 36 with (go_at_call 17; refine (unhide cCr2 _ _ _ ((((unhide HT2).rr.later (unhide E33)).later (unhide E34)).later (unhide E35))).mono ?_; rintro x37 w36 ⟨xA, xC, rfl, ha, hb⟩; have AX := hide ha.rv; have E36 := hide hb; clear ha hb)
          have M33 := hide ((((unhide AL).later (unhide E34)).later (unhide E35)).later (unhide E36))
          have M34 := hide (((unhide ANn).later (unhide E35)).later (unhide E36))
          have M35 := hide ((unhide AW).later (unhide E36))
          have E36' := hide (bl_t (bl_t (bl_t (unhide E33) (unhide E34)) (unhide E35)) (unhide E36))
          have Q36 := hide (show Tw w31.heap.size B2 N cB2 ln gg2 cp2 L2 w36 ∧ Wr w.heap.size B N ln g cp L2 w36 ∧ Mk s2 gs q cs fs w36 ∧ Below w.heap.size w w36 from ⟨(unhide HT2).later (unhide E36'), (unhide HWR).later (bl_t (unhide E32) (unhide E36')), (unhide HST).later (bl_t (unhide E32) (unhide E36')), bl_t (unhide B31) (bl_t (unhide E32) (unhide E36'))⟩)
          have HGL := hide (show gs < w31.heap.size from (unhide HST).lt)
          clear AL ANn AW E32 E33 E34 E35 E36 E36' HT2 HWR HST B31
          generalize w31.heap.size = s31 at Q36 HGL
          generalize reN N ln L2 q fs = R2 at *
          generalize reE N ln L2 q fs = e2 at *
          generalize rb N ln L2 q fs = F2 at *
          generalize cyN N ln L2 u v = n2 at *
          generalize cyE N ln L2 u v = e3 at *
          generalize cyF N ln L2 u v = V2 at *
          have f2 : (e2 != e2) = false := by simp
          have f3 : (e3 != e3) = false := by simp
          go_upto_region 38 with (first | (go_at_call 18; refine (bools_any R2 F2 la1 wA R2 wC _ (by omega) (unhide M33) (unhide M35)).mono ?_; rintro x38 w37 ⟨rfl, hb⟩; have E37 := hide hb; clear hb) | (go_at_call 19; refine (num_any _ _).mono ?_; rintro x39 w99 ⟨rfl, hw⟩; rw [hw]; clear hw w99) | (go_at_call 20; refine (numbers_any n2 V2 nA xA nC xC _ (by omega) ((unhide M34).later (unhide E37)) ((unhide AX).later (unhide E37))).mono ?_; rintro x40 w38 ⟨rfl, hb⟩; have E38 := hide (bl_t (unhide E37) hb); clear hb))
          have Q38 := hide (show Tw s31 B2 N cB2 ln gg2 cp2 L2 w38 ∧ Wr w.heap.size B N ln g cp L2 w38 ∧ Mk s2 gs q cs fs w38 ∧ Below w.heap.size w w38 from ⟨(unhide Q36).1.later (unhide E38), (unhide Q36).2.1.later (unhide E38), (unhide Q36).2.2.1.later (unhide E38), bl_t (unhide Q36).2.2.2 (unhide E38)⟩)
          clear Q36 M33 M34 M35 AX E37 E38
          have HM0 := hide (show Mv gs q 3 (iv (stF N fs 0)) w38 from by
            obtain ⟨cur, q1, q2, _⟩ := (unhide Q38).2.2.1.blk
            exact ⟨cur, q1, fun k hk => by rw [q2 k hk]; unfold iv stF; rw [if_neg (by omega)]⟩)
          have HB0 := hide (unhide Q38).2.2.2
          go_wp2_with fail
          go_loopg [44] q (fun g5 vi wr => ∃ k : Nat, vi = .int .i64 k ∧ k ≤ q ∧ q - k ≤ g5 ∧ Hid (Mv gs q 3 (iv (stF N fs k)) wr) ∧ Hid (Fx (fun b => b = gs) w38 wr) ∧ Hid (Below w.heap.size w wr))
          case atStart => exact ⟨0, by go_num, by omega, by omega, HM0, hide (Fx.refl _ _), HB0⟩
          case round =>
            clear HM0 HB0
            obtain ⟨k, rfl, hk, hgk, HM, HX, HB⟩ := hrel
            by_cases hlt : k < q
            · obtain ⟨ck, fk⟩ := (unhide HM).cell hlt
              unfold iv at ck
              rw [show stF N fs k k = fs k from if_neg (by omega)] at ck
              by_cases hnd : 0 ≤ fs k ∧ fs k < (N : Int)
              · have HM2 := hide (show Mv gs q 3 (iv (stF N fs (k + 1))) (wr.setCell ⟨gs, k, none⟩ (.int .i64 ((N : Int) - 1 - fs k))) from by
                  rw [← stF_next, show tn N (fs k) = (N : Int) - 1 - fs k from if_pos hnd]
                  exact (unhide HM).set hlt _)
                have HX2 := hide ((unhide HX).set (g := gs) rfl k (.int .i64 ((N : Int) - 1 - fs k)))
                have HB2 := hide ((unhide HB).setCell (p := ⟨gs, k, none⟩) (unhide HGS) (.int .i64 ((N : Int) - 1 - fs k)))
                obtain ⟨z0, z1⟩ := hnd
                clear HM HX HB
                generalize fs k = fk1 at *
                have i1 : IntKind.i64.wrap ((N : Int) - 1) = (N : Int) - 1 := IntWalk.i64_in _ (by omega)
                have i2 : IntKind.i64.wrap ((N : Int) - 1 - fk1) = (N : Int) - 1 - fk1 := IntWalk.i64_in _ (by omega)
                go_wp2_with fail
                generalize wr.setCell ⟨gs, k, none⟩ (.int .i64 ((N : Int) - 1 - fk1)) = w39 at *
                go_wp2_with fail
                go_roundg (q - (k + 1))
                case measure => omega
                case rel => exact ⟨k + 1, by go_num, by omega, by omega, HM2, HX2, HB2⟩
              · have HM2 := hide (show Mv gs q 3 (iv (stF N fs (k + 1))) wr from by rw [stF_same N fs k (if_neg hnd)]; exact unhide HM)
                clear HM
                generalize fs k = fk1 at *
                by_cases r1 : 0 ≤ fk1
                · have r2 : ¬ fk1 < (N : Int) := fun e => hnd ⟨r1, e⟩
                  clear hnd
                  go_wp2_with fail
                  go_roundg (q - (k + 1))
                  case measure => omega
                  case rel => exact ⟨k + 1, by go_num, by omega, by omega, HM2, HX, HB⟩
                · clear hnd
                  go_wp2_with fail
                  go_roundg (q - (k + 1))
                  case measure => omega
                  case rel => exact ⟨k + 1, by go_num, by omega, by omega, HM2, HX, HB⟩
            · obtain rfl : k = q := by omega
              have HNW := hide (show Rr wr (some ⟨B2, 0, none⟩) N ln L2 from ((unhide Q38).1.wr.fx (unhide HX) (fun e => by have := (unhide Q38).1.ge; have := unhide HGL; omega) (fun a ha e => by have := (unhide Q38).1.wr.ge a ha; have := unhide HGL; omega)).rr)
              have HGR := hide (show Rr wr (some ⟨B, 0, none⟩) N ln L2 from ((unhide Q38).2.1.fx (unhide HX) (fun e => by
                obtain ⟨cb, q1, _⟩ := (unhide Q38).2.1.blk
                obtain ⟨cs2, q2, _⟩ := (unhide Q38).2.2.1.blk
                exact blk_ne (by decide) q2 q1 e) (fun a ha e => unhide HNG a ha e.symm)).rr)
              obtain ⟨i0, hi0, hz0, hz1, hz2⟩ := info_parts infoI
              obtain ⟨v1, W1, r1, ho1, hb1, _⟩ := app1 (P := Try.prog) 23 23 3 i0 (.int .i64 0) 1 8 Try.underlying23 hi0 hz0 hz1 hz2 rfl (by decide) k (vl k (iv (stF N fs k))) (by simp [vl]) (vl_one _ _ fun _ => rfl) (by omega) (by unfold maxLen; omega) (some ⟨gs, 0, none⟩) cs wr (Rv.src (unhide HM).rv)
              obtain ⟨fa, fc, hv1⟩ := owns_form ho1
              subst hv1
              have HFA := hide (Rv.of_owns ho1)
              have HBA := hide hb1
              have HMR := hide (show Rv wr (some ⟨gs, 0, none⟩) k (iv (stF N fs k)) from (unhide HM).rv)
              clear ho1 hb1 hi0 hz0 hz1 hz2 HM HX Q38 cT2 cCy2 cCr2
              have c43 := hide (unhide cRr2 W1 (some ⟨B2, 0, none⟩) fa cB2 fc (stF N fs k) ((unhide HNW).later (unhide HBA)) (unhide HFA))
              have c44 := hide (fun (W : World) (hb : Below wr.heap.size wr W) => unhide cRe2 W (some ⟨B, 0, none⟩) (some ⟨gs, 0, none⟩) cB cs (stF N fs k) ((unhide HGR).later hb) ((unhide HMR).later hb))
              generalize reN N ln L2 k (stF N fs k) = R3 at *
              generalize reE N ln L2 k (stF N fs k) = e4 at *
              generalize rb N ln L2 k (stF N fs k) = F3 at *
              have f4 : (e4 == e4) = true := by simp
              go_upto_region 45 with (first | ((with_reducible refine wpList_append_run (o := { dst := some 337, op := Op.call { callee := Callee.builtin Builtin.append, args := #[Operand.tmp 335, Operand.tmp 336], argTypes := #[23, 23] }, type := 23, pos := "law.go:271", after := #[{ on := 1, ground := Ground.data }, { on := 2, ground := Ground.data }], guard := none }) ?m9a (.tmp 335) (.tmp 336) 23 ?m9b _ _ ?m9c ?m9d r1 ?m9e); (case m9a => rfl); (case m9b => rfl); (case m9c => rfl); (case m9d => rfl)) | (go_at_call 15; refine (unhide c43).mono ?_; rintro x41 w40 ⟨wA3, wC3, rfl, ha, hb⟩; have AW3 := hide ha.rv; have E40 := hide (bl_t (unhide HBA) hb); clear ha hb) | (go_at_call 13; refine (unhide c44 _ (unhide E40)).mono ?_; rintro x42 w41 ⟨lA3, lg3, rfl, ha, hb⟩; have AL3 := hide ha.rv; have M40 := hide ((unhide AW3).later hb); have E41 := hide (bl_t (unhide E40) hb); clear ha hb))
              go_wp2_with (first | (go_at_call 18; refine (bools_any R3 F3 lA3 wA3 R3 wC3 _ (by omega) (unhide AL3) (unhide M40)).mono ?_; rintro x43 w42 ⟨rfl, hb⟩; have E42 := hide (bl_t (unhide E41) hb); clear hb) | (go_at_call 19; refine (num_any _ _).mono ?_; rintro x44 w99 ⟨rfl, hw⟩; rw [hw]; clear hw w99))
              go_ret
              exact ⟨rfl, bl_t (unhide HB) (unhide E42)⟩
end Go.Proofs.Ytdflllaahjahcaa
