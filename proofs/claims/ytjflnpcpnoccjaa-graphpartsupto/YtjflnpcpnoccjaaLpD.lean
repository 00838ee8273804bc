import Derived.Test.YtjflnpcpnoccjaaLpM
namespace Go.Proofs.Ytjflnpcpnoccjaa
open Go.RowKit

set_option maxRecDepth 100000 in
set_option maxHeartbeats 16000000 in
theorem parts_walk (N : Nat) (ln : Nat → Nat) (L : Nat → Nat → Int) (na : Option Addr) (nc : Nat) (w : World) (hN : N ≤ 1048576) (hln : ∀ k, k < N → ln k ≤ 1048576) (hR : Rr w na N ln L) :
    Calls Try.prog 5 #[.slice na N nc] w fun x w' => x = .returned (.bool true) ∧ Below w.heap.size w w' := by
  have hnn := ptN_le N ln L
  have hmm := poN_le N ln L
  have HL1 := hide (ptL_len (pn N ln L) N)
  have HL3 := hide (cdL_len N ln L)
  have cT := hide (twin_any N ln L na nc w (by omega) (fun k hk => by have := hln k hk; omega) hR)
  have cQ0 := hide (fun (W : World) (ga : Option Addr) (gc : Nat) (h1 : Rr W ga N ln L) => Parts_L (nc := gc) hN hln h1)
  have cR0 := hide (fun (W : World) (h1 : Below w.heap.size w W) => rParts_any (nc := nc) hN hln (hR.later h1))
  have cQ1 := hide (fun (W : World) (ga : Option Addr) (gc : Nat) (h1 : Rr W ga N ln L) => PartOf_L (nc := gc) hN hln h1)
  have cR1 := hide (fun (W : World) (h1 : Below w.heap.size w W) => rPartOf_any (nc := nc) hN hln (hR.later h1))
  have cQ2 := hide (fun (W : World) (ga : Option Addr) (gc : Nat) (h1 : Rr W ga N ln L) => Condense_L (nc := gc) hN hln h1)
  have cR2 := hide (fun (W : World) (h1 : Below w.heap.size w W) => rCondense_any (nc := nc) hN hln (hR.later h1))
  have cUn := hide (fun (B cB : Nat) (g cp : Nat → Nat) (qa : Option Addr) (qc : Nat) (W : World) (h1 : Tw w.heap.size B N cB ln g cp L W) (h2 : Rv W qa N (Hd g ln cp)) (h3 : Rr W na N ln L) => untouched_any w.heap.size B N cB ln g cp L qa na qc nc W (by omega) (fun k hk => by have := hln k hk; omega) h1 h2 h3)
  have HR := hide hR
  have HLN := hide hln
  clear hR hln
  generalize hg1 : ptN N ln L = n at *
  generalize hg2 : ptE N ln L = eP at *
  generalize hg3 : poN N ln L = m at *
  generalize hg4 : ptL (pn N ln L) N = ls at *
  generalize hg5 : cdL N ln L = ks at *
  generalize hg6 : (fun j => (pn N ln L j : Int)) = V at *
  clear hg1 hg2 hg3 hg4 hg5 hg6
  go_enter Try.func5, Try.ntmps5
  go_upto_region 2 with (go_at_call 10; refine (unhide cT).mono ?_; rintro x1 w1 ⟨B, cB, g, cp, rfl, htw, hb1⟩; have T1 := hide htw.tx; have B1 := hide hb1; clear htw hb1)
  go_upto_region 3 with (go_at_call 11; refine (headers_own N (Hd g ln cp) (fun _ => rfl) _ _ _ (by omega) (unhide T1).tw.hd).mono ?_; rintro x2 w2 ⟨qa, qc, rfl, hrv, hb2⟩; have T2 := hide hrv.rh; have B2 := hide hb2; clear hrv hb2)
  have K2 := hide (show KP w na N ln L w1.heap.size w2.heap.size B cB g cp qa w2 from ⟨(unhide T1).later (unhide B2), unhide T2, (unhide HR).later (bl_t (unhide B1) (unhide B2)), bl_t (unhide B1) (unhide B2), (unhide B2).size⟩)
  clear T1 T2 B1 B2 cT
  generalize w1.heap.size = s1 at K2
  go_upto_region 4 with (go_at_call 30; refine (unhide cQ0 _ _ _ (unhide K2).tx.tw.rr).mono ?_; rintro x3 w3 ⟨ga3, rfl, ha, hb⟩; have A3 := hide ha; have B3 := hide hb; have K3 := hide ((unhide K2).later hb); clear ha hb)
  go_upto_region 5 with (go_at_call 30; refine (unhide cQ0 _ _ _ (unhide K3).tx.tw.rr).mono ?_; rintro x4 w4 ⟨ga4, rfl, ha, hb⟩; have A4 := hide ha; have B4 := hide hb; have K4 := hide ((unhide K3).later hb); clear ha hb)
  go_upto_region 6 with (first | (go_at_call 14; refine (another_any _).mono ?_; rintro x5a w5a ⟨BA5, rfl, hra, hb⟩; have RA5 := hide hra; have B5a := hide hb; clear hra hb) | (go_at_call 30; refine (Parts_A (unhide RA5)).mono ?_; rintro x5 w5 ⟨ga5, rfl, ha, hb⟩; have A5 := hide ha; have B5 := hide (bl_t (unhide B5a) hb); have K5 := hide ((unhide K4).later (bl_t (unhide B5a) hb)); clear ha hb))
  go_upto_region 7 with (go_at_call 30; refine (unhide cQ0 _ _ _ (unhide K5).tx.tw.rr).mono ?_; rintro x6 w6 ⟨ga6, rfl, ha, hb⟩; have A6 := hide ha; have B6 := hide hb; have K6 := hide ((unhide K5).later hb); clear ha hb)
  go_upto_region 8 with (go_at_call 31; refine (unhide cR0 _ (unhide K6).bel).mono ?_; rintro x7 w7 ⟨ga7, gc7, rfl, ha, hb⟩; have A7 := hide ha; have B7 := hide hb; have K7 := hide ((unhide K6).later hb); clear ha hb)
  go_upto_region 9 with (go_at_call 32; refine (unhide cQ1 _ _ _ (unhide K7).tx.tw.rr).mono ?_; rintro x8 w8 ⟨ga8, k8, rfl, ha, hb⟩; have A8 := hide ha; have B8 := hide hb; have K8 := hide ((unhide K7).later hb); clear ha hb)
  go_upto_region 10 with (go_at_call 32; refine (unhide cQ1 _ _ _ (unhide K8).tx.tw.rr).mono ?_; rintro x9 w9 ⟨ga9, k9, rfl, ha, hb⟩; have A9 := hide ha; have B9 := hide hb; have K9 := hide ((unhide K8).later hb); clear ha hb)
  go_upto_region 11 with (first | (go_at_call 14; refine (another_any _).mono ?_; rintro x10a w10a ⟨BA10, rfl, hra, hb⟩; have RA10 := hide hra; have B10a := hide hb; clear hra hb) | (go_at_call 32; refine (PartOf_A (unhide RA10)).mono ?_; rintro x10 w10 ⟨ga10, k10, rfl, ha, hb⟩; have A10 := hide ha; have B10 := hide (bl_t (unhide B10a) hb); have K10 := hide ((unhide K9).later (bl_t (unhide B10a) hb)); clear ha hb))
  go_upto_region 12 with (go_at_call 32; refine (unhide cQ1 _ _ _ (unhide K10).tx.tw.rr).mono ?_; rintro x11 w11 ⟨ga11, k11, rfl, ha, hb⟩; have A11 := hide ha; have B11 := hide hb; have K11 := hide ((unhide K10).later hb); clear ha hb)
  go_upto_region 13 with (go_at_call 33; refine (unhide cR1 _ (unhide K11).bel).mono ?_; rintro x12 w12 ⟨ga12, gc12, rfl, ha, hb⟩; have A12 := hide ha; have B12 := hide hb; have K12 := hide ((unhide K11).later hb); clear ha hb)
  go_upto_region 14 with (go_at_call 27; refine (unhide cQ2 _ _ _ (unhide K12).tx.tw.rr).mono ?_; rintro x13 w13 ⟨ga13, rfl, ha, hb⟩; have A13 := hide ha; have B13 := hide hb; have K13 := hide ((unhide K12).later hb); clear ha hb)
  go_upto_region 15 with (go_at_call 27; refine (unhide cQ2 _ _ _ (unhide K13).tx.tw.rr).mono ?_; rintro x14 w14 ⟨ga14, rfl, ha, hb⟩; have A14 := hide ha; have B14 := hide hb; have K14 := hide ((unhide K13).later hb); clear ha hb)
  go_upto_region 16 with (first | (go_at_call 14; refine (another_any _).mono ?_; rintro x15a w15a ⟨BA15, rfl, hra, hb⟩; have RA15 := hide hra; have B15a := hide hb; clear hra hb) | (go_at_call 27; refine (Condense_A (unhide RA15)).mono ?_; rintro x15 w15 ⟨ga15, rfl, ha, hb⟩; have A15 := hide ha; have B15 := hide (bl_t (unhide B15a) hb); have K15 := hide ((unhide K14).later (bl_t (unhide B15a) hb)); clear ha hb))
  go_upto_region 17 with (go_at_call 27; refine (unhide cQ2 _ _ _ (unhide K15).tx.tw.rr).mono ?_; rintro x16 w16 ⟨ga16, rfl, ha, hb⟩; have A16 := hide ha; have B16 := hide hb; have K16 := hide ((unhide K15).later hb); clear ha hb)
  go_upto_region 18 with (go_at_call 34; refine (unhide cR2 _ (unhide K16).bel).mono ?_; rintro x17 w17 ⟨ga17, gc17, rfl, ha, hb⟩; have A17 := hide ha; have B17 := hide hb; have K17 := hide ((unhide K16).later hb); clear ha hb)
  have X := hide (show PX n m ls ks V w2.heap.size w3.heap.size w4.heap.size w5.heap.size w6.heap.size w7.heap.size w8.heap.size w9.heap.size w10.heap.size w11.heap.size w12.heap.size w13.heap.size w14.heap.size w15.heap.size w16.heap.size w17.heap.size ga3 ga4 ga5 ga6 ga7 ga8 ga9 ga10 ga11 ga12 ga13 ga14 ga15 ga16 ga17 k8 k9 k10 k11 w17 from by
    have b17 := unhide B17
    have b16 := bl_t (unhide B16) b17
    have b15 := bl_t (unhide B15) b16
    have b14 := bl_t (unhide B14) b15
    have b13 := bl_t (unhide B13) b14
    have b12 := bl_t (unhide B12) b13
    have b11 := bl_t (unhide B11) b12
    have b10 := bl_t (unhide B10) b11
    have b9 := bl_t (unhide B9) b10
    have b8 := bl_t (unhide B8) b9
    have b7 := bl_t (unhide B7) b8
    have b6 := bl_t (unhide B6) b7
    have b5 := bl_t (unhide B5) b6
    have b4 := bl_t (unhide B4) b5
    exact ⟨(unhide A3).later b4, (unhide A4).later b5, ((unhide A5).low (unhide B5a).size).later b6, (unhide A6).later b7, (unhide A7).later b8, (unhide A8).later b9, (unhide A9).later b10, ((unhide A10).lowr (unhide B10a).size).later b11, (unhide A11).later b12, (unhide A12).later b13, (unhide A13).later b14, (unhide A14).later b15, ((unhide A15).low (unhide B15a).size).later b16, (unhide A16).later b17, (unhide A17), (unhide B3).size, (unhide B4).size, (unhide B5).size, (unhide B6).size, (unhide B7).size, (unhide B8).size, (unhide B9).size, (unhide B10).size, (unhide B11).size, (unhide B12).size, (unhide B13).size, (unhide B14).size, (unhide B15).size, (unhide B16).size, (unhide B17).size⟩)
  clear A3 B3 A4 B4 A5 B5 A6 B6 A7 B7 A8 B8 A9 B9 A10 B10 A11 B11 A12 B12 A13 B13 A14 B14 A15 B15 A16 B16 A17 B17 K2 K3 K4 K5 K6 K7 K8 K9 K10 K11 K12 K13 K14 K15 K16 RA5 B5a RA10 B10a RA15 B15a cQ0 cQ1 cQ2 cR0 cR1 cR2
  generalize w2.heap.size = s2 at *
  generalize w3.heap.size = s3 at *
  generalize w4.heap.size = s4 at *
  generalize w5.heap.size = s5 at *
  generalize w6.heap.size = s6 at *
  generalize w7.heap.size = s7 at *
  generalize w8.heap.size = s8 at *
  generalize w9.heap.size = s9 at *
  generalize w10.heap.size = s10 at *
  generalize w11.heap.size = s11 at *
  generalize w12.heap.size = s12 at *
  generalize w13.heap.size = s13 at *
  generalize w14.heap.size = s14 at *
  generalize w15.heap.size = s15 at *
  generalize w16.heap.size = s16 at *
  generalize hsl : w17.heap.size = s17 at X
  have HSL := hide (Nat.le_of_eq hsl.symm)
  clear hsl
  have er : (eP != eP) = false := by simp
  have HOR := hide (unhide X).o
  have G1 := hide trivial
  have G2 := hide trivial
  have G3 := hide trivial
  go_upto_region 20 with (first | (go_at_call 35; have _u := G1; clear _u G1; refine (lists_any n (lnL ls) (LL ls) ga3 ga7 n gc7 _ (by omega) (le_big hN (unhide HL1) _) (unhide X).f3.rr (unhide X).f7.rr).mono ?_; rintro y18 w18 ⟨rfl, hb⟩; have E18 := hide hb; clear hb) | (go_at_call 20; have _u := G2; clear _u G2; refine (numbers_any m V ga8 ga12 m gc12 _ (by omega) (Ri.later (unhide X).f8.ri (unhide E18)) ((unhide X).f12.rv.later (unhide E18))).mono ?_; rintro y19 w19 ⟨rfl, hb⟩; have E19 := hide (bl_t (unhide E18) hb); clear hb) | (go_at_call 35; have _u := G3; clear _u G3; refine (lists_any n (lnL ks) (LL ks) ga13 ga17 n gc17 _ (by omega) (le_big hN (unhide HL3) _) ((unhide X).f13.rr.later (unhide E19)) ((unhide X).f17.rr.later (unhide E19))).mono ?_; rintro y20 w20 ⟨rfl, hb⟩; have E20 := hide (bl_t (unhide E19) hb); clear hb) | (go_at_call 21; refine (unhide cUn _ _ _ _ _ _ _ ((unhide K17).later (unhide E20)).tx.tw ((unhide K17).later (unhide E20)).hd.rv ((unhide K17).later (unhide E20)).cl).mono ?_; rintro y21 w21 ⟨rfl, hb⟩; have E21 := hide (bl_t (unhide E20) hb); clear hb) | (go_at_call 19; refine (num_any _ _).mono ?_; rintro yn w999 ⟨rfl, hw⟩; rw [hw]; clear hw w999))
  have G4 := hide trivial
  have G5 := hide trivial
  have G6 := hide trivial
  have G7 := hide trivial
  have G8 := hide trivial
  have G9 := hide trivial
  go_upto_region 22 with (first | (go_at_call 35; have _u := G4; clear _u G4; refine (lists_any n (lnL ls) (LL ls) ga4 ga7 n gc7 _ (by omega) (le_big hN (unhide HL1) _) ((unhide X).f4.rr.later (unhide E21)) ((unhide X).f7.rr.later (unhide E21))).mono ?_; rintro y22 w22 ⟨rfl, hb⟩; have E22 := hide (bl_t (unhide E21) hb); clear hb) | (go_at_call 35; have _u := G5; clear _u G5; refine (lists_any n (lnL ls) (LL ls) ga6 ga7 n gc7 _ (by omega) (le_big hN (unhide HL1) _) ((unhide X).f6.rr.later (unhide E22)) ((unhide X).f7.rr.later (unhide E22))).mono ?_; rintro y23 w23 ⟨rfl, hb⟩; have E23 := hide (bl_t (unhide E22) hb); clear hb) | (go_at_call 20; have _u := G6; clear _u G6; refine (numbers_any m V ga9 ga12 m gc12 _ (by omega) (Ri.later (unhide X).f9.ri (unhide E23)) ((unhide X).f12.rv.later (unhide E23))).mono ?_; rintro y24 w24 ⟨rfl, hb⟩; have E24 := hide (bl_t (unhide E23) hb); clear hb) | (go_at_call 20; have _u := G7; clear _u G7; refine (numbers_any m V ga11 ga12 m gc12 _ (by omega) (Ri.later (unhide X).f11.ri (unhide E24)) ((unhide X).f12.rv.later (unhide E24))).mono ?_; rintro y25 w25 ⟨rfl, hb⟩; have E25 := hide (bl_t (unhide E24) hb); clear hb) | (go_at_call 35; have _u := G8; clear _u G8; refine (lists_any n (lnL ks) (LL ks) ga14 ga17 n gc17 _ (by omega) (le_big hN (unhide HL3) _) ((unhide X).f14.rr.later (unhide E25)) ((unhide X).f17.rr.later (unhide E25))).mono ?_; rintro y26 w26 ⟨rfl, hb⟩; have E26 := hide (bl_t (unhide E25) hb); clear hb) | (go_at_call 35; have _u := G9; clear _u G9; refine (lists_any n (lnL ks) (LL ks) ga16 ga17 n gc17 _ (by omega) (le_big hN (unhide HL3) _) ((unhide X).f16.rr.later (unhide E26)) ((unhide X).f17.rr.later (unhide E26))).mono ?_; rintro y27 w27 ⟨rfl, hb⟩; have E27 := hide (bl_t (unhide E26) hb); clear hb))
  have G10 := hide trivial
  have G11 := hide trivial
  have G12 := hide trivial
  go_upto_region 24 with (first | (go_at_call 35; have _u := G10; clear _u G10; refine (lists_any 2 (lnL oL) (LL oL) ga5 (some ⟨w27.heap.size + 1 + 1, 0, none⟩) 2 2 _ (by omega) (le_big (Nat.le_refl _) (fun k => Nat.le_trans (oL_len k) (by omega)) _) ((unhide X).f5.rr.later (bl_t (unhide E27) (bl3 w27 _ _ _))) (lit_o w27)).mono ?_; rintro y28 w28 ⟨rfl, hb⟩; have E28 := hide (bl_t (bl_t (unhide E27) (bl3 w27 _ _ _)) hb); clear hb) | (go_at_call 20; have _u := G11; clear _u G11; refine (numbers_any 3 pV ga10 (some ⟨w28.heap.size, 0, none⟩) 3 3 _ (by omega) (Ri.later (unhide X).f10.ri (bl_t (unhide E28) (al w28 _))) (lit_p w28)).mono ?_; rintro y29 w29 ⟨rfl, hb⟩; have E29 := hide (bl_t (bl_t (unhide E28) (al w28 _)) hb); clear hb) | (go_at_call 35; have _u := G12; clear _u G12; refine (lists_any 2 (lnL qL) (LL qL) ga15 (some ⟨w29.heap.size + 1 + 1, 0, none⟩) 2 2 _ (by omega) (le_big (Nat.le_refl _) (fun k => Nat.le_trans (qL_len k) (by omega)) _) ((unhide X).f15.rr.later (bl_t (unhide E29) (bl3 w29 _ _ _))) (lit_q w29)).mono ?_; rintro y30 w30 ⟨rfl, hb⟩; have E30 := hide (bl_t (bl_t (unhide E29) (bl3 w29 _ _ _)) hb); clear hb))
  have Y := hide ((unhide X).later (unhide E30))
  have KY := hide ((unhide K17).later (unhide E30))
  have HSY := hide (Nat.le_trans (unhide HSL) (unhide E30).size)
  have BL0 := hide (unhide KY).bel
  have HW2 := hide (show w.heap.size ≤ s2 from by have h1 := (unhide KY).tx.tw.ge; have h2 := (unhide KY).tx.bk; have h3 := (unhide KY).o; omega)
  clear X K17 HSL E18 E19 E20 E21 E22 E23 E24 E25 E26 E27 E28 E29 E30
  have W0 := hide (show w.heap.size ≤ s2 from by have := unhide HOR; have := unhide HW2; omega)
  have Z0 := hide (show ∀ W : World, s17 ≤ W.heap.size → s2 ≤ W.heap.size from fun W h => by have := unhide HOR; omega)
  have D6 := hide (show ∀ b, s5 ≤ b → b < s6 → ¬ (s2 ≤ b ∧ b < s3) from fun b h1 h2 e => by have := unhide HOR; omega)
  have W1 := hide (show w.heap.size ≤ s5 from by have := unhide HOR; have := unhide HW2; omega)
  have Z1 := hide (show ∀ W : World, s17 ≤ W.heap.size → s5 ≤ W.heap.size from fun W h => by have := unhide HOR; omega)
  have D13 := hide (show ∀ b, s12 ≤ b → b < s13 → ¬ ((s2 ≤ b ∧ b < s3) ∨ (s5 ≤ b ∧ b < s6)) from fun b h1 h2 e => by have := unhide HOR; omega)
  have W2 := hide (show w.heap.size ≤ s12 from by have := unhide HOR; have := unhide HW2; omega)
  have Z2 := hide (show ∀ W : World, s17 ≤ W.heap.size → s12 ≤ W.heap.size from fun W h => by have := unhide HOR; omega)
  have D16 := hide (show ∀ b, s15 ≤ b → b < s16 → ¬ (((s2 ≤ b ∧ b < s3) ∨ (s5 ≤ b ∧ b < s6)) ∨ (s12 ≤ b ∧ b < s13)) from fun b h1 h2 e => by have := unhide HOR; omega)
  have W3 := hide (show w.heap.size ≤ s15 from by have := unhide HOR; have := unhide HW2; omega)
  have Z3 := hide (show ∀ W : World, s17 ≤ W.heap.size → s15 ≤ W.heap.size from fun W h => by have := unhide HOR; omega)
  have D8 := hide (show ∀ b, s7 ≤ b → b < s8 → ¬ ((((s2 ≤ b ∧ b < s3) ∨ (s5 ≤ b ∧ b < s6)) ∨ (s12 ≤ b ∧ b < s13)) ∨ (s15 ≤ b ∧ b < s16)) from fun b h1 h2 e => by have := unhide HOR; omega)
  have D11 := hide (show ∀ b, s10 ≤ b → b < s11 → ¬ ((((s2 ≤ b ∧ b < s3) ∨ (s5 ≤ b ∧ b < s6)) ∨ (s12 ≤ b ∧ b < s13)) ∨ (s15 ≤ b ∧ b < s16)) from fun b h1 h2 e => by have := unhide HOR; omega)
  have D10 := hide (show ∀ b, s9 ≤ b → b < s10 → ¬ ((((s2 ≤ b ∧ b < s3) ∨ (s5 ≤ b ∧ b < s6)) ∨ (s12 ≤ b ∧ b < s13)) ∨ (s15 ≤ b ∧ b < s16)) from fun b h1 h2 e => by have := unhide HOR; omega)
  have W4 := hide (show w.heap.size ≤ s7 from by have := unhide HOR; have := unhide HW2; omega)
  have Z4 := hide (show ∀ W : World, s17 ≤ W.heap.size → s7 ≤ W.heap.size from fun W h => by have := unhide HOR; omega)
  have D5 := hide (show ∀ b, s4 ≤ b → b < s5 → ¬ (((((s2 ≤ b ∧ b < s3) ∨ (s5 ≤ b ∧ b < s6)) ∨ (s12 ≤ b ∧ b < s13)) ∨ (s15 ≤ b ∧ b < s16)) ∨ ((s7 ≤ b ∧ b < s8) ∨ (s9 ≤ b ∧ b < s11))) from fun b h1 h2 e => by have := unhide HOR; omega)
  have W5 := hide (show w.heap.size ≤ s4 from by have := unhide HOR; have := unhide HW2; omega)
  have Z5 := hide (show ∀ W : World, s17 ≤ W.heap.size → s4 ≤ W.heap.size from fun W h => by have := unhide HOR; omega)
  have D15 := hide (show ∀ b, s14 ≤ b → b < s15 → ¬ ((((((s2 ≤ b ∧ b < s3) ∨ (s5 ≤ b ∧ b < s6)) ∨ (s12 ≤ b ∧ b < s13)) ∨ (s15 ≤ b ∧ b < s16)) ∨ ((s7 ≤ b ∧ b < s8) ∨ (s9 ≤ b ∧ b < s11))) ∨ (s4 ≤ b ∧ b < s5)) from fun b h1 h2 e => by have := unhide HOR; omega)
  have W6 := hide (show w.heap.size ≤ s14 from by have := unhide HOR; have := unhide HW2; omega)
  have Z6 := hide (show ∀ W : World, s17 ≤ W.heap.size → s14 ≤ W.heap.size from fun W h => by have := unhide HOR; omega)
  have G13 := hide trivial
  have G14 := hide trivial
  have G15 := hide trivial
  have G16 := hide trivial
  have G17 := hide trivial
  have G18 := hide trivial
  have G19 := hide trivial
  go_upto_region 26 with (first | (go_at_call 23; have _u := G13; clear _u G13; refine (AnL.apart (unhide Y).f3 (by omega) (le_mid hN (unhide HL1) _) (unhide Z0 _ (unhide HSY))).mono ?_; rintro y31 w31 ⟨rfl, hfx, hbb⟩; have FC1 := hide hfx; have BL1 := hide ((unhide BL0).trans (hbb.mono (unhide W0))); clear hfx hbb) | (go_at_call 23; have _u := G14; clear _u G14; refine (AnL.apart ((unhide Y).f6.fx (unhide FC1) (unhide D6)) (by omega) (le_mid hN (unhide HL1) _) (unhide Z1 _ (Nat.le_trans (unhide HSY) (unhide FC1).size))).mono ?_; rintro y32 w32 ⟨rfl, hfx, hbb⟩; have FC2 := hide (Fx.or (unhide FC1) hfx); have BL2 := hide ((unhide BL1).trans (hbb.mono (unhide W1))); clear hfx hbb) | (go_at_call 23; have _u := G15; clear _u G15; refine (AnL.apart ((unhide Y).f13.fx (unhide FC2) (unhide D13)) (by omega) (le_mid hN (unhide HL3) _) (unhide Z2 _ (Nat.le_trans (unhide HSY) (unhide FC2).size))).mono ?_; rintro y33 w33 ⟨rfl, hfx, hbb⟩; have FC3 := hide (Fx.or (unhide FC2) hfx); have BL3 := hide ((unhide BL2).trans (hbb.mono (unhide W2))); clear hfx hbb) | (go_at_call 23; have _u := G16; clear _u G16; refine (AnL.apart ((unhide Y).f16.fx (unhide FC3) (unhide D16)) (by omega) (le_mid hN (unhide HL3) _) (unhide Z3 _ (Nat.le_trans (unhide HSY) (unhide FC3).size))).mono ?_; rintro y34 w34 ⟨rfl, hfx, hbb⟩; have FC4 := hide (Fx.or (unhide FC3) hfx); have BL4 := hide ((unhide BL3).trans (hbb.mono (unhide W3))); clear hfx hbb) | (go_at_call 23; have _u := G17; clear _u G17; refine (apart3r ((unhide Y).f8.fx (unhide FC4) (unhide D8)) ((unhide Y).f11.fx (unhide FC4) (unhide D11)) ((unhide Y).f10.fx (unhide FC4) (unhide D10)) (by have := unhide HOR; omega) (unhide Z4 _ (Nat.le_trans (unhide HSY) (unhide FC4).size)) (by omega) (by omega)).mono ?_; rintro y35 w35 ⟨rfl, hfx, hbb⟩; have FC5 := hide (Fx.or (unhide FC4) hfx); have BL5 := hide ((unhide BL4).trans (hbb.mono (unhide W4))); clear hfx hbb) | (go_at_call 23; have _u := G18; clear _u G18; refine (AnL.apart ((unhide Y).f5.fx (unhide FC5) (unhide D5)) (by omega) (le_mid (Nat.le_refl _) (fun k => Nat.le_trans (oL_len k) (by omega)) _) (unhide Z5 _ (Nat.le_trans (unhide HSY) (unhide FC5).size))).mono ?_; rintro y36 w36 ⟨rfl, hfx, hbb⟩; have FC6 := hide (Fx.or (unhide FC5) hfx); have BL6 := hide ((unhide BL5).trans (hbb.mono (unhide W5))); clear hfx hbb) | (go_at_call 23; have _u := G19; clear _u G19; refine (AnL.apart ((unhide Y).f15.fx (unhide FC6) (unhide D15)) (by omega) (le_mid (Nat.le_refl _) (fun k => Nat.le_trans (qL_len k) (by omega)) _) (unhide Z6 _ (Nat.le_trans (unhide HSY) (unhide FC6).size))).mono ?_; rintro y37 w37 ⟨rfl, hfx, hbb⟩; have FC7 := hide (Fx.or (unhide FC6) hfx); have BL7 := hide ((unhide BL6).trans (hbb.mono (unhide W6))); clear hfx hbb))
  have S4 := hide ((unhide Y).f4.fx (unhide FC7) (fun b h1 h2 e => by have := unhide HOR; omega))
  have S7 := hide ((unhide Y).f7.fx (unhide FC7) (fun b h1 h2 e => by have := unhide HOR; omega))
  have S9 := hide ((unhide Y).f9.fx (unhide FC7) (fun b h1 h2 e => by have := unhide HOR; omega))
  have S12 := hide ((unhide Y).f12.fx (unhide FC7) (fun b h1 h2 e => by have := unhide HOR; omega))
  have S14 := hide ((unhide Y).f14.fx (unhide FC7) (fun b h1 h2 e => by have := unhide HOR; omega))
  have S17 := hide ((unhide Y).f17.fx (unhide FC7) (fun b h1 h2 e => by have := unhide HOR; omega))
  have KZ := hide ((unhide KY).fx (unhide FC7) (fun b e => by have := unhide HOR; omega) (unhide BL7) (unhide HR))
  clear Y KY HSY FC1 FC2 FC3 FC4 FC5 FC6 FC7 BL0 BL1 BL2 BL3 BL4 BL5 BL6 BL7 W0 Z0 W1 Z1 W2 Z2 W3 Z3 W4 Z4 W5 Z5 W6 Z6 D6 D13 D16 D8 D11 D10 D5 D15
  have G20 := hide trivial
  have G21 := hide trivial
  have G22 := hide trivial
  go_upto_region 28 with (first | (go_at_call 35; have _u := G20; clear _u G20; refine (lists_any n (lnL ls) (LL ls) ga4 ga7 n gc7 _ (by omega) (le_big hN (unhide HL1) _) (unhide S4).rr (unhide S7).rr).mono ?_; rintro y38 w38 ⟨rfl, hb⟩; have E38 := hide hb; clear hb) | (go_at_call 20; have _u := G21; clear _u G21; refine (numbers_any m V ga9 ga12 m gc12 _ (by omega) (Ri.later (unhide S9).ri (unhide E38)) ((unhide S12).rv.later (unhide E38))).mono ?_; rintro y39 w39 ⟨rfl, hb⟩; have E39 := hide (bl_t (unhide E38) hb); clear hb) | (go_at_call 35; have _u := G22; clear _u G22; refine (lists_any n (lnL ks) (LL ks) ga14 ga17 n gc17 _ (by omega) (le_big hN (unhide HL3) _) ((unhide S14).rr.later (unhide E39)) ((unhide S17).rr.later (unhide E39))).mono ?_; rintro y40 w40 ⟨rfl, hb⟩; have E40 := hide (bl_t (unhide E39) hb); clear hb) | (go_at_call 21; refine (unhide cUn _ _ _ _ _ _ _ ((unhide KZ).later (unhide E40)).tx.tw ((unhide KZ).later (unhide E40)).hd.rv ((unhide KZ).later (unhide E40)).cl).mono ?_; rintro y41 w41 ⟨rfl, hb⟩; have E41 := hide (bl_t (unhide E40) hb); clear hb))
  have KT := hide ((unhide KZ).later (unhide E41))
  clear KZ S4 S7 S9 S12 S14 S17 HOR HW2 HL1 HL3 er cUn E38 E39 E40 E41
  have cTu := hide (lturned_any w.heap.size B N cB ln g cp L w41 (by omega) (fun k hk => by have := unhide HLN k hk; omega) (unhide KT).tx.tw.wr)
  go_upto_region 29 with (go_at_call 24; refine (unhide cTu).mono ?_; rintro yt w50 ⟨rfl, hwr, hbb, hot⟩; have HWR := hide hwr; have B50 := hide ((unhide KT).bel.trans hbb); clear hwr hbb hot)
  clear cTu KT
  obtain ⟨L2, hL2⟩ : ∃ L2 : Nat → Nat → Int, L2 = fun a b => tn N (L a b) := ⟨_, rfl⟩
  rw [← hL2] at HWR
  clear hL2
  have cT2 := hide (fun (W : World) (h : Rr W (some ⟨B, 0, none⟩) N ln L2) => twin_any N ln L2 _ cB W (by omega) (fun k hk => by have := unhide HLN k hk; omega) h)
  have cQ0 := hide (fun (W : World) (ga : Option Addr) (gc : Nat) (h1 : Rr W ga N ln L2) => Parts_L (nc := gc) hN (unhide HLN) h1)
  have cR0 := hide (fun (W : World) (ga : Option Addr) (gc : Nat) (h1 : Rr W ga N ln L2) => rParts_any (nc := gc) hN (unhide HLN) h1)
  have cQ1 := hide (fun (W : World) (ga : Option Addr) (gc : Nat) (h1 : Rr W ga N ln L2) => PartOf_L (nc := gc) hN (unhide HLN) h1)
  have cR1 := hide (fun (W : World) (ga : Option Addr) (gc : Nat) (h1 : Rr W ga N ln L2) => rPartOf_any (nc := gc) hN (unhide HLN) h1)
  have cQ2 := hide (fun (W : World) (ga : Option Addr) (gc : Nat) (h1 : Rr W ga N ln L2) => Condense_L (nc := gc) hN (unhide HLN) h1)
  have cR2 := hide (fun (W : World) (ga : Option Addr) (gc : Nat) (h1 : Rr W ga N ln L2) => rCondense_any (nc := gc) hN (unhide HLN) h1)
  have hnn2 := ptN_le N ln L2
  have hmm2 := poN_le N ln L2
  have HM1 := hide (ptL_len (pn N ln L2) N)
  have HM3 := hide (cdL_len N ln L2)
  generalize hg1 : ptN N ln L2 = n2 at *
  generalize hg2 : ptE N ln L2 = e2 at *
  generalize hg3 : poN N ln L2 = m2 at *
  generalize hg4 : ptL (pn N ln L2) N = ls2 at *
  generalize hg5 : cdL N ln L2 = ks2 at *
  generalize hg6 : (fun j => (pn N ln L2 j : Int)) = V2 at *
  clear hg1 hg2 hg3 hg4 hg5 hg6
  go_upto_region 30 with (go_at_call 10; refine (unhide cT2 _ (unhide HWR).rr).mono ?_; rintro yu w51 ⟨B2, cB2, gg2, cp2, rfl, htw, hb⟩; have HT2 := hide htw; have E51 := hide hb; clear htw hb)
  have B51 := hide (unhide E51)
  go_upto_region 31 with (go_at_call 30; refine (unhide cQ0 _ _ _ ((unhide HWR).rr.later (unhide B51))).mono ?_; rintro y52 w52 ⟨la52, rfl, ha, hb⟩; have A52 := hide ha; have E52 := hide hb; have B52 := hide (bl_t (unhide B51) hb); clear ha hb)
  go_upto_region 32 with (go_at_call 27; refine (unhide cQ2 _ _ _ ((unhide HWR).rr.later (unhide B52))).mono ?_; rintro y53 w53 ⟨la53, rfl, ha, hb⟩; have A53 := hide ha; have E53 := hide hb; have B53 := hide (bl_t (unhide B52) hb); clear ha hb)
  go_upto_region 33 with (go_at_call 32; refine (unhide cQ1 _ _ _ ((unhide HWR).rr.later (unhide B53))).mono ?_; rintro y54 w54 ⟨la54, lk54, rfl, ha, hb⟩; have A54 := hide ha; have E54 := hide hb; have B54 := hide (bl_t (unhide B53) hb); clear ha hb)
  have C54 := hide (bl_t (bl_t (unhide E52) (unhide E53)) (unhide E54))
  go_upto_region 34 with (go_at_call 31; refine (unhide cR0 _ _ _ ((unhide HT2).rr.later (unhide C54))).mono ?_; rintro y55 w55 ⟨la55, lc55, rfl, ha, hb⟩; have A55 := hide ha; have E55 := hide hb; have C55 := hide (bl_t (unhide C54) hb); clear ha hb)
  go_upto_region 35 with (go_at_call 34; refine (unhide cR2 _ _ _ ((unhide HT2).rr.later (unhide C55))).mono ?_; rintro y56 w56 ⟨la56, lc56, rfl, ha, hb⟩; have A56 := hide ha; have E56 := hide hb; have C56 := hide (bl_t (unhide C55) hb); clear ha hb)
  go_upto_region 36 with (go_at_call 33; refine (unhide cR1 _ _ _ ((unhide HT2).rr.later (unhide C56))).mono ?_; rintro y57 w57 ⟨la57, lc57, rfl, ha, hb⟩; have A57 := hide ha; have E57 := hide hb; have C57 := hide (bl_t (unhide C56) hb); clear ha hb)
  have M52 := hide ((unhide A52).rr.later (bl_t (bl_t (bl_t (bl_t (unhide E53) (unhide E54)) (unhide E55)) (unhide E56)) (unhide E57)))
  have M55 := hide ((unhide A55).rr.later (bl_t (unhide E56) (unhide E57)))
  have M53 := hide ((unhide A53).rr.later (bl_t (bl_t (bl_t (unhide E54) (unhide E55)) (unhide E56)) (unhide E57)))
  have M56 := hide ((unhide A56).rr.later (unhide E57))
  have M54 := hide (Ri.later (unhide A54).ri (bl_t (bl_t (unhide E55) (unhide E56)) (unhide E57)))
  have M57 := hide (unhide A57).rv
  have B57 := hide (bl_t (unhide B50) (bl_t (unhide E51) (unhide C57)))
  clear A52 A53 A54 A55 A56 A57 E51 E52 E53 E54 E55 E56 E57 C54 C55 C56 C57 B50 B51 B52 B53 B54 HWR HT2
  have f2 : (e2 == e2) = true := by simp
  have G23 := hide trivial
  have G24 := hide trivial
  have G25 := hide trivial
  go_wp2_with (first | (go_at_call 35; have _u := G23; clear _u G23; refine (lists_any n2 (lnL ls2) (LL ls2) la52 la55 n2 lc55 _ (by omega) (le_big hN (unhide HM1) _) (unhide M52) (unhide M55)).mono ?_; rintro yy52 ww52 ⟨rfl, hb⟩; have F52 := hide hb; clear hb) | (go_at_call 35; have _u := G24; clear _u G24; refine (lists_any n2 (lnL ks2) (LL ks2) la53 la56 n2 lc56 _ (by omega) (le_big hN (unhide HM3) _) ((unhide M53).later (unhide F52)) ((unhide M56).later (unhide F52))).mono ?_; rintro yy53 ww53 ⟨rfl, hb⟩; have F53 := hide (bl_t (unhide F52) hb); clear hb) | (go_at_call 20; have _u := G25; clear _u G25; refine (numbers_any m2 V2 la54 la57 m2 lc57 _ (by omega) (Ri.later (unhide M54) (unhide F53)) ((unhide M57).later (unhide F53))).mono ?_; rintro yy54 ww54 ⟨rfl, hb⟩; have F54 := hide (bl_t (unhide F53) hb); clear hb) | (go_at_call 19; refine (num_any _ _).mono ?_; rintro yn w999 ⟨rfl, hw⟩; rw [hw]; clear hw w999))
  go_ret
  exact ⟨rfl, bl_t (unhide B57) (unhide F54)⟩
end Go.Proofs.Ytjflnpcpnoccjaa
