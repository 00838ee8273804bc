import Derived.Test.YtocjcbdkihbbiaaDoorLnM
namespace Go.Proofs.YtocjcbdkihbbiaaDoor
open Go.RowKit

theorem Parse_s (t : Bs) (pa : Option Addr) (c : Nat) (w : World) (ht : t.length ≤ 140737488351232) (hG : Glob w) (hR : Rb w pa t) :
    Calls Tryd.prog 11 #[.slice pa t.length c] w fun e w' => ∃ va vc vs, e = .returned (.tuple #[.slice va (outP t).length vc, .int .i64 (pOut t).1, .int .i64 (pOut t).2]) ∧ Below w.heap.size w w' ∧ PD w.heap.size w'.heap.size w' (.slice va (outP t).length vc) (outP t) vs := by
  refine (Parse_o t pa c w ht hG hR).mono ?_
  rintro e w' ⟨v, vs, rfl, hb, hp⟩
  obtain ⟨a, c, rfl⟩ := hp.rd.shape
  exact ⟨a, c, vs, rfl, hb, hp⟩
theorem turned_rb {W : World} {g qc L lo : Nat} {gt : Bs} (hg : gt.length = L + 70) (h : W.ownsRow lo 5 1 (.slice (some ⟨g, 0, none⟩) (L + 70) qc) (L + 70) (encB gt)) : Rb W (some ⟨g, 0, none⟩) (gt.take L) := by
  have h1 := (Rb.of_owns (t := gt) (by rw [hg]; exact h)).2
  intro h0
  obtain ⟨b, o, e, hc⟩ := h1 (by omega)
  refine ⟨b, o, e, fun i hi => ?_⟩
  have h2 : i < gt.length := by rw [List.length_take] at hi; omega
  have := hc i h2
  rw [this, List.getElem_take]
theorem turn_one {W : World} {g qc L lo : Nat} {gt : Bs} (hg : gt.length = L + 70) (h : W.ownsRow lo 5 1 (.slice (some ⟨g, 0, none⟩) (L + 70) qc) (L + 70) (encB gt)) (i j : Nat) (hi : i < L) (hj : j < L) :
    ∃ x y : Nat, W.cell? ⟨g, i, none⟩ = some (.int .u8 y) ∧ W.frozen? ⟨g, i, none⟩ = false ∧ W.cell? ⟨g, j, none⟩ = some (.int .u8 x) ∧ ∃ gt2 : Bs, gt2.length = L + 70 ∧ (W.setCell ⟨g, i, none⟩ (.int .u8 x)).ownsRow lo 5 1 (.slice (some ⟨g, 0, none⟩) (L + 70) qc) (L + 70) (encB gt2) := by
  obtain ⟨u, u1, u2, u3⟩ := own_place h i (by omega)
  obtain ⟨v, v1, v2, v3⟩ := own_place h j (by omega)
  have hi2 : i < gt.length := by omega
  have hj2 : j < gt.length := by omega
  simp only [encB, List.getElem?_map, List.getElem?_eq_getElem hi2, Option.map_some, Option.some.injEq] at u1
  simp only [encB, List.getElem?_map, List.getElem?_eq_getElem hj2, Option.map_some, Option.some.injEq] at v1
  subst u1 v1
  refine ⟨gt[j].toNat, gt[i].toNat, u2, u3, v2, gt.set i gt[j], by rw [List.length_set]; exact hg, ?_⟩
  obtain ⟨r, _⟩ := h.stored i (.int .u8 (gt[j].toNat : Int))
  rw [show encB (gt.set i gt[j]) = (encB gt).set i (.int .u8 (gt[j].toNat : Int)) by simp [encB, List.map_set]]
  exact r
theorem rb_pre {W : World} {g : Nat} {t : Bs} {k : Nat} (h : Rb W (some ⟨g, 0, none⟩) (pad t k)) : Rb W (some ⟨g, 0, none⟩) t := fun h0 => by
  obtain ⟨b, o, e, hc⟩ := h (by rw [pad_len]; omega)
  refine ⟨b, o, e, fun i hi => ?_⟩
  have := hc i (by rw [pad_len]; omega)
  rw [this]
  have e1 : (pad t k)[i]'(by rw [pad_len]; omega) = t[i] := List.getElem_append_left hi
  rw [e1]

set_option maxRecDepth 100000 in
set_option maxHeartbeats 8000000 in
theorem parses_walk (t : Bs) (pa : Option Addr) (c : Nat) (w : World) (ht : t.length ≤ 140737488351232) (hc : t.length ≤ c) (hG : Glob w) (hR : Rb w pa t) :
    Calls Tryd.prog 9 #[.slice pa t.length c] w fun e w' => e = .returned (.bool true) ∧ Below w.heap.size w w' := by
  have cL := hide (show Calls Tryd.prog 27 #[.slice pa t.length c] w fun e w' => ∃ g qc, e = .returned (.slice (some ⟨g, 0, none⟩) t.length qc) ∧ t.length + 70 ≤ qc ∧ w'.ownsRow w.heap.size 5 1 (.slice (some ⟨g, 0, none⟩) (t.length + 70) qc) (t.length + 70) (encB (pad t 70)) ∧ Below w.heap.size w w' by
    refine (lent_any t pa c w ht hR).mono ?_
    rintro e w' ⟨qa, qc, rfl, ho, hb⟩
    have h1 := cap_le ho (by omega)
    obtain ⟨g, cap, e⟩ := ownsRow_succ ho
    cases e
    exact ⟨g, qc, rfl, h1, ho, hb⟩)
  have cP := hide (fun (W : World) (hb : Below w.heap.size w W) (qa : Option Addr) (qc : Nat) (hq : Rb W qa t) => Parse_s t qa qc W (by omega) (hG.later (n := w.heap.size) hG.big hb) hq)
  have cX := hide (show ∀ (W : World), Below w.heap.size w W → ∀ (qa : Option Addr) (qc : Nat), Rb W qa lit2 → Calls Tryd.prog 11 #[.slice qa 20 qc] W fun e w' => ∃ va vc vs, e = .returned (.tuple #[.slice va (outP lit2).length vc, .int .i64 (pOut lit2).1, .int .i64 (pOut lit2).2]) ∧ Below W.heap.size W w' ∧ PD W.heap.size w'.heap.size w' (.slice va (outP lit2).length vc) (outP lit2) vs from fun W hb qa qc hq => Parse_s lit2 qa qc W (by decide) (hG.later (n := w.heap.size) hG.big hb) hq)
  have cR := hide (fun (W : World) (hb : Below w.heap.size w W) => rParse_o t pa c W hc (hR.later hb))
  have cD := hide (show ∀ (W : World) (qa : Option Addr) (qc : Nat), 20 ≤ qc → Rb W qa lit2 → Calls Tryd.prog 32 #[.slice qa 20 qc] W fun e w' => ∃ v vs, e = .returned (.tuple #[v, .int .i64 (pOut lit2).1, .int .i64 (pOut lit2).2]) ∧ Below W.heap.size W w' ∧ RD W.heap.size w' v (outP lit2) vs from fun W qa qc h1 hq => rParse_o lit2 qa qc W h1 hq)
  have HR := hide hR
  obtain ⟨L, hL⟩ : ∃ L, t.length = L := ⟨_, rfl⟩
  rw [hL] at cL cP cR ⊢
  have HL := hide hL
  have hNA : (outP t).length ≤ 16777216 := (outP_le t).2.1
  have HN2 := hide lit2_two
  obtain ⟨NA, hNa⟩ : ∃ NA, (outP t).length = NA := ⟨_, rfl⟩
  rw [hNa] at cP hNA
  have HNA := hide hNa
  clear hNa
  generalize (pOut lit2).1 = o1 at *
  generalize (pOut lit2).2 = o2 at *
  have HT := hide (show L ≤ 140737488351232 by omega)
  clear hL hR hc ht
  go_enter Tryd.func9, Tryd.ntmps9
  go_upto_region 11 with (first
    | (go_at_call 27; refine (unhide cL).mono ?_; rintro e w1 ⟨g, qc, rfl, hqc, ho, hb⟩; have HQ := hide hqc; have HO := hide ho; have HRP := hide (show Rb w1 (some ⟨g, 0, none⟩) (pad t 70) from (Rb.of_owns (t := pad t 70) (by rw [pad_len, unhide HL]; exact ho)).2); have HB1 := hide hb; clear ho hb hqc)
    | (go_at_call 26; have _u := HK16; clear _u; refine (alike_o t (unhide HK16).z (unhide HK16).c).mono ?_; rintro e w17 ⟨rfl, hb⟩; have HS17 := hide hb; have HK17 := hide ((unhide HK16).later hb); clear hb)
    | (go_at_call 26; have _u := HK15; clear _u; refine (alike_o lit2 (unhide HK15).y (unhide HK15).d).mono ?_; rintro e w16 ⟨rfl, hb⟩; have HS16 := hide hb; have HK16 := hide ((unhide HK15).later hb); clear hb)
    | (go_at_call 26; have _u := HK14; clear _u; refine (alike_o lit2 (unhide HK14).x (unhide HK14).d).mono ?_; rintro e w15 ⟨rfl, hb⟩; have HS15 := hide hb; have HK15 := hide ((unhide HK14).later hb); clear hb)
    | (go_at_call 26; have _u := HK13; clear _u; refine (alike_o t (unhide HK13).b (unhide HK13).c).mono ?_; rintro e w14 ⟨rfl, hb⟩; have HS14 := hide hb; have HK14 := hide ((unhide HK13).later hb); clear hb)
    | (go_at_call 26; have _u := HK; clear _u; refine (alike_o t (unhide HK).a (unhide HK).c).mono ?_; rintro e w12 ⟨rfl, hb⟩; have HS12 := hide hb; have HK12 := hide ((unhide HK).later hb); clear hb)
    | (go_at_call 21; refine (num_any (pOut t).2 w12).mono ?_; rintro e w13 ⟨rfl, hb⟩; have HS13 := hide hb; have HK13 := hide ((unhide HK12).later hb); clear hb)
    | (go_at_call 29; refine (still_L t L (unhide HL) g 0 pa qc c w17 (unhide HT) (unhide HQ) (unhide HK17).g (unhide HK17).t).mono ?_; rintro e w18 ⟨rfl, hb⟩; have HS18 := hide hb; have HK18 := hide ((unhide HK17).later hb); clear hb)
    | (go_at_call 32; have _u := HWd; clear _u; refine (unhide cD w10 oa3 oc3 (unhide HWd).1 (unhide HWd).2).mono ?_; rintro e w11 ⟨vd, vsd, rfl, hb, hp⟩; have k9 := bl_t (unhide HS10) hb; have k8 := bl_t (unhide HS9) k9; have k7 := bl_t (unhide HS8) k8; have k6 := bl_t (unhide HS7) k7; have k5 := bl_t (unhide HS6) k6; have k4 := bl_t (unhide HS5) k5; have k3 := bl_t (unhide HS4) k4; have k2 := bl_t (unhide HS3) k3; have k1 := bl_t (unhide HS2) k2; have k0 := bl_t (unhide HB1) k1; have HK := hide (show Kp t g pa _ _ _ _ _ _ _ _ _ _ _ _ _ _ _ _ _ _ _ _ _ w11 from ⟨(unhide HA).rd.later k2, (unhide HBd).rd.later k3, (unhide HX).rd.later k5, (unhide HY).rd.later k7, (unhide HZ).rd.later k8, (unhide HC).later k9, hp, (unhide HRP).later k1, (unhide HR).later k0⟩); have HS11 := hide hb; clear hb hp k9 k8 k7 k6 k5 k4 k3 k2 k1 k0)
    | (go_at_call 32; refine (unhide cR w8 (unhide HB8)).mono ?_; rintro e w9 ⟨vc, vsc, rfl, hb, hp⟩; have HC := hide hp; have HS9 := hide hb; have HB9 := hide (bl_t (unhide HB8) hb); clear hb hp)
    | (go_at_call 31; have _u := HB9; clear _u; refine (other_any w9).mono ?_; rintro e w10 ⟨oa3, oc3, rfl, h1, h2, hb⟩; have HWd := hide (And.intro h1 h2); have HS10 := hide hb; clear h1 h2 hb)
    | (go_at_call 31; have _u := HB5; clear _u; refine (other_any w5).mono ?_; rintro e w6 ⟨oa2, oc2, rfl, h1, h2, hb⟩; have HWy := hide h2; have HS6 := hide hb; have HB6 := hide (bl_t (unhide HB5) hb); clear h1 h2 hb)
    | (go_at_call 31; refine (other_any w3).mono ?_; rintro e w4 ⟨oa1, oc1, rfl, h1, h2, hb⟩; have HWx := hide h2; have HS4 := hide hb; have HB4 := hide (bl_t (unhide HB3) hb); clear h1 h2 hb)
    | (go_at_call 11; have _u := HB7; clear _u; refine (unhide cP w7 (unhide HB7) (some ⟨g, 0, none⟩) qc ((rb_pre (unhide HRP)).later (bl_t (bl_t (bl_t (bl_t (bl_t (unhide HS2) (unhide HS3)) (unhide HS4)) (unhide HS5)) (unhide HS6)) (unhide HS7)))).mono ?_; rintro e w8 ⟨zza, zzc, vsz, rfl, hb, hp⟩; have HZ := hide hp; have HS8 := hide hb; have HB8 := hide (bl_t (unhide HB7) hb); clear hb hp)
    | (go_at_call 11; have _u := HB6; clear _u; refine (unhide cX w6 (unhide HB6) oa2 oc2 (unhide HWy)).mono ?_; rintro e w7 ⟨yya, yyc, vsy, rfl, hb, hp⟩; have HY := hide hp; have HS7 := hide hb; have HB7 := hide (bl_t (unhide HB6) hb); clear hb hp)
    | (go_at_call 11; have _u := HB4; clear _u; refine (unhide cX w4 (unhide HB4) oa1 oc1 (unhide HWx)).mono ?_; rintro e w5 ⟨xxa, xxc, vsx, rfl, hb, hp⟩; have HX := hide hp; have HS5 := hide hb; have HB5 := hide (bl_t (unhide HB4) hb); clear hb hp)
    | (go_at_call 11; have _u := HB2; clear _u; refine (unhide cP w2 (unhide HB2) (some ⟨g, 0, none⟩) qc ((rb_pre (unhide HRP)).later (unhide HS2))).mono ?_; rintro e w3 ⟨bba, bbc, vsb, rfl, hb, hp⟩; have HBd := hide hp; have HS3 := hide hb; have HB3 := hide (bl_t (unhide HB2) hb); clear hb hp)
    | (go_at_call 11; refine (unhide cP w1 (unhide HB1) (some ⟨g, 0, none⟩) qc (rb_pre (unhide HRP))).mono ?_; rintro e w2 ⟨aaa, aac, vsa, rfl, hb, hp⟩; have HA := hide hp; have HS2 := hide hb; have HB2 := hide (bl_t (unhide HB1) hb); clear hb hp))
  have K17 := unhide HS18
  have K16 := bl_t (unhide HS17) K17
  have K15 := bl_t (unhide HS16) K16
  have K14 := bl_t (unhide HS15) K15
  have K13 := bl_t (unhide HS14) K14
  have K12 := bl_t (unhide HS13) K13
  have K11 := bl_t (unhide HS12) K12
  have K10 := bl_t (unhide HS11) K11
  have K9 := bl_t (unhide HS10) K10
  have K8 := bl_t (unhide HS9) K9
  have K7 := bl_t (unhide HS8) K8
  have K6 := bl_t (unhide HS7) K7
  have K5 := bl_t (unhide HS6) K6
  have K4 := bl_t (unhide HS5) K5
  have K3 := bl_t (unhide HS4) K4
  have K2 := bl_t (unhide HS3) K3
  have K1 := bl_t (unhide HS2) K2
  have K0 := bl_t (unhide HB1) K1
  have z1 := (unhide HB1).size
  have z2 := (unhide HS2).size
  have z3 := (unhide HS3).size
  have z4 := (unhide HS4).size
  have z5 := (unhide HS5).size
  have z6 := (unhide HS6).size
  have z7 := (unhide HS7).size
  have z8 := (unhide HS8).size
  have z9 := (unhide HS9).size
  have z10 := (unhide HS10).size
  have z11 := (unhide HS11).size
  have z12 := (unhide HS12).size
  have z13 := (unhide HS13).size
  have z14 := (unhide HS14).size
  have z15 := (unhide HS15).size
  have z16 := (unhide HS16).size
  have z17 := (unhide HS17).size
  have z18 := (unhide HS18).size
  obtain ⟨v1, W1, v2, W2, gr, cap, W3, r1, r2, r3, hrow, hbr⟩ := all_row 24 24 24 (unhide HK18).a (unhide HK18).x (unhide HK18).z
  have hgb := (ownsRow_blk (unhide HO) (g := g) rfl).choose_spec.2
  have bk : Bk w t w1.heap.size w2.heap.size w3.heap.size w6.heap.size w7.heap.size w8.heap.size w9.heap.size w10.heap.size w11.heap.size (.slice bba NA bbc) (.slice yya (outP lit2).length yyc) vc vd vsb vsy vsc vsd w18 := ⟨K0, (unhide HBd).rd.st K3, (unhide HY).rd.st K7, (unhide HC).st K9, (unhide HK).d.st K11, by omega⟩
  have cS0 : Calls Tryd.prog 30 #[.slice (some ⟨gr, 0, none⟩) (vsa ++ vsx ++ vsz).length cap] W3 fun e W4 => e = .returned (.bool true) ∧ Bk w t w1.heap.size w2.heap.size w3.heap.size w6.heap.size w7.heap.size w8.heap.size w9.heap.size w10.heap.size w11.heap.size (.slice bba NA bbc) (.slice yya (outP lit2).length yyc) vc vd vsb vsy vsc vsd W4 ∧ W4.ownsRow w.heap.size 5 1 (.slice (some ⟨g, 0, none⟩) (L + 70) qc) (L + 70) (encB (pad t 70)) := by
    refine (spoil_all (W := W3) (B := w1.heap.size) ((unhide HA).win.keep fun k _ _ _ _ h _ => (hbr.block k (by omega)).trans (K2.block k h)) ((unhide HX).win.keep fun k _ _ _ _ h _ => (hbr.block k (by omega)).trans (K5.block k h)) ((unhide HZ).win.keep fun k _ _ _ _ h _ => (hbr.block k (by omega)).trans (K8.block k h)) (unhide HA).len (unhide HX).len (unhide HZ).len (by omega) (by omega) (by omega) (by omega) (by omega) (by omega) (by have := hbr.size; omega) (ownsRow_lower hrow (by omega))).mono ?_
    rintro e W4 ⟨rfl, e1, e2, e3⟩
    have hz := hbr.size
    refine ⟨rfl, (bk.later hbr).next e1 e2 fun q hq => e3 q (by omega) (by omega) (by omega) (by omega), ownsRow_same (unhide HO) fun g2 c2 _ hc2 => ?_⟩
    have hg2 := (Array.getElem?_eq_some_iff.1 hc2).1
    exact (e3 g2 (by omega) (by omega) (by omega) (by omega)).trans ((hbr.block g2 (by omega)).trans (K1.block g2 hg2))
  clear bk
  obtain ⟨B, b1, b2, b3, b4, b5, b6⟩ : ∃ B : World → Prop, (∀ W W2, B W → Below W.heap.size W W2 → B W2) ∧ (∀ W i v, B W → B (W.setCell ⟨g, i, none⟩ v)) ∧ (∀ W, B W → Below w.heap.size w W) ∧
      (∀ W, B W → Calls Tryd.prog 26 #[.slice bba NA bbc, vc] W fun e w' => e = .returned (.bool true) ∧ Below W.heap.size W w') ∧
      (∀ W, B W → Calls Tryd.prog 26 #[.slice yya (outP lit2).length yyc, vd] W fun e w' => e = .returned (.bool true) ∧ Below W.heap.size W w') ∧
      Calls Tryd.prog 30 #[.slice (some ⟨gr, 0, none⟩) (vsa ++ vsx ++ vsz).length cap] W3 fun e W4 => e = .returned (.bool true) ∧ B W4 ∧ W4.ownsRow w.heap.size 5 1 (.slice (some ⟨g, 0, none⟩) (L + 70) qc) (L + 70) (encB (pad t 70)) :=
    ⟨_, fun W W2 h hb => Bk.later h hb, fun W i v h => Bk.set h hgb.1 hgb.2 i v, fun W h => Bk.bel h, fun W h => alike_o t (Bk.b h).now (Bk.c h).now, fun W h => alike_o lit2 (Bk.y h).now (Bk.d h).now, cS0⟩
  have cS := hide b6
  have Blat := hide b1
  have Bset := hide b2
  have Bbel := hide b3
  have Bal := hide b4
  have Bal2 := hide b5
  clear cS0 b1 b2 b3 b4 b5 b6
  clear hrow hbr hgb K17 K16 K15 K14 K13 K12 K11 K10 K9 K8 K7 K6 K5 K4 K3 K2 K1 K0 z1 z2 z3 z4 z5 z6 z7 z8 z9 z10 z11 z12 z13 z14 z15 z16 z17 z18
  clear HK HK12 HK13 HK14 HK15 HK16 HK17 HK18 HA HBd HX HY HZ HC HO HRP HB1 HB2 HB3 HB4 HB5 HB6 HB7 HB8 HB9 HS2 HS3 HS4 HS5 HS6 HS7 HS8 HS9 HS10 HS11 HS12 HS13 HS14 HS15 HS16 HS17 HS18 HWx HWy HWd cL cP cX cR cD
  generalize (vsa ++ vsx ++ vsz).length = NN at *
  generalize (outP lit2).length = NX at *
  go_upto_region 13 with (first | ((with_reducible refine wpList_append_run (o := { dst := some 125, op := Op.call { callee := Callee.builtin Builtin.append, args := #[Operand.tmp 123, Operand.tmp 124], argTypes := #[24, 24] }, type := 24, pos := "law.go:250", after := #[{ on := 0, ground := Ground.data }, { on := 1, ground := Ground.data }], guard := none }) ?m1a (.tmp 123) (.tmp 124) 24 ?m1b _ _ ?m1c ?m1d r1 ?m1e); (case m1a => rfl); (case m1b => rfl); (case m1c => rfl); (case m1d => rfl)) | ((with_reducible refine wpList_append_run (o := { dst := some 127, op := Op.call { callee := Callee.builtin Builtin.append, args := #[Operand.tmp 125, Operand.tmp 126], argTypes := #[24, 24] }, type := 24, pos := "law.go:250", after := #[{ on := 2, ground := Ground.data }, { on := 3, ground := Ground.data }, { on := 2, ground := Ground.chain }], guard := none }) ?m2a (.tmp 125) (.tmp 126) 24 ?m2b _ _ ?m2c ?m2d r2 ?m2e); (case m2a => rfl); (case m2b => rfl); (case m2c => rfl); (case m2d => rfl)) | ((with_reducible refine wpList_append_run (o := { dst := some 130, op := Op.call { callee := Callee.builtin Builtin.append, args := #[Operand.tmp 128, Operand.tmp 129], argTypes := #[24, 24] }, type := 24, pos := "law.go:251", after := #[{ on := 0, ground := Ground.data }, { on := 1, ground := Ground.data }], guard := none }) ?m3a (.tmp 128) (.tmp 129) 24 ?m3b _ _ ?m3c ?m3d r3 ?m3e); (case m3a => rfl); (case m3b => rfl); (case m3c => rfl); (case m3d => rfl)))
  clear r1 r2 r3
  have cPu := hide (fun (u : Bs) (hu : u.length = L) (W : World) (hb : Below w.heap.size w W) (qa : Option Addr) (qc : Nat) (hq : Rb W qa u) => (show Calls Tryd.prog 11 #[.slice qa L qc] W fun e w' => ∃ v vs, e = .returned (.tuple #[v, .int .i64 (pOut u).1, .int .i64 (pOut u).2]) ∧ Below W.heap.size W w' ∧ RD W.heap.size w' v (outP u) vs from by
    rw [← hu]
    refine (Parse_o u qa qc W (by rw [hu]; exact unhide HT) (hG.later (n := w.heap.size) hG.big hb) hq).mono ?_
    rintro e w' ⟨v, vs, h1, h2, h3⟩
    exact ⟨v, vs, h1, h2, h3.rd⟩))
  have cRu := hide (fun (u : Bs) (hu : u.length = L) (W : World) (qa : Option Addr) (qc : Nat) (hc : L ≤ qc) (hq : Rb W qa u) => (show Calls Tryd.prog 32 #[.slice qa L qc] W fun e w' => ∃ v vs, e = .returned (.tuple #[v, .int .i64 (pOut u).1, .int .i64 (pOut u).2]) ∧ Below W.heap.size W w' ∧ RD W.heap.size w' v (outP u) vs from by
    have h := rParse_o u qa qc W (by rw [hu]; exact hc) hq
    rw [hu] at h
    exact h))
  have cCu := hide (fun (u : Bs) (hu : u.length = L) (W : World) (qa : Option Addr) (qc : Nat) (hq : Rb W qa u) => (show Calls Tryd.prog 12 #[.slice qa L qc] W fun e w' => ∃ va vc, e = .returned (.slice va L vc) ∧ L ≤ vc ∧ Rb w' va u ∧ Below W.heap.size W w' from by
    have h := copied_wide u qa qc W (by rw [hu]; exact unhide HT) hq
    rw [hu] at h
    refine h.mono ?_
    rintro e w' ⟨va, vc, h1, h2, h3⟩
    refine ⟨va, vc, h1, ?_, (Rb.of_owns (t := u) (by rw [hu]; exact h2)).2, h3⟩
    rcases Nat.eq_zero_or_pos L with h0 | h0
    · omega
    · exact cap_le h2 h0))
  clear hG
  have hLT := unhide HT
  go_wp2_with (first
    | (go_at_call 30; refine (unhide cS).mono ?_; rintro e w20 ⟨rfl, hbk, hgr⟩; have HK20 := hide hbk; have HR20 := hide hgr; clear hbk hgr)
    | (go_at_call 26; have _u := HK21; clear _u; refine (unhide Bal2 w21 (unhide HK21)).mono ?_; rintro e w22 ⟨rfl, hb⟩; have HK22 := hide (unhide Blat _ _ (unhide HK21) hb); have HR22 := hide (ownsRow_below (unhide HR21) hb); clear hb)
    | (go_at_call 26; refine (unhide Bal w20 (unhide HK20)).mono ?_; rintro e w21 ⟨rfl, hb⟩; have HK21 := hide (unhide Blat _ _ (unhide HK20) hb); have HR21 := hide (ownsRow_below (unhide HR20) hb); clear hb)
    | (go_at_call 29; refine (still_L t L (unhide HL) g 0 pa qc c w22 (unhide HT) (unhide HQ) (Rb.of_owns (t := pad t 70) (by rw [pad_len, unhide HL]; exact unhide HR22)).2 ((unhide HR).later (unhide Bbel _ (unhide HK22)))).mono ?_; rintro e w23 ⟨rfl, hb⟩; have HK23 := hide (unhide Blat _ _ (unhide HK22) hb); have HR23 := hide (ownsRow_below (unhide HR22) hb); clear hb))
  have HP0 := hide (show (pad t 70).length = L + 70 by rw [pad_len, unhide HL])
  clear cS HK20 HK21 HK22 HR20 HR21 HR22 Bal2
  generalize pad t 70 = gt0 at *
  go_loopw [26] (fun iv wr => ∃ (k : Nat) (gt : Bs), k ≤ L ∧ iv = .int .i64 k ∧ Hid (gt.length = L + 70) ∧ Hid (wr.ownsRow w.heap.size 5 1 (.slice (some ⟨g, 0, none⟩) (L + 70) qc) (L + 70) (encB gt)) ∧ Hid (B wr)) (fun iv _ => L - (intOf iv).toNat)
  case atStart => exact ⟨0, gt0, Nat.zero_le _, rfl, HP0, HR23, HK23⟩
  case round =>
    clear HP0 HR23 HK23
    obtain ⟨k, gt, hk, rfl, HLg, HO, HB⟩ := hrel
    by_cases hlt : k < L
    · obtain ⟨j, hj⟩ : ∃ j, j + k + 1 = L := ⟨L - 1 - k, by omega⟩
      obtain ⟨x, y, ck, fk, cj, gt2, hg2, ho2⟩ := turn_one (unhide HLg) (unhide HO) k j hlt (by omega)
      have HLg2 := hide hg2
      have HO3 := hide ho2
      have HB3 := hide (unhide Bset wr k (.int .u8 x) (unhide HB))
      have knz : (k : Int) < (L : Int) := by omega
      have jnz : (L : Int) - 1 - (k : Int) < (L : Int) := by omega
      have j0z : (0 : Int) ≤ (L : Int) - 1 - (k : Int) := by omega
      have k1z : (k : Int) ≤ (L : Int) - 1 := by omega
      have ej : ((L : Int) - 1 - (k : Int)).toNat = j := by omega
      have rj : IntKind.i64.wrap ((L : Int) - 1 - (k : Int)) = (L : Int) - 1 - (k : Int) := by rw [IntKind.wrap_i64]; omega
      have r1 : IntKind.i64.wrap ((L : Int) - 1) = (L : Int) - 1 := by rw [IntKind.wrap_i64]; omega
      have HJ := hide hj
      clear hj hg2 ho2 HO HB HLg cPu cRu cCu
      go_wp2_with fail
      generalize wr.setCell ⟨g, k, none⟩ (.int .u8 x) = w3 at *
      go_roundw
      case rel => exact ⟨k + 1, gt2, by omega, by go_num, HLg2, HO3, HB3⟩
      case measure => simp [intOf]; omega
    · obtain rfl : k = L := by omega
      have hu : (gt.take k).length = k := by rw [List.length_take, unhide HLg]; omega
      have HU := hide (turned_rb (unhide HLg) (unhide HO))
      generalize gt.take k = u at *
      have HUL := hide hu
      clear hu
      have cC := hide (unhide cCu u (unhide HUL))
      have cP := hide (unhide cPu u (unhide HUL))
      have cR := hide (unhide cRu u (unhide HUL))
      have cK := hide (fun (W : World) (v x : Value) (b1 b2 : Nat) (vs us : List Value) (h1 : RD b1 W v (outP u) vs) (h2 : RD b2 W x (outP u) us) => alike_o u h1 h2)
      clear cCu cPu cRu
      generalize (pOut u).1 = p1 at *
      generalize (pOut u).2 = p2 at *
      have e1 : ((p1 : Int) == (p1 : Int)) = true := by simp
      have e2 : ((p2 : Int) == (p2 : Int)) = true := by simp
      go_wp2_with (first
        | (go_at_call 12; refine (unhide cC wr (some ⟨g, 0, none⟩) qc (unhide HU)).mono ?_; rintro e w30 ⟨qa, qc2, rfl, h1, h2, hb⟩; have HQ2 := hide h1; have HTd := hide h2; have HU30 := hide ((unhide HU).later hb); have HB30 := hide (unhide Blat _ _ (unhide HB) hb); clear h1 h2 hb)
        | (go_at_call 11; refine (unhide cP w30 (unhide Bbel _ (unhide HB30)) (some ⟨g, 0, none⟩) qc (unhide HU30)).mono ?_; rintro e w31 ⟨lv, vsl, rfl, hb, hl⟩; have HLv := hide hl; have HTd31 := hide ((unhide HTd).later hb); have HB31 := hide (unhide Blat _ _ (unhide HB30) hb); clear hb hl)
        | (go_at_call 32; refine (unhide cR w31 qa qc2 (unhide HQ2) (unhide HTd31)).mono ?_; rintro e w32 ⟨uv, vsu, rfl, hb, hl⟩; have HUv := hide hl; have HLv32 := hide ((unhide HLv).later hb); have HB32 := hide (unhide Blat _ _ (unhide HB31) hb); clear hb hl)
        | (go_at_call 26; have _u := HB34; clear _u; refine (unhide Bal w34 (unhide HB34)).mono ?_; rintro e w35 ⟨rfl, hb⟩; have HB35 := hide (unhide Blat _ _ (unhide HB34) hb); clear hb)
        | (go_at_call 26; refine (unhide cK w32 _ _ _ _ _ _ (unhide HLv32) (unhide HUv)).mono ?_; rintro e w33 ⟨rfl, hb⟩; have HB33 := hide (unhide Blat _ _ (unhide HB32) hb); clear hb)
        | (go_at_call 21; refine (num_any p2 w33).mono ?_; rintro e w34 ⟨rfl, hb⟩; have HB34 := hide (unhide Blat _ _ (unhide HB33) hb); clear hb))
      go_ret
      exact ⟨rfl, unhide Bbel _ (unhide HB35)⟩

end Go.Proofs.YtocjcbdkihbbiaaDoor
