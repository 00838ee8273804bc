import Derived.Test.YtodlmbhlinpoeaaAuJ
import Derived.Deep.CutRange
namespace Go.Proofs.Ytodlmbhlinpoeaa
open Go.RowKit

def vv0 : Nat → Value := fun _ => .slice none 0 0
theorem zeroN : (Try.prog.info? 26).map (fun i => (i.zero, i.size)) = some (some (.agg [Value.slice none 0 0, Value.slice none 0 0, Value.slice none 0 0, Value.slice none 0 0, Value.bool false].toArray), 5) ∧ [Value.slice none 0 0, Value.slice none 0 0, Value.slice none 0 0, Value.slice none 0 0, Value.bool false].length = 5 ∧ [Value.slice none 0 0, Value.slice none 0 0, Value.slice none 0 0, Value.slice none 0 0, Value.bool false].all (·.oneCell') = true := ⟨by kernel_rfl, rfl, rfl⟩
theorem infoN : (Try.prog.info? 26).map (·.size) = some 5 := by kernel_rfl
theorem LH.start {w W : World} {XB : Nat} {hs : List Hk} {zc : List Value} (hx : Bk 26 5 W XB (heads vv0)) (hb : Below w.heap.size w W) (hw : w.heap.size < XB) (hr : Bk 26 5 W w.heap.size zc) : LH w W XB hs 0 vv0 [] [] [] := by
  refine ⟨⟨fun q hq => ?_, fun q q' g _ _ e => (by cases e), hx, Nat.lt_succ_self _, hx.lt⟩, rfl, rfl, rfl, fun _ h => (by cases h), fun j p hj => absurd hj (Nat.not_lt_zero _), hb, hw, _, hr⟩
  match q, hq with
  | 0, _ => exact World.ownsRow_nil _ _ _ _
  | 1, _ => exact World.ownsRow_nil _ _ _ _
  | 2, _ => exact World.ownsRow_nil _ _ _ _
  | 3, _ => exact World.ownsRow_nil _ _ _ _
theorem LenC.sx {l B : Nat} {W W2 : World} {cl : List (List (List Value))} {v u : Value} (h : LenC l W cl v u) (hB : B < l) (s : Sx B W W2) : LenC l W2 cl v u := h.same fun b h1 h2 => s.blk b h2 (by omega)
theorem Len.sx {t k l B : Nat} {W W2 : World} {fl : List (List Value)} {mk : List Value} {m : Nat} {v : Value} (h : Len t k l W fl mk m v) (hB : B < l) (s : Sx B W W2) : Len t k l W2 fl mk m v := h.same fun b h1 h2 => s.blk b h2 (by omega)
section
variable {ops : Array Oper} {rest : List Oper} {o : Oper} {a : Act} {w : World} {Q : Exit → Act → World → Prop}
theorem h_lit (parts : Array (Nat × Operand)) (ho : o.op = .build 47 parts) (hg : o.guard = none) (l : List (Nat × Value)) (hp : (parts.map fun (i, x) => (i, a.eval x)).toList = l) (cs : List Value) (hb : Try.prog.built 47 l = some cs.toArray)
    (h : wpList Try.prog ops Q rest (a.put o.dst (.agg cs.toArray)) w) : wpList Try.prog ops Q (o :: rest) a w := h_build parts ho hg cs (by rw [hp]; exact hb) h
end
def mk2 : List Value := mkH 77 ++ mkH 78
theorem mk2_len : mk2.length = 2 * 44 := by simp [mk2, mkH_len]
theorem mk2_one : ∀ x ∈ mk2, x.oneCell' = true := fun x hx => by
  rcases List.mem_append.1 hx with q | q
  · exact mkH_one 77 x q
  · exact mkH_one 78 x q
/-- WHAT LendHeld HANDS OUT. -/
structure Ld (lo : Nat) (W : World) (hs : List Hk) (g cap : Nat) (ov dv pv : Value) (csl : List (List Value)) (od od2 : List Value) : Prop where
  lrow : W.ownsRow lo 47 44 (.slice (some ⟨g, 0, none⟩) (hs.length + 2) cap) (hs.length + 2) (csl.flatten ++ mk2)
  orow : W.ownsRow lo 47 44 ov hs.length csl.flatten
  drow : W.ownsRow lo 39 1 dv hs.length od
  prow : W.ownsRow lo 39 1 pv hs.length od2
  l1 : csl.length = hs.length
  l2 : od.length = hs.length
  l3 : od2.length = hs.length
  c44 : ∀ cs ∈ csl, cs.length = 44
  each : ∀ (j : Nat) (p : Hk), hs[j]? = some p → ∃ cs u1 u2, csl[j]? = some cs ∧ od[j]? = some u1 ∧ od2[j]? = some u2 ∧ ∃ l h d r c v f, lo ≤ l ∧ h ≤ W.heap.size ∧ HkC cs p d r c v f ∧ (∀ W', h ≤ W'.heap.size → (∀ b, l ≤ b → b < h → W'.heap[b]? = W.heap[b]?) → LHv l W' p d r c v f u1 u2) ∧ (g < l ∨ h ≤ g)
theorem Ld.later {lo : Nat} {W W2 : World} {hs : List Hk} {g cap : Nat} {ov dv pv : Value} {csl : List (List Value)} {od od2 : List Value} (h : Ld lo W hs g cap ov dv pv csl od od2) (hb : Below W.heap.size W W2) : Ld lo W2 hs g cap ov dv pv csl od od2 :=
  ⟨own_low h.lrow hb, own_low h.orow hb, own_low h.drow hb, own_low h.prow hb, h.l1, h.l2, h.l3, h.c44, fun j p hp => by
    obtain ⟨cs, u1, u2, k1, k2, k3, l, t, d, r, c, v, f, m1, m2, m3, m4, m5⟩ := h.each j p hp
    exact ⟨cs, u1, u2, k1, k2, k3, l, t, d, r, c, v, f, m1, Nat.le_trans m2 hb.size, m3, fun W' hW' hE => m4 W' hW' fun b hb1 hb2 => (hE b hb1 hb2).trans (hb.block b (Nat.lt_of_lt_of_le hb2 m2)), m5⟩⟩
/-- BEHIND THE LAST OF THEM. -/
theorem LH.done {w wr Wa Wb : World} {XB N : Nat} {hs : List Hk} {vv : Nat → Value} {csl : List (List Value)} {od od2 : List Value} (h : LH w wr XB hs N vv csl od od2) (hN : hs.length = N) {g cap : Nat}
    (g0 : Gr (XB + 1) XB wr Wa vv (up vv 0 (.slice (some ⟨g, 0, none⟩) (N + 2) cap)) (up (fun _ => N) 0 (N + 2)) (up (XX csl od od2) 0 (XX csl od od2 0 ++ mk2)) 0 ∧ Below XB wr Wa) (hs1 : Wa.heap.size ≤ Wb.heap.size) (hb : ∀ b, b ≠ XB → b ≠ w.heap.size → Wb.heap[b]? = Wa.heap[b]?) :
    Ld w.heap.size Wb hs g cap (vv 1) (vv 2) (vv 3) csl od od2 := by
  obtain ⟨G, hbel⟩ := g0
  subst hN
  have hxw := h.xw
  have keep : ∀ {e k n : Nat} {v : Value} {xs : List Value}, Wa.ownsRow (XB + 1) e k v n xs → Wb.ownsRow w.heap.size e k v n xs := fun {e k n v xs} q => own_base (own_same q fun b e => hb b (by have := (World.ownsRow.lt q b e).1; omega) (by have := (World.ownsRow.lt q b e).1; omega)) (by omega)
  have r0 := keep (G.r4.row 0 (by decide))
  have r1 := keep (G.r4.row 1 (by decide))
  have r2 := keep (G.r4.row 2 (by decide))
  have r3 := keep (G.r4.row 3 (by decide))
  refine ⟨by simpa [up, XX, e4, k4] using r0, by simpa [up, XX, e4, k4] using r1, by simpa [up, XX, e4, k4] using r2, by simpa [up, XX, e4, k4] using r3, h.l1, h.l2, h.l3, h.c44, fun j p hp => ?_⟩
  obtain ⟨cs, u1, u2, k1, k2, k3, k4⟩ := h.each j p (List.getElem?_eq_some_iff.1 hp).1 hp
  have k5 := k4.step (W2 := Wa) (vv2 := up vv 0 (.slice (some ⟨g, 0, none⟩) (hs.length + 2) cap)) G.size (fun b hb1 hb2 hb3 => G.blk b hb1 hb2 (hb3 0 (by decide))) fun q g' hq e => G.own q g' hq e
  obtain ⟨l, t, d, r, c, v, f, m1, m2, m3, m4, m5⟩ := k5
  exact ⟨cs, u1, u2, k1, k2, k3, l, t, d, r, c, v, f, by omega, by omega, m3, fun W' hW' hE => m4 W' hW' fun b hb1 hb2 => (hE b hb1 hb2).trans (hb b (by omega) (by omega)), m5 0 g (by decide) rfl⟩
set_option maxRecDepth 100000 in
set_option maxHeartbeats 8000000 in
theorem lendHeld_any {w : World} {v : Value} {hs : List Hk} (h : Hds w v hs) (hl : hs.length ≤ 586406201463) (hz : ∀ p ∈ hs, HkZ p) :
    Calls Try.prog 4 #[v] w fun e w' => ∃ g cap ov dv pv csl od od2, e = .returned (.agg #[.slice (some ⟨g, 0, none⟩) hs.length cap, ov, dv, pv, .bool true]) ∧ hs.length + 2 ≤ cap ∧ Ld w.heap.size w' hs g cap ov dv pv csl od od2 ∧ Below w.heap.size w w' := by
  obtain ⟨a, c, rfl⟩ := h.form
  have HH := hide h
  have HZ := hide hz
  obtain ⟨N, hN⟩ : ∃ N, hs.length = N := ⟨_, rfl⟩
  have HN := hide hN
  rw [hN] at hl HH ⊢
  clear h hN hz
  obtain ⟨zcH, zeroH6⟩ := zeroH5
  obtain ⟨zF, TF⟩ := tyF
  obtain ⟨zT, TH⟩ := tyH
  have HTF := hide TF
  have HTH := hide TH
  clear TF TH
  go_enter Try.func4, Try.ntmps4
  go_wp2_with (first
    | ((with_reducible refine b_alloc (t := 26) (k := 5) zeroN rfl rfl ?_); intro w2 B1 k1 z1; have K1 := hide k1; guard_hyp k1 : Below w.heap.size w w2)
    | ((with_reducible refine b_alloc (t := 26) (k := 5) zeroN rfl rfl ?_); intro w3 B2 k2 z2; have P1 := hide (B1.later k2); have HXW := hide (show w.heap.size < w2.heap.size from z1.1); have P2 := hide B2; have K2 := hide (bl_t (unhide K1) k2); have LE2 := hide k1.size; clear B1 B2 k1 k2 z1 z2 K1)
    | ((with_reducible refine b_store (t := 26) (k := 5) infoN _ _ rfl rfl w2.heap.size rfl (heads vv0) rfl rfl (by simp [heads, vv0, Value.oneCell']) _ (unhide P2) ?_); intro w4 B4 o4 k4 z4; have HST := hide (LH.start (hs := hs) B4 ((unhide K2).trans (k4 _ (unhide LE2))) (unhide HXW) ((unhide P1).of (o4 _ (Nat.ne_of_lt (unhide HXW))))); clear B4 o4 k4 z4 P1 P2 K2 LE2))
  generalize w2.heap.size = XB at *
  go_loopg [4, 5, 6, 7, 8, 9, 10, 11] N (fun gq iv _ _ _ _ _ _ _ wr => ∃ (i : Nat) (vv : Nat → Value) (csl : List (List Value)) (od od2 : List Value), iv = .int .i64 i ∧ i ≤ N ∧ N - i ≤ gq ∧ Hid (LH w wr XB hs i vv csl od od2))
  case atStart => exact ⟨0, vv0, [], [], [], by go_num, by omega, by omega, HST⟩
  case round =>
    clear HST
    obtain ⟨i, vv, csl, od, od2, rfl, hi, hg, HL⟩ := hrel
    by_cases hlt : i < N
    · have hin : (i : Int) < (N : Int) := by omega
      have hil : i < hs.length := by have := unhide HN; omega
      have hwr := (unhide HL).bw
      obtain ⟨b, o, cs, d, r, cv, v, f, rfl, hbl, hr, kc, kl⟩ := (unhide HH).at hil
      have z := unhide HZ _ (List.getElem_mem hil)
      have HP := hide (show hs[i]? = some hs[i] from List.getElem?_eq_getElem hil)
      generalize hs[i] = p at *
      obtain ⟨da, dc, rfl⟩ := kl.dl.form
      obtain ⟨ra, rc, rfl⟩ := kl.rl.form
      obtain ⟨ca, cc, rfl⟩ := kl.cl.form
      obtain ⟨va, vc, rfl⟩ := kl.vl.form
      obtain ⟨fa, fc, rfl⟩ := kl.fl.form
      have HI := hide (fun (X : World) (hX : Below wr.heap.size wr X) => kl.later (bl_t hwr hX))
      have HR := hide (rangeAt_later hr hbl hwr)
      have HF := hide (show ∀ X, Below wr.heap.size wr X → X.cell? ⟨b, o + i * 44 + 3, none⟩ = some (.slice da p.dp.length dc) ∧ X.cell? ⟨b, o + i * 44 + 4, none⟩ = some (.slice ra p.pr.length rc) ∧ X.cell? ⟨b, o + i * 44 + 5, none⟩ = some (.slice ca p.cf.length cc) ∧ X.cell? ⟨b, o + i * 44 + 6, none⟩ = some (.slice va p.pv.length vc) ∧ X.cell? ⟨b, o + i * 44 + 7, none⟩ = some (.slice fa p.fs.length fc) from fun X hX => by
        have q := rangeAt_later hr hbl (bl_t hwr hX)
        exact ⟨q 3 _ kc.c3, q 4 _ kc.c4, q 5 _ kc.c5, q 6 _ kc.c6, q 7 _ kc.c7⟩)
      have hlen := kc.len
      have HONE := hide kc.one
      have HKC := hide kc
      have HZP := hide z
      have HA := hide (fun (X : World) (hX : Below wr.heap.size wr X) => lend tyA (unhide HI X hX).cl mkA (m := 1) (by decide) rfl (by simp [mkA, Value.oneCell']) (by have := z.cl; unfold maxLen; omega) (by have := z.cl; omega) 40)
      have HE := hide (fun (X : World) (hX : Below wr.heap.size wr X) => lend (unhide HTF) (unhide HI X hX).fl mkF (m := 1) (by decide) rfl (by simp [mkF, Value.oneCell']) (by have := z.fl; unfold maxLen; omega) (by have := z.fl; omega) 42)
      clear kl hr kc z hbl hwr HH
      go_upto_region 17 with (first
        | ((with_reducible refine m_load (t := 47) (k := 44) Try.underlying47 rfl infoH _ rfl rfl b (o + i * 44) rfl cs (unhide HR) hlen ?_); clear HR)
        | ((with_reducible refine b_alloc (t := 47) (k := 44) zeroH6 rfl rfl ?_); intro w2 B2 k2 z2)
        | ((with_reducible refine b_store (t := 47) (k := 44) infoH _ _ rfl rfl wr.heap.size rfl cs rfl hlen (unhide HONE) _ B2 ?_); intro w3 B3 o3 k3 z3; have BH3 := hide B3; have K3 := hide (k2.trans (k3 _ (Nat.le_refl _))); have HL3 := hide (show wr.heap.size + 1 ≤ w3.heap.size from Nat.le_trans z2.1 z3.1); have a3 := (unhide HF w3 (unhide K3)).1; clear B2 k2 z2 B3 o3 k3 z3)
        | (go_at_call_of 13 (Value.slice da p.dp.length dc); refine (lentClauses_any (unhide HI _ (unhide K3)).dl (unhide HZP).dl (unhide HZP).dls).mono ?_; rintro e w4 ⟨r1, u1, rfl, l4, b4⟩; obtain ⟨g1, q1, ua1, uc1, rfl, rfl⟩ := l4.form; have C4 := hide l4; have K4 := hide (bl_t (unhide K3) b4); have BH4 := hide ((unhide BH3).later b4); have a4 := (unhide HF w4 (unhide K4)).2.1; have HL4 := hide (Nat.le_trans (unhide HL3) b4.size); clear a3 l4 b4 BH3)
        | (go_at_call_of 13 (Value.slice ra p.pr.length rc); refine (lentClauses_any (unhide HI _ (unhide K4)).rl (unhide HZP).rl (unhide HZP).rls).mono ?_; rintro e w5 ⟨r2, u2, rfl, l5, b5⟩; obtain ⟨g2, q2, ua2, uc2, rfl, rfl⟩ := l5.form; have C5 := hide l5; have K5 := hide (bl_t (unhide K4) b5); have BH5 := hide ((unhide BH4).later b5); have S45 := hide (show Sx wr.heap.size w4 w5 from Sx.of b5); clear a4 l5 b5 BH4)
        | ((with_reducible refine b_set (t := 47) (k := 44) 39 _ _ rfl rfl wr.heap.size 3 rfl (.slice (some ⟨g1, 0, none⟩) p.dp.length q1) (stL _ _ _ _ _ _) rfl rfl _ (unhide BH5) (by decide) ?_); intro w6 B6 o6 k6 z6; have K6 := hide ((unhide K5).trans (k6 _ (Nat.le_refl _))); have BH6 := hide B6; have S56 := hide (Sx.set o6 z6); clear B6 o6 k6 z6 BH5)
        | ((with_reducible refine b_set (t := 47) (k := 44) 39 _ _ rfl rfl wr.heap.size 4 rfl (.slice (some ⟨g2, 0, none⟩) p.pr.length q2) (stL _ _ _ _ _ _) rfl rfl _ (unhide BH6) (by decide) ?_); intro w7 B7 o7 k7 z7; have K7 := hide ((unhide K6).trans (k7 _ (Nat.le_refl _))); have BH7 := hide B7; have S67 := hide (Sx.set o7 z7); have a5 := cell_later (unhide HF w7 (unhide K7)).2.2.1 ((Below.refl w7.heap.size w7).alloc (Nat.le_refl _) (.cells #[] 55)); obtain ⟨v8, w8a, g3, q3, w8, ra8, rb8, hq3, l8, b8⟩ := unhide HA w7 (unhide K7); have C8 := hide l8; have S78 := hide (show Sx wr.heap.size w7 w8 from Sx.of b8); have K8 := hide (bl_t (unhide K7) b8); have BH8 := hide ((unhide BH7).later b8); clear B7 o7 k7 z7 BH6 l8 b8)
        | (at_builtin; refine wpList_append_run rfl _ _ 40 rfl _ _ rfl rfl ra8 ?_; clear ra8 a5)
        | (at_builtin; refine wpList_append_run rfl _ _ 40 rfl _ _ rfl rfl rb8 ?_; clear rb8; have a5 := (unhide HF w8 (unhide K8)).2.2.1)
        | ((with_reducible refine b_set (t := 47) (k := 44) 40 _ _ rfl rfl wr.heap.size 5 rfl (.slice (some ⟨g3, 0, none⟩) p.cf.length q3) (stC _ _ _ _ _ _) rfl rfl _ (unhide BH8) (by decide) ?_); intro w9 B9 o9 k9 z9; have K9 := hide ((unhide K8).trans (k9 _ (Nat.le_refl _))); have BH9 := hide B9; have S89 := hide (Sx.set o9 z9); have a6 := (unhide HF w9 (unhide K9)).2.2.2.1; clear B9 o9 k9 z9 BH8 a5)
        | (go_at_call 14; refine (lentTexts_any (unhide HI _ (unhide K9)).vl (unhide HZP).vl).mono ?_; rintro e w10 ⟨r4, rfl, l10, b10⟩; obtain ⟨g4, q4, rfl⟩ := l10.form; have C10 := hide l10; have K10 := hide (bl_t (unhide K9) b10); have BH10 := hide ((unhide BH9).later b10); have S910 := hide (show Sx wr.heap.size w9 w10 from Sx.of b10); clear a6 l10 b10 BH9)
        | ((with_reducible refine b_set (t := 47) (k := 44) 41 _ _ rfl rfl wr.heap.size 6 rfl (.slice (some ⟨g4, 0, none⟩) p.pv.length q4) (stS _ _ _ _ _ _) rfl rfl _ (unhide BH10) (by decide) ?_); intro w11 B11 o11 k11 z11; have K11 := hide ((unhide K10).trans (k11 _ (Nat.le_refl _))); have BH11 := hide B11; have S1011 := hide (Sx.set o11 z11); have a7 := cell_later (unhide HF w11 (unhide K11)).2.2.2.2 ((Below.refl w11.heap.size w11).alloc (Nat.le_refl _) (.cells #[] 49)); obtain ⟨v12, w12a, g5, q5, w12, ra12, rb12, hq5, l12, b12⟩ := unhide HE w11 (unhide K11); have C12 := hide l12; have S1112 := hide (show Sx wr.heap.size w11 w12 from Sx.of b12); have K12 := hide (bl_t (unhide K11) b12); have BH12 := hide ((unhide BH11).later b12); clear B11 o11 k11 z11 BH10 l12 b12)
        | (at_builtin; refine wpList_append_run rfl _ _ 42 rfl _ _ rfl rfl ra12 ?_; clear ra12 a7)
        | (at_builtin; refine wpList_append_run rfl _ _ 42 rfl _ _ rfl rfl rb12 ?_; clear rb12; have a7 := (unhide HF w12 (unhide K12)).2.2.2.2)
        | ((with_reducible refine b_set (t := 47) (k := 44) 42 _ _ rfl rfl wr.heap.size 7 rfl (.slice (some ⟨g5, 0, none⟩) p.fs.length q5) (stG _ _ _ _ _ _) rfl rfl _ (unhide BH12) (by decide) ?_); intro wz B13 o13 k13 z13; have KZ := hide ((unhide K12).trans (k13 _ (Nat.le_refl _))); have BHZ := hide B13; have S12z := hide (Sx.set o13 z13); clear B13 o13 k13 z13 BH12 a7))
      have T11 := (unhide S1112).trans (unhide S12z)
      have T10 := (unhide S1011).trans T11
      have T9 := (unhide S910).trans T10
      have T8 := (unhide S89).trans T9
      have T7 := (unhide S78).trans T8
      have T6 := (unhide S67).trans T7
      have T5 := (unhide S56).trans T6
      have T4 := (unhide S45).trans T5
      have n3 := unhide HL3
      have n4 := unhide HL4
      have n7 := Nat.le_trans n4 (Nat.le_trans (unhide S45).size (Nat.le_trans (unhide S56).size (unhide S67).size))
      have n9 := Nat.le_trans n7 (Nat.le_trans (unhide S78).size (unhide S89).size)
      have n11 := Nat.le_trans n9 (Nat.le_trans (unhide S910).size (unhide S1011).size)
      have HV := hide (show LHv (wr.heap.size + 1) wz p (.slice (some ⟨g1, 0, none⟩) p.dp.length q1) (.slice (some ⟨g2, 0, none⟩) p.pr.length q2) (.slice (some ⟨g3, 0, none⟩) p.cf.length q3) (.slice (some ⟨g4, 0, none⟩) p.pv.length q4) (.slice (some ⟨g5, 0, none⟩) p.fs.length q5) (.slice ua1 p.dp.length uc1) (.slice ua2 p.pr.length uc2) from
        ⟨((unhide C4).base n3).sx (Nat.lt_succ_self _) T4, ((unhide C5).base n4).sx (Nat.lt_succ_self _) T5, ((unhide C8).base n7).sx (Nat.lt_succ_self _) T8, ((unhide C10).base n9).sx (Nat.lt_succ_self _) T10, ((unhide C12).base n11).sx (Nat.lt_succ_self _) (unhide S12z)⟩)
      have HKC2 := hide (relist_c (unhide HKC) (d2 := .slice (some ⟨g1, 0, none⟩) p.dp.length q1) (r2 := .slice (some ⟨g2, 0, none⟩) p.pr.length q2) (c2 := .slice (some ⟨g3, 0, none⟩) p.cf.length q3) (v2 := .slice (some ⟨g4, 0, none⟩) p.pv.length q4) (f2 := .slice (some ⟨g5, 0, none⟩) p.fs.length q5) rfl rfl rfl rfl rfl)
      have BHC := hide (show Bk 47 44 wz wr.heap.size (relist cs (.slice (some ⟨g1, 0, none⟩) p.dp.length q1) (.slice (some ⟨g2, 0, none⟩) p.pr.length q2) (.slice (some ⟨g3, 0, none⟩) p.cf.length q3) (.slice (some ⟨g4, 0, none⟩) p.pv.length q4) (.slice (some ⟨g5, 0, none⟩) p.fs.length q5)) from unhide BHZ)
      generalize relist cs (.slice (some ⟨g1, 0, none⟩) p.dp.length q1) (.slice (some ⟨g2, 0, none⟩) p.pr.length q2) (.slice (some ⟨g3, 0, none⟩) p.cf.length q3) (.slice (some ⟨g4, 0, none⟩) p.pv.length q4) (.slice (some ⟨g5, 0, none⟩) p.fs.length q5) = CS at *
      have hcl := (unhide HKC2).len
      have HCO := hide (unhide HKC2).one
      have hb1 : (i + 1) * 240 ≤ 140737488355328 := by omega
      have hb2 : (i + 1) * 24 ≤ 140737488355328 := by omega
      have hb3 : i + 1 ≤ maxLen := by unfold maxLen; omega
      have HNE := hide (show ∀ q, q < 4 → (vv q).ownBlock ≠ some wr.heap.size from fun q hq e => by have := ((unhide HL).r4.lt hq e).2; omega)
      have HXN := hide (show wr.heap.size ≠ XB from fun e => by have := (unhide HL).r4.xb.lt; omega)
      have HZL := hide (show wr.heap.size < wz.heap.size from (unhide BHC).lt)
      have HR4 := hide ((unhide HL).r4.below (unhide KZ))
      have c0 : wz.cell? ⟨XB, 0, none⟩ = some (vv 0) := (unhide HR4).xb.cell (i := 0) rfl
      have HG0 := hide (fun (wx : World) (hsrc : ∀ j u, CS[j]? = some u → wx.cell? ⟨wz.heap.size, j, none⟩ = some u) (hx : Below wz.heap.size wz wx) => R4.grow2 (unhide HTH) (q := 0) (m := 1) (by decide) rfl rfl (unhide HR4) (v0 := vv 0) rfl (i := i) rfl (X0 := XX csl od od2 0) rfl (news := CS) (by rw [hcl]) (unhide HCO) (by decide) hb3 hb1 wx wz.heap.size hsrc hx)
      clear T4 T5 T6 T7 T8 T9 T10 T11 n3 n4 n7 n9 n11 S45 S56 S67 S78 S89 S910 S1011 S1112 S12z HA HE HI HF HKC HONE hlen K3 K4 K5 K6 K7 K8 K9 K10 K11 K12 BH7 BH11 BHZ C4 C5 C8 C10 C12 HL3 HL4 hq3 hq5 HZP HR4
      go_wp2_with (first
        | ((with_reducible refine m_load (t := 47) (k := 44) Try.underlying47 rfl infoH _ rfl rfl wr.heap.size 0 rfl CS (unhide BHC).range hcl ?_))
        | ((with_reducible refine h_sl1 _ rfl rfl CS rfl hcl ?_); intro wx hsrc hx hxs; obtain ⟨t0, y0, w20, hr0, hc0, hB0, hF0⟩ := unhide HG0 wx hsrc hx; have HB0 := hide hB0; have HF0 := hide hF0; clear hB0 hF0 hsrc hx hxs HG0 c0)
        | (at_builtin; refine wpList_append_run rfl _ _ 22 rfl _ _ rfl rfl hr0 ?_; clear hr0)
        | ((with_reducible refine b_set (t := 26) (k := 5) 22 _ _ rfl rfl XB 0 rfl (.slice (some ⟨t0, 0, none⟩) (i + 1) y0) (stHL _ _ _ _ _ _) rfl rfl _ (unhide HB0) (by decide) ?_); intro W1 B1 o1 k1 z1; have G0 := hide (unhide HF0 W1 B1 o1 k1 z1); have BH1 := hide ((unhide BHC).of ((unhide G0).1.blk _ (unhide HZL) (unhide HXN) (unhide HNE 0 (by decide)))); clear B1 o1 k1 z1 HB0 HF0 BHC; have BHC := BH1; clear BH1; have HZ1 := hide (unhide BHC).lt; have c1 : W1.cell? ⟨XB, 1, none⟩ = some (vv 1) := (unhide G0).1.r4.xb.cell (i := 1) rfl; have HG1 := hide (fun (wx : World) (hsrc : ∀ j u, CS[j]? = some u → wx.cell? ⟨W1.heap.size, j, none⟩ = some u) (hx : Below W1.heap.size W1 wx) => R4.grow2 (unhide HTH) (q := 1) (m := 1) (by decide) rfl rfl (unhide G0).1.r4 (v0 := vv 1) rfl (i := i) rfl (X0 := XX csl od od2 1) rfl (news := CS) (by rw [hcl]) (unhide HCO) (by decide) hb3 hb1 wx W1.heap.size hsrc hx))
        | ((with_reducible refine h_sl1 _ rfl rfl CS rfl hcl ?_); intro wx hsrc hx hxs; obtain ⟨t1, y1, w21, hr1, hc1, hB1, hF1⟩ := unhide HG1 wx hsrc hx; have HB1 := hide hB1; have HF1 := hide hF1; clear hB1 hF1 hsrc hx hxs HG1 c1)
        | (at_builtin; refine wpList_append_run rfl _ _ 22 rfl _ _ rfl rfl hr1 ?_; clear hr1)
        | ((with_reducible refine b_set (t := 26) (k := 5) 22 _ _ rfl rfl XB 1 rfl (.slice (some ⟨t1, 0, none⟩) (i + 1) y1) (stHL _ _ _ _ _ _) rfl rfl _ (unhide HB1) (by decide) ?_); intro W2 B2 o2 k2 z2; have G1 := hide (unhide HF1 W2 B2 o2 k2 z2); clear B2 o2 k2 z2 HB1 HF1; have c2 : W2.cell? ⟨XB, 2, none⟩ = some (vv 2) := (unhide G1).1.r4.xb.cell (i := 2) rfl; have c2b := cell_later c2 ((Below.refl W2.heap.size W2).alloc (Nat.le_refl _) (.cells #[Value.slice ua1 p.dp.length uc1] 39)); obtain ⟨t2, y2, w22, hr2, hc2, hB2, hF2⟩ := R4.grow2 tyLL (q := 2) (m := 1) (by decide) rfl rfl (unhide G1).1.r4 (v0 := vv 2) rfl (i := i) rfl (X0 := XX csl od od2 2) rfl (news := [Value.slice ua1 p.dp.length uc1]) rfl (by simp [Value.oneCell']) (by decide) hb3 hb2 (W2.alloc (.cells #[Value.slice ua1 p.dp.length uc1] 39)) W2.heap.size (fun j u hj => by rw [World.cell?_alloc_new]; simpa using hj) ((Below.refl _ _).alloc (Nat.le_refl _) _); have HB2 := hide hB2; have HF2 := hide hF2; clear hB2 hF2)
        | (at_builtin; refine wpList_append_run rfl _ _ 24 rfl _ _ rfl rfl hr2 ?_; clear hr2 c2 c2b)
        | ((with_reducible refine b_set (t := 26) (k := 5) 24 _ _ rfl rfl XB 2 rfl (.slice (some ⟨t2, 0, none⟩) (i + 1) y2) (stLL _ _ _ _ _ _) rfl rfl _ (unhide HB2) (by decide) ?_); intro W3 B3 o3 k3 z3; have G2 := hide (unhide HF2 W3 B3 o3 k3 z3); clear B3 o3 k3 z3 HB2 HF2; have c3 : W3.cell? ⟨XB, 3, none⟩ = some (vv 3) := (unhide G2).1.r4.xb.cell (i := 3) rfl; obtain ⟨t3, y3, w23, hr3, hc3, hB3, hF3⟩ := R4.grow2 tyLL (q := 3) (m := 1) (by decide) rfl rfl (unhide G2).1.r4 (v0 := vv 3) rfl (i := i) rfl (X0 := XX csl od od2 3) rfl (news := [Value.slice ua2 p.pr.length uc2]) rfl (by simp [Value.oneCell']) (by decide) hb3 hb2 (W3.alloc (.cells #[Value.slice ua2 p.pr.length uc2] 39)) W3.heap.size (fun j u hj => by rw [World.cell?_alloc_new]; simpa using hj) ((Below.refl _ _).alloc (Nat.le_refl _) _); have HB3 := hide hB3; have HF3 := hide hF3; clear hB3 hF3)
        | (at_builtin; refine wpList_append_run rfl _ _ 24 rfl _ _ rfl rfl hr3 ?_; clear hr3 c3)
        | ((with_reducible refine b_set (t := 26) (k := 5) 24 _ _ rfl rfl XB 3 rfl (.slice (some ⟨t3, 0, none⟩) (i + 1) y3) (stLL _ _ _ _ _ _) rfl rfl _ (unhide HB3) (by decide) ?_); intro W4 B4 o4 k4 z4; have G3 := hide (unhide HF3 W4 B4 o4 k4 z4); clear B4 o4 k4 z4 HB3 HF3))
      have HLN := hide ((unhide HL).next (unhide HP) (unhide HKC2) (unhide KZ) (unhide HV) (unhide G0) (unhide G1) (unhide G2) (unhide G3))
      clear HL HP HKC2 KZ HV G0 G1 G2 G3 hc0 hc1 hc2 hc3 BHC HNE HXN HZL HZ1 HCO
      go_roundg (N - (i + 1))
      case measure => omega
      case rel => exact ⟨i + 1, _, _, _, _, by go_num, by omega, by omega, HLN⟩
    · obtain rfl : i = N := by omega
      have hb1 : (i + 2) * 240 ≤ 140737488355328 := by omega
      have hb3 : i + 2 ≤ maxLen := by unfold maxLen; omega
      have c0 : wr.cell? ⟨XB, 0, none⟩ = some (vv 0) := (unhide HL).r4.xb.cell (i := 0) rfl
      have HG0 := hide (fun (wx : World) (hsrc : ∀ j u, (mkH 77 ++ mkH 78)[j]? = some u → wx.cell? ⟨wr.heap.size, j, none⟩ = some u) (hx : Below wr.heap.size wr wx) => R4.grow2 (unhide HTH) (q := 0) (m := 2) (by decide) rfl rfl (unhide HL).r4 (v0 := vv 0) rfl (i := i) rfl (X0 := XX csl od od2 0) rfl (news := mk2) mk2_len mk2_one (by decide) hb3 hb1 wx wr.heap.size hsrc hx)
      obtain ⟨zR, hRB⟩ := (unhide HL).rb
      have HRB := hide (fun (W1 W2 : World) (b1 : Below XB wr W1) (o2 : ∀ k, k ≠ XB → W2.heap[k]? = W1.heap[k]?) => hRB.of (w2 := W2) ((o2 _ (Nat.ne_of_lt (unhide HXW))).trans (b1.block _ (unhide HXW))))
      clear hRB
      clear HZ HH HTF
      go_wp2_with (first
        | (with_reducible refine h_lit _ rfl rfl [(1, .int .i64 77)] rfl (mkH 77) build77 ?_)
        | (with_reducible refine h_lit _ rfl rfl [(1, .int .i64 78)] rfl (mkH 78) build78 ?_)
        | ((with_reducible refine h_sl2 _ _ rfl rfl (mkH 77) (mkH 78) rfl rfl (mkH_len _) (mkH_len _) ?_); intro wx hsrc hx hxs; obtain ⟨t0, y0, w20, hr0, hc0, hB0, hF0⟩ := unhide HG0 wx hsrc hx; have HB0 := hide hB0; have HF0 := hide hF0; clear hB0 hF0 hsrc hx hxs HG0 c0)
        | (at_builtin; refine wpList_append_run rfl _ _ 22 rfl _ _ rfl rfl hr0 ?_; clear hr0)
        | ((with_reducible refine b_set (t := 26) (k := 5) 22 _ _ rfl rfl XB 0 rfl (.slice (some ⟨t0, 0, none⟩) (i + 2) y0) (stHL _ _ _ _ _ _) rfl rfl _ (unhide HB0) (by decide) ?_); intro W1 B1 o1 k1 z1; have G0 := hide (unhide HF0 W1 B1 o1 k1 z1); have c1 : W1.cell? ⟨XB, 0, none⟩ = some (.slice (some ⟨t0, 0, none⟩) (i + 2) y0) := B1.cell (i := 0) rfl; have BX1 := hide B1; have hiy := Nat.le_trans (Nat.le_add_right i 2) hc0; clear B1 o1 k1 z1 HB0 HF0)
        | ((with_reducible refine b_set (t := 26) (k := 5) 22 _ _ rfl rfl XB 0 rfl (.slice (some ⟨t0, 0, none⟩) i y0) (stHL _ _ _ _ _ _) rfl rfl _ (unhide BX1) (by decide) ?_); intro W2 B2 o2 k2 z2; have BX2 := hide (show Bk 26 5 W2 XB [.slice (some ⟨t0, 0, none⟩) i y0, vv 1, vv 2, vv 3, .bool true] from B2); have M2 := hide (And.intro o2 (And.intro k2 z2)); clear B2 o2 k2 z2 BX1 c1)
        | ((with_reducible refine m_load (t := 26) (k := 5) Try.underlying26 rfl infoN _ rfl rfl XB 0 rfl [.slice (some ⟨t0, 0, none⟩) i y0, vv 1, vv 2, vv 3, .bool true] (unhide BX2).range rfl ?_))
        | ((with_reducible refine b_store (t := 26) (k := 5) infoN _ _ rfl rfl w.heap.size rfl [.slice (some ⟨t0, 0, none⟩) i y0, vv 1, vv 2, vv 3, .bool true] rfl rfl (unhide BX2).one _ (unhide HRB W1 W2 (unhide G0).2 (unhide M2).1) ?_); intro W3 B3 o3 k3 z3; have BX3 := hide B3; have M3 := hide (And.intro o3 (And.intro k3 z3)); clear B3 o3 k3 z3))
      have q0 := (unhide BX3).cell (i := 0) rfl
      have q1 := (unhide BX3).cell (i := 1) rfl
      have q2 := (unhide BX3).cell (i := 2) rfl
      have q3 := (unhide BX3).cell (i := 3) rfl
      have q4 := (unhide BX3).cell (i := 4) rfl
      have HLD := hide ((unhide HL).done (unhide HN) (Wb := W3) (unhide G0) (by have := (unhide M2).2.2; have := (unhide M3).2.2; omega) fun b h1 h2 => ((unhide M3).1 b h2).trans ((unhide M2).1 b h1))
      have HBW := hide (show Below w.heap.size w W3 from ((unhide HL).bw.trans (((unhide G0).2.trans ((unhide M2).2.1 XB (Nat.le_refl _))).mono (Nat.le_of_lt (unhide HXW)))).trans ((unhide M3).2.1 _ (Nat.le_refl _)))
      exact bodyPost_ret (v := .agg #[.slice (some ⟨t0, 0, none⟩) i y0, vv 1, vv 2, vv 3, .bool true]) (by simp [results, Try.results4, go_sem, q0, q1, q2, q3, q4]) rfl ⟨_, _, _, _, _, _, _, _, rfl, hc0, unhide HLD, unhide HBW⟩
end Go.Proofs.Ytodlmbhlinpoeaa
