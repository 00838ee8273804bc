import Derived.Test.YtfembjjpmjfklaaDoorLenN
namespace Go.Proofs.YtfembjjpmjfklaaDoor
open Go.RowKit

set_option maxRecDepth 100000 in
set_option maxHeartbeats 16000000 in
theorem relationPrints_walk (n : ByteArray) (op : Int) (v : ByteArray) (cl : List (List Am)) (vl : Value) (al : List Am) (va : Value) (nl : List ByteArray) (vn : Value) (w : World) (hg : Glob w)
    (hn : n.size ≤ maxLen) (hv : v.size ≤ maxLen) (hcl : Cls w vl cl) (hal : Ams w va al) (hnl : Sts w vn nl)
    (hN : cl.length ≤ 5864062014804) (hL : ∀ i (h : i < cl.length), cl[i].length ≤ 3518437208883) (hA : al.length ≤ 3518437208883) (hM : nl.length ≤ 8796093022206)
    (hzC : ∀ j (h : j < cl.length), Szs cl[j]) (hzA : Szs al) (hzN : ∀ j (h : j < nl.length), nl[j].size ≤ maxLen) :
    Calls Tryd.prog 6 #[.agg #[.string n, .int .i64 op, .string v], vl, va, vn] w fun e w' => e = .returned (.bool true) ∧ Below w.heap.size w w' := by
  obtain ⟨la, lc, rfl⟩ := hcl.shapeL
  obtain ⟨aa, ac, rfl⟩ := hal.shapeL
  obtain ⟨na, nc, rfl⟩ := hnl.shape
  have HG := hide (fun (w' : World) (hb : Below w.heap.size w w') => hg.later hb)
  have HC := hide (fun (w' : World) (hb : Below w.heap.size w w') => hcl.later hb)
  have HA := hide (fun (w' : World) (hb : Below w.heap.size w w') => hal.later hb)
  have HN := hide (fun (w' : World) (hb : Below w.heap.size w w') => hnl.later hb)
  have HLL := hide hL
  have HzC := hide hzC
  have HzA := hide hzA
  have HzN := hide hzN
  have c1 := hide (fun (w' : World) (hb : Below w.heap.size w w') => PrintAtom_any n op v w' hn hv (unhide HG w' hb))
  have c2 := hide (fun (w' : World) => rPrintAtom_any n op v w' hn hv)
  have c3 := hide (fun (w' : World) (hb : Below w.heap.size w w') => lentField_any cl _ w' (unhide HC w' hb) hN (unhide HLL))
  have c4 := hide (fun (w' : World) (hb : Below w.heap.size w w') => rPrintField_any cl _ w' (unhide HC w' hb) (unhide HzC))
  generalize printA ⟨n, op, v⟩ = pa at *
  obtain ⟨ta, ea⟩ := pa
  simp only at c1 c2
  obtain ⟨N, hNe⟩ : ∃ N, cl.length = N := ⟨_, rfl⟩
  obtain ⟨La, hLa⟩ : ∃ N, al.length = N := ⟨_, rfl⟩
  obtain ⟨Ln, hLn⟩ : ∃ N, nl.length = N := ⟨_, rfl⟩
  rw [hNe] at hN c3 c4 HC ⊢
  rw [hLa] at hA HA ⊢
  rw [hLn] at hM HN ⊢
  clear hcl hal hnl hL hzC hzA hzN hg hn hv
  go_enter Tryd.func6, Tryd.ntmps6
  go_wp2_with fail
  have HB0 := hide ((Below.refl _ w).alloc (Nat.le_refl _) (.cells #[.string n, .int .i64 op, .string v] 34))
  refine (unhide c1 _ (unhide HB0)).mono ?_
  rintro e w1 ⟨rfl, hb1⟩
  have HB1 := hide (bl_t (unhide HB0) hb1)
  obtain ⟨p0, p1, p2, plt⟩ := par3 hb1
  clear hb1 HB0
  go_wp2_with fail
  refine (unhide c2 _).mono ?_
  rintro e w2 ⟨rfl, hb2⟩
  have HB2 := hide (bl_t (unhide HB1) hb2)
  clear hb2 p0 p1 p2 plt
  go_wp2_with fail
  refine (unhide c3 _ (unhide HB2)).mono ?_
  rintro e w3 ⟨M, K, ms, rfl, hLN, hb3⟩
  have HLN := hide hLN
  have HB23 := hide hb3
  have HB3 := hide (bl_t (unhide HB2) hb3)
  clear hLN hb3
  have c5 := hide (PrintField_any cl _ w3 (unhide HLN).lf.cls (unhide HzC) (unhide HG w3 (unhide HB3)))
  rw [hNe] at c5
  go_wp2_with fail
  refine (unhide c5).mono ?_
  rintro e w4 ⟨rfl, hb4⟩
  have HB34 := hide hb4
  have HB4 := hide (bl_t (unhide HB3) hb4)
  clear hb4
  go_wp2_with fail
  refine (unhide c4 _ (unhide HB4)).mono ?_
  rintro e w5 ⟨rfl, hb5⟩
  have HB35 := hide (bl_t (unhide HB34) hb5)
  have HB5 := hide (bl_t (unhide HB4) hb5)
  clear hb5
  generalize prF cl = pf at *
  obtain ⟨tf, ef⟩ := pf
  simp only
  have c6 := hide (fun (w' : World) (hb : Below w3.heap.size w3 w') => still_any cl w2.heap.size M K ms _ w' ((unhide HLN).later hb) (unhide HC w' (bl_t (unhide HB3) hb)) (by omega) (unhide HLL))
  rw [hNe] at c6
  clear c1 c2 c3 c4 c5
  go_wp2_with fail
  refine (numA_any _ _).mono ?_
  rintro e w' ⟨rfl, rfl⟩
  go_wp2_with fail
  refine (numA_any _ _).mono ?_
  rintro e w' ⟨rfl, rfl⟩
  go_wp2_with fail
  refine (unhide c6 _ (unhide HB35)).mono ?_
  rintro e w6 ⟨rfl, hb6⟩
  have HB36 := hide (bl_t (unhide HB35) hb6)
  clear hb6
  go_wp2_with fail
  go_loopw [18] (fun i wr => ∃ k : Nat, k ≤ N ∧ i = .int .i64 k ∧ Hid (Below w3.heap.size w3 wr)) (fun i _ => N - (intOf i).toNat)
  case atStart => exact ⟨0, Nat.zero_le _, rfl, HB36⟩
  case round =>
    obtain ⟨k, hk, rfl, HB⟩ := hrel
    clear HB36 HB35 HB34
    by_cases hlt : k < N
    · have hkl : k < cl.length := by omega
      have HLNr := hide ((unhide HLN).later (unhide HB))
      obtain ⟨C, hC⟩ := (unhide HLNr).at hkl
      have q0 := ((unhide HLNr).reads hkl hC).1
      have hMl := (unhide HLNr).lf.ltM.2
      obtain ⟨b, o, x, rfl, hbl, q1, hx⟩ := (unhide HC wr (bl_t (unhide HB3) (unhide HB))).elem k hkl
      have HXi := hide (show Ams wr (.slice (some ⟨C, 0, none⟩) cl[k].length (cl[k].length + 1)) cl[k] by obtain ⟨y, h1, h2⟩ := (unhide HLNr).lf.el k hkl hkl; rw [hC] at h1; cases h1; exact h2.ams)
      have HX := hide hx
      have HZ := hide (unhide HzC k hkl)
      have d1 := hide (PrintClause_any cl[k] _ wr (unhide HXi) (unhide HZ) (unhide HG wr (bl_t (unhide HB3) (unhide HB))))
      have d2 := hide (fun (w' : World) (hb : Below wr.heap.size wr w') => rPrintClause_any cl[k] x w' ((unhide HX).later hb) (unhide HZ))
      have HQ1 := hide (fun (w' : World) (hb : Below wr.heap.size wr w') => (hb.cell (p := ⟨b, o + k, none⟩) hbl).trans q1)
      obtain ⟨xa, xc, rfl⟩ := hx.shapeL
      generalize prC cl[k] = pp at *
      obtain ⟨tx, e0⟩ := pp
      simp only at d1 d2
      generalize cl[k].length = L at *
      clear hx q1
      go_wp2_with fail
      refine (unhide d1).mono ?_
      rintro e w7 ⟨rfl, hb7⟩
      have HB7 := hide hb7
      have q7 := unhide HQ1 _ hb7
      have hbl7 := Nat.lt_of_lt_of_le hbl hb7.size
      clear hb7
      go_wp2_with fail
      refine (unhide d2 _ (unhide HB7)).mono ?_
      rintro e w8 ⟨rfl, hb8⟩
      have HB8 := hide ((unhide HB).trans ((bl_t (unhide HB7) hb8).mono (unhide HB).size))
      clear hb8
      go_wp2_with fail
      refine (numA_any _ _).mono ?_
      rintro e w' ⟨rfl, rfl⟩
      go_wp2_with fail
      refine (unhide c6 _ (unhide HB8)).mono ?_
      rintro e w9 ⟨rfl, hb9⟩
      have HB9 := hide (bl_t (unhide HB8) hb9)
      clear hb9
      go_wp2_with fail
      go_roundw
      case rel => exact ⟨k + 1, by omega, by go_num, HB9⟩
      case measure => simp [intOf]; omega
    · have HBw := hide (bl_t (unhide HB3) (unhide HB))
      have HAw := hide (unhide HA wr (unhide HBw))
      have HL1 := hide (show ∀ i (h : i < [al].length), [al][i].length ≤ 3518437208883 from fun i hi => by
        have h0 : i = 0 := by simpa using hi
        subst h0
        show al.length ≤ _
        omega)
      have e1 := hide (lentField_any [al] _ _ (Cls.lit (unhide HAw)) (by simp) (unhide HL1))
      have HBa := hide (show Below wr.heap.size wr (wr.alloc (.cells #[.slice aa La ac] 52)) from (Below.refl _ wr).alloc (Nat.le_refl _) _)
      clear c6
      go_wp2_with fail
      refine (unhide e1).mono ?_
      rintro e w7 ⟨M2, K2, ms2, rfl, hLN2, hb7⟩
      have HLN2 := hide hLN2
      have HBr7 := hide (bl_t (unhide HBa) hb7)
      have HB7 := hide (bl_t (unhide HBw) (unhide HBr7))
      clear hLN2 hb7
      obtain ⟨C2, hC2⟩ := (unhide HLN2).at (k := 0) (by simp)
      have hC2' : ms2[0]? = some (.slice (some ⟨C2, 0, none⟩) La (La + 1)) := by rw [← hLa]; exact hC2
      have HC2 := hide hC2'
      have HR2 := hide (fun (w' : World) (hb : Below w7.heap.size w7 w') => show w'.cell? ⟨M2, 0, none⟩ = some (.slice (some ⟨C2, 0, none⟩) La (La + 1)) ∧ M2 < w'.heap.size by rw [← hLa]; exact ⟨(((unhide HLN2).later hb).reads (by simp) hC2).1, ((unhide HLN2).later hb).lf.ltM.2⟩)
      have HE2 := hide (fun (w' : World) (hb : Below w7.heap.size w7 w') => show LE (wr.alloc (.cells #[.slice aa La ac] 52)).heap.size w' (.slice (some ⟨C2, 0, none⟩) La (La + 1)) al by
        obtain ⟨y, h1, h2⟩ := ((unhide HLN2).later hb).lf.el 0 (by simp) (by simp)
        rw [unhide HC2] at h1
        cases h1
        exact h2)
      have d1 := hide (fun (w' : World) (hb : Below w7.heap.size w7 w') => PrintAtoms_any al _ w' ((unhide HE2 w' hb).ams) (unhide HzA) (unhide HG w' (bl_t (unhide HB7) hb)))
      have d2 := hide (fun (w' : World) (hb : Below w7.heap.size w7 w') => rPrintAtoms_any al _ w' (unhide HA w' (bl_t (unhide HB7) hb)) (unhide HzA))
      have d3 := hide (fun (w' : World) (hb : Below w7.heap.size w7 w') => still_any [al] _ M2 K2 ms2 _ _ ((unhide HLN2).later (bl_t hb ((Below.refl _ w').alloc (Nat.le_refl _) (.cells #[.slice aa La ac] 52)))) (Cls.lit (unhide HA w' (bl_t (unhide HB7) hb))) (by simp) (unhide HL1))
      obtain ⟨q7, hM27⟩ := unhide HR2 w7 (Below.refl _ _)
      generalize prA al = pp at *
      obtain ⟨tx, e0⟩ := pp
      simp only at d1 d2
      simp only [List.length_cons, List.length_nil] at d3 ⊢
      clear hC2 hC2' e1
      go_wp2_with fail
      refine (unhide d1 _ (Below.refl _ _)).mono ?_
      rintro e w8 ⟨rfl, hb8⟩
      have HB8 := hide hb8
      clear hb8
      go_wp2_with fail
      refine (unhide d2 _ (unhide HB8)).mono ?_
      rintro e w9 ⟨rfl, hb9⟩
      have HB9 := hide (bl_t (unhide HB8) hb9)
      clear hb9
      go_wp2_with fail
      refine (numA_any _ _).mono ?_
      rintro e w' ⟨rfl, rfl⟩
      go_wp2_with fail
      refine (unhide d3 _ (unhide HB9)).mono ?_
      rintro e w10 ⟨rfl, hb10⟩
      have HB10 := hide (bl_t (bl_t (unhide HB9) ((Below.refl _ _).alloc (Nat.le_refl _) _)) hb10)
      clear hb10 d1 d2 d3
      have HBw10 := hide (bl_t (unhide HB7) (unhide HB10))
      have hnS := unhide HN w10 (unhide HBw10)
      rw [← hLn] at hnS
      obtain ⟨v', W3, y, hcp, ho3, hb11⟩ := copyS nl na nc 3 w10 w.heap.size (unhide HBw10).size (by omega) hnS
      have mkS := makeS nl.length (by omega)
      have HO3 := hide ho3
      have HB11 := hide hb11
      rw [hLn] at hcp mkS
      clear ho3 hb11 hnS
      have hn2 : wrap64 ((Ln : Int) + 1) = (Ln : Int) + 1 := by unfold wrap64; omega
      have j1 : (0 : Int) ≤ (Ln : Int) := by omega
      have j2 : (Ln : Int) < (Ln : Int) + 1 := by omega
      have j3 : (Ln : Int) ≤ (Ln : Int) + 1 := by omega
      obtain ⟨hQ1, hQ2, hQ3⟩ : w10.heap.size < W3.heap.size ∧ (∃ z, W3.cell? ⟨w10.heap.size, Ln, none⟩ = some z) ∧ W3.frozen? ⟨w10.heap.size, Ln, none⟩ = false := by
        have h0 := (unhide HO3).cells (g := w10.heap.size) rfl nl.length y (by rw [List.getElem?_append_right (by simp)]; simp)
        rw [Go.WideShapes.add_plain, Nat.zero_add, hLn] at h0
        exact ⟨((unhide HO3).lt w10.heap.size rfl).2, ⟨_, h0⟩, ownsRow_free (unhide HO3) Ln⟩
      obtain ⟨z3, hz3⟩ := hQ2
      obtain ⟨W4, hW4, hLS4, hB4⟩ : ∃ W4, W3.setCell ⟨w10.heap.size, Ln, none⟩ (.string ⟨#[77, 65, 82, 75]⟩) = W4 ∧ LS w.heap.size W4 w10.heap.size nl ∧ Below w10.heap.size w10 W4 := ⟨_, rfl, by rw [← hLn]; exact LS.mark (unhide HO3), (unhide HB11).setCell (p := ⟨w10.heap.size, Ln, none⟩) (Nat.le_refl _) _⟩
      have HLS := hide hLS4
      have HB4 := hide hB4
      have HBw4 := hide (bl_t (unhide HBw10) (unhide HB4))
      have d4 := hide (PrintNames_any nl (.slice (some ⟨w10.heap.size, 0, none⟩) Ln (Ln + 1)) W4 (by rw [← hLn]; exact sts_of hLS4.own) (unhide HzN) (unhide HG W4 (unhide HBw4)))
      have d5 := hide (fun (w' : World) (hb : Below W4.heap.size W4 w') => rPrintNames_any nl _ w' (unhide HN w' (bl_t (unhide HBw4) hb)) (unhide HzN))
      have d6 := hide (fun (w' : World) (hb : Below W4.heap.size W4 w') => sameNamesB nl (.slice (some ⟨w10.heap.size, 0, none⟩) Ln (Ln + 1)) _ w' (by rw [← hLn]; exact sts_of ((unhide HLS).later hb).own) (unhide HN w' (bl_t (unhide HBw4) hb)))
      have HLast := hide (fun (w' : World) (hb : Below W4.heap.size W4 w') => show w'.cell? ⟨w10.heap.size, Ln, none⟩ = some (.string ⟨#[77, 65, 82, 75]⟩) ∧ w10.heap.size < w'.heap.size by rw [← hLn]; exact ⟨((unhide HLS).later hb).last.1, ((unhide HLS).later hb).last.2.1⟩)
      have HAG := hide (fun (w' : World) (hb : Below W4.heap.size W4 w') => show AG w.heap.size w3.heap.size w10.heap.size w w' M ms cl (.slice (some ⟨C2, 0, none⟩) La (La + 1)) al (.slice (some ⟨w10.heap.size, 0, none⟩) Ln (Ln + 1)) nl from
        { bel := bl_t (unhide HBw4) hb
          lf := ((unhide HLN).lf.later (bl_t (bl_t (bl_t (bl_t (unhide HB) (unhide HBr7)) (unhide HB10)) (unhide HB4)) hb)).mono (unhide HB2).size
          lm := (unhide HLN).lf.ltM.2
          lb := (unhide HLN).lf.lt (Nat.le_refl _)
          a := ((unhide HE2 w' (bl_t (bl_t (unhide HB10) (unhide HB4)) hb)).mono (by have := (unhide HBw).size; simp; omega)).own
          ab := fun g e => by
            have h1 := (unhide HE2 w7 (Below.refl _ _)).blk e
            have h2 := (unhide HB).size
            have h3 := (unhide HB10).size
            simp at h1
            omega
          n := by rw [← hLn]; exact ((unhide HLS).later hb).own
          nb := fun g e => by cases e; exact Nat.le_refl _
          an := by have h2 := (unhide HB).size; have h3 := (unhide HBr7).size; have h4 := (unhide HB10).size; omega })
      have d7 := hide (fun (w' : World) (hb : Below W4.heap.size W4 w') => again_any _ _ _ _ _ _ _ _ _ _ _ (unhide HAG w' hb) (unhide HG w (Below.refl _ _)))
      rw [hNe] at d7
      have HR24 := hide (fun (w' : World) (hb : Below W4.heap.size W4 w') => unhide HR2 w' (bl_t (bl_t (unhide HB10) (unhide HB4)) hb))
      generalize prNs nl = pp at *
      obtain ⟨tn, en⟩ := pp
      simp only at d4 d5
      clear hLS4 hB4 HAG HLN HLN2 HE2 HR2 HC2 HO3 HC HA HN HLL HzC HzA HzN HG HL1
      go_wp2_with fail
      clear hcp mkS
      clear hW4 hz3 hQ1 hQ3 q7 hM27
      refine (unhide d4).mono ?_
      rintro e w11 ⟨rfl, hb11⟩
      have HB11' := hide hb11
      clear hb11
      go_wp2_with fail
      refine (unhide d5 _ (unhide HB11')).mono ?_
      rintro e w12 ⟨rfl, hb12⟩
      have HB12 := hide (bl_t (unhide HB11') hb12)
      clear hb12
      go_wp2_with fail
      refine (numA_any _ _).mono ?_
      rintro e w' ⟨rfl, rfl⟩
      go_wp2_with fail
      refine (unhide d6 _ (unhide HB12)).mono ?_
      rintro e w13 ⟨rfl, hb13⟩
      have HB13 := hide (bl_t (unhide HB12) hb13)
      obtain ⟨r1, r2⟩ := unhide HLast _ (bl_t (unhide HB12) hb13)
      obtain ⟨r3, r4⟩ := unhide HR24 _ (bl_t (unhide HB12) hb13)
      clear hb13
      have HB13d := hide (unhide HB13).drew
      go_wp2_with fail
      go_region_with (first | (go_at_call 39; refine (unhide d7 _ (unhide HB13d)).mono ?_; rintro x w14 ⟨rfl, hb14⟩; have HB14 := hide hb14; clear hb14))
      go_wp2_with fail
      go_ret
      exact ⟨rfl, unhide HB14⟩

end Go.Proofs.YtfembjjpmjfklaaDoor
