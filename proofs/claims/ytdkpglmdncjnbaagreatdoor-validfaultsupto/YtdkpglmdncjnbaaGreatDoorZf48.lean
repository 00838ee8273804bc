import Derived.Test.YtdkpglmdncjnbaaGreatDoorZf47
namespace Go.Proofs.YtdkpglmdncjnbaaGreatDoor
open Go.RowKit Go.Maps Go.Shelf
set_option maxRecDepth 100000 in
set_option maxHeartbeats 16000000 in
theorem over_any {w : World} {base L : Nat} {ps : List Pk} (sm : SmP ps) (hz : ∀ p ∈ ps, PkZ p) (ht : akK ps ps.length ≤ 1048576) (h : Lps base w L ps) :
 Calls Tryz.prog 13 #[.slice (some ⟨L, 0, none⟩) ps.length (ps.length + 1)] w fun e w' => e = .returned (.bool true) ∧ RowKit.Below L w w' := by
 have hl := sm.l
 have HSM := hide sm
 have HZ := hide hz
 have HT := hide ht
 have HL := hide h
 have hLl : L < w.heap.size := h.row.lt
 have HK0 := hide (Kd.refl L w)
 have HB := hide (show ∀ p ∈ ps, p.pv.length ≤ 1048576 ∧ p.dp.length ≤ 1048576 ∧ p.fs.length ≤ 1048576 from fun p hp => ⟨Nat.le_trans (le_sum (fun p : Pk => p.pv.length) hp) sm.t, Nat.le_trans (le_sum (fun p : Pk => p.dp.length) hp) sm.sd, Nat.le_trans (le_sum (fun p : Pk => p.fs.length) hp) sm.sf⟩)
 clear sm hz ht h
 go_enter Tryz.func13, Tryz.ntmps13
 go_wp2_with fail
 go_loopw [3] (fun iv wr => ∃ i : Nat, iv = .int .i64 i ∧ i ≤ ps.length ∧ Hid (Kd L w wr)) (fun iv _ => ps.length - (intOf iv).toNat)
 case atStart => exact ⟨0, by go_num, Nat.zero_le _, HK0⟩
 case round =>
  clear HK0
  obtain ⟨i, rfl, hile, HK⟩ := hrel
  by_cases hlt : i < ps.length
  ·have hlt2 : (i : Int) < (ps.length : Int) := by omega
   obtain ⟨p, hp⟩ : ∃ p, ps[i]? = some p := ⟨_, List.getElem?_eq_getElem hlt⟩
   obtain ⟨cs, Md, Mr, C, S, F, hr, hlp⟩ := (unhide HL).row.row i p hlt hp
   obtain ⟨hb1, hb2, hb3⟩ := unhide HB p (List.mem_of_getElem? hp)
   have HR := hide hr
   have HLP := hide hlp
   have HP := hide hp
   obtain ⟨⟨z1, c1⟩, f1, k1⟩ := (unhide HK).wV hr hlp (unhide HL).row.fr
   have HK1 := hide k1
   clear hr hlp hp k1 HK
   go_wp2_with fail
   clear c1 f1
   go_loopw [4] (fun kv wr => ∃ k : Nat, kv = .int .i64 k ∧ k ≤ p.pv.length ∧ Hid (Kd L w wr)) (fun kv _ => p.pv.length - (intOf kv).toNat)
   case atStart => exact ⟨0, by go_num, Nat.zero_le _, HK1⟩
   case round =>
    clear HK1
    obtain ⟨k, rfl, hkle, HK⟩ := hrel
    obtain ⟨_, c6, _⟩ := (unhide HK).heads (unhide HR) (unhide HLP)
    by_cases hk : k < p.pv.length
    ·have hk2 : (k : Int) < (p.pv.length : Int) := by omega
     obtain ⟨⟨z1, c1⟩, f1, k1⟩ := (unhide HK).wS (unhide HLP) hk
     have HK1 := hide k1
     clear k1
     go_wp2_with fail
     go_roundw
     case rel => exact ⟨k + 1, by go_num, by omega, HK1⟩
     case measure => simp [intOf]; omega
    ·obtain rfl : k = p.pv.length := by omega
     have HK2 := HK
     clear HK
     go_wp2_with fail
     clear c6
     go_loopw [5] (fun kv wr => ∃ k : Nat, kv = .int .i64 k ∧ k ≤ p.dp.length ∧ Hid (Kd L w wr)) (fun kv _ => p.dp.length - (intOf kv).toNat)
     case atStart => exact ⟨0, by go_num, Nat.zero_le _, HK2⟩
     case round =>
      clear HK2
      obtain ⟨k, rfl, hkle, HK⟩ := hrel
      obtain ⟨c3, _, _⟩ := (unhide HK).heads (unhide HR) (unhide HLP)
      by_cases hk : k < p.dp.length
      ·have hk2 : (k : Int) < (p.dp.length : Int) := by omega
       obtain ⟨al, hal⟩ : ∃ al, p.dp[k]? = some al := ⟨_, List.getElem?_eq_getElem hk⟩
       have hab : al.length ≤ 1048576 := ((unhide HSM).d p (List.mem_of_getElem? (unhide HP)) al (List.mem_of_getElem? hal)).1
       obtain ⟨D, hD, e3, hm⟩ := Kd.clause (unhide HLP) hal
       have HM := hide hm
       have HE := hide e3
       have HKA := HK
       clear hal hm e3 HK
       go_wp2_with fail
       clear c3
       go_loopw [6] (fun nv wr => ∃ n : Nat, nv = .int .i64 n ∧ n ≤ al.length ∧ Hid (Kd L w wr)) (fun nv _ => al.length - (intOf nv).toNat)
       case atStart => exact ⟨0, by go_num, Nat.zero_le _, HKA⟩
       case round =>
        clear HKA
        obtain ⟨n, rfl, hnle, HK⟩ := hrel
        obtain ⟨c3, _, _⟩ := (unhide HK).heads (unhide HR) (unhide HLP)
        have cD := (unhide HK).slice (unhide HE)
        by_cases hn : n < al.length
        ·have hn2 : (n : Int) < (al.length : Int) := by omega
         obtain ⟨⟨z0, d0⟩, ⟨z1, d1⟩, ⟨z2, d2⟩, f0, f1, f2, k1⟩ := (unhide HK).wC hD (unhide HM) hn
         have HK1 := hide k1
         clear k1
         go_wp2_with fail
         go_roundw
         case rel => exact ⟨n + 1, by go_num, by omega, HK1⟩
         case measure => simp [intOf]; omega
        ·obtain rfl : n = al.length := by omega
         go_wp2_with fail
         go_roundw
         case rel => exact ⟨k + 1, by go_num, by omega, HK⟩
         case measure => simp [intOf]; omega
      ·obtain rfl : k = p.dp.length := by omega
       have HK2 := HK
       clear HK
       go_wp2_with fail
       clear c3
       go_loopw [7] (fun kv wr => ∃ k : Nat, kv = .int .i64 k ∧ k ≤ p.fs.length ∧ Hid (Kd L w wr)) (fun kv _ => p.fs.length - (intOf kv).toNat)
       case atStart => exact ⟨0, by go_num, Nat.zero_le _, HK2⟩
       case round =>
        clear HK2
        obtain ⟨k, rfl, hkle, HK⟩ := hrel
        obtain ⟨_, _, c7⟩ := (unhide HK).heads (unhide HR) (unhide HLP)
        by_cases hk : k < p.fs.length
        ·have hk2 : (k : Int) < (p.fs.length : Int) := by omega
         obtain ⟨⟨z1, c1⟩, f1, k1⟩ := (unhide HK).wF (unhide HLP) ((unhide HSM).f p (List.mem_of_getElem? (unhide HP))) hk
         have HK1 := hide k1
         clear k1
         go_wp2_with fail
         go_roundw
         case rel => exact ⟨k + 1, by go_num, by omega, HK1⟩
         case measure => simp [intOf]; omega
        ·obtain rfl : k = p.fs.length := by omega
         go_wp2_with fail
         go_roundw
         case rel => exact ⟨i + 1, by go_num, by omega, HK⟩
         case measure => simp [intOf]; omega
  ·obtain rfl : i = ps.length := by omega
   obtain ⟨w1, rfl⟩ : ∃ x, x = wr := ⟨_, rfl⟩
   obtain ⟨ps2, hpk2, hlen2, hsh⟩ := (unhide HK).pkl ((unhide HL).pkl (unhide HZ)) (fun p hp => (unhide HZ p hp).sl)
   have HSM2 := hide ((unhide HSM).sh hlen2 hsh)
   have HT2 := hide (show akK ps2 ps2.length ≤ 1048576 by rw [akK_sh hlen2 hsh]; exact unhide HT)
   have HPK := hide hpk2
   have HBL := hide (unhide HK).bel
   have HLN := hide hlen2
   clear hpk2 hlen2 hsh HK HB HZ HT HL HSM
   obtain ⟨LF, hLF⟩ : ∃ l, l = ftL ps2 ps2.length := ⟨_, rfl⟩
   obtain ⟨NF, hNF⟩ : ∃ n, n = LF.length := ⟨_, rfl⟩
   obtain ⟨bv, hbv⟩ : ∃ b, b = decide (LF = []) := ⟨_, rfl⟩
   have hNFl : NF ≤ 1099511627776 := by
    rw [hNF, hLF]
    have := ftL_all (unhide HSM2) (Nat.le_refl ps2.length)
    omega
   have CF0 := hide (show ∀ X, RowKit.Below w1.heap.size w1 X → Calls Tryz.prog 8 #[.slice (some ⟨L, 0, none⟩) ps.length (ps.length + 1)] X fun e w' => ∃ r, e = .returned r ∧ w'.ownsRow X.heap.size 31 6 r NF (ftC LF) ∧ RowKit.Below X.heap.size X w' from fun X hX => by
    rw [hNF, hLF]
    exact rFaults_any (unhide HSM2) ((unhide HPK).later hX))
   have CF1 := hide (show ∀ X, RowKit.Below w1.heap.size w1 X → Calls Tryz.prog 9 #[.slice (some ⟨L, 0, none⟩) ps.length (ps.length + 1)] X fun e w' => ∃ r, e = .returned r ∧ w'.ownsRow X.heap.size 31 6 r NF (ftC LF) ∧ RowKit.Below X.heap.size X w' from fun X hX => by
    rw [hNF, hLF]
    exact Faults_any (unhide HSM2) ((unhide HPK).later hX))
   have CV0 := hide (show ∀ X, RowKit.Below w1.heap.size w1 X → Calls Tryz.prog 32 #[.slice (some ⟨L, 0, none⟩) ps.length (ps.length + 1)] X fun e w' => e = .returned (.bool bv) ∧ RowKit.Below X.heap.size X w' from fun X hX => by
    rw [hbv, hLF]
    exact rValid_any (unhide HSM2) ((unhide HPK).later hX))
   have CV1 := hide (show ∀ X, RowKit.Below w1.heap.size w1 X → Calls Tryz.prog 11 #[.slice (some ⟨L, 0, none⟩) ps.length (ps.length + 1)] X fun e w' => e = .returned (.bool bv) ∧ RowKit.Below X.heap.size X w' from fun X hX => by
    refine (Valid_any (unhide HSM2) ((unhide HPK).later hX)).mono ?_
    rintro e w' ⟨b, rfl, hb, hbl⟩
    have e2 : b = bv := by
     rw [hbv, hLF, Bool.eq_iff_iff, hb, decide_eq_true_iff, ftL_nil2]
    rw [e2]
    exact ⟨rfl, hbl⟩)
   have hbn : (bv != bv) = false := by simp
   clear hLF hNF hbv
   go_wp2_with (first
    | (go_at_call 8; refine (unhide CF0 w1 (Below.refl _ _)).mono ?_; rintro e y1 ⟨r, rfl, ro1, hv1⟩; obtain ⟨ra1, rc1, rfl⟩ := owns_form ro1; have E1 := hide hv1; have R1 := hide ro1; clear ro1 hv1 CF0)
    | (go_at_call 9; refine (unhide CF1 y1 (unhide E1)).mono ?_; rintro e y2 ⟨r, rfl, ro2, hv2⟩; obtain ⟨ra2, rc2, rfl⟩ := owns_form ro2; have E2 := hide (bl_t (unhide E1) hv2); have R2 := hide (And.intro ro2 hv2); clear ro2 hv2 CF1)
    | (go_at_call 10; refine (sameFaults_yes (row_low (unhide R1) (unhide R2).2) (unhide R2).1 hNFl).mono ?_; rintro e y3 ⟨rfl, hv3⟩; have E3 := hide (bl_t (unhide E2) hv3); clear hv3 R1 R2)
    | (go_at_call 32; refine (unhide CV0 y3 (unhide E3)).mono ?_; rintro e y4 ⟨rfl, hv4⟩; have E4 := hide (bl_t (unhide E3) hv4); clear hv4 CV0)
    | (go_at_call 11; refine (unhide CV1 y4 (unhide E4)).mono ?_; rintro e y5 ⟨rfl, hv5⟩; have E5 := hide (bl_t (unhide E4) hv5); clear hv5 CV1)
    | (go_at_call 14; refine (rClosed_any (unhide HSM2) ((unhide HPK).later (unhide E5))).mono ?_; rintro e y6 ⟨r, inn2, rfl, ro6, hin2, hv6⟩; obtain ⟨ra6, rc6, rfl⟩ := owns_form ro6; have E6 := hide (bl_t (unhide E5) hv6); have R6 := hide ro6; have HIN := hide hin2; clear ro6 hv6 hin2)
    | (go_at_call 15; refine (closed_then (unhide HSM2) (unhide HT2) (unhide HIN) ((unhide HPK).later (unhide E6))).mono ?_; rintro e y7 ⟨r, rfl, ro7, hv7⟩; obtain ⟨ra7, rc7, rfl⟩ := owns_form ro7; have E7 := hide (bl_t (unhide E6) hv7); have R7 := hide (And.intro ro7 hv7); clear ro7 hv7)
    | (go_at_call 18; refine (sameInts_yes (row_low (unhide R6) (unhide R7).2) (unhide R7).1 (by have h1 := plL_len inn2 ps2.length; have h2 := (unhide HSM2).l; omega)).mono ?_; rintro e y8 ⟨rfl, hv8⟩; have E8 := hide (bl_t (unhide E7) hv8); clear hv8 R6 R7))
   have HU0 := hide (Bu.start y8)
   have HPK8 := hide ((unhide HPK).later (unhide E8))
   have HB8 := hide (show RowKit.Below L w y8 from ((unhide HBL).trans ((unhide E8).mono (Nat.le_trans (Nat.le_of_lt hLl) (unhide HBL).size))))
   clear E1 E2 E3 E4 E5 E6 E7 E8 HIN HPK HBL hbn hNFl
   go_loopg [8, 9, 10, 11] ps.length (fun gq nv wv ov iv wr => ∃ i : Nat, iv = .int .i64 i ∧ i ≤ ps.length ∧ ps.length - i ≤ gq ∧ Hid (Bu y8 wr nv wv ov i i i))
   case atStart => exact ⟨0, by go_num, by omega, by omega, HU0⟩
   case round =>
    clear HU0
    obtain ⟨i, rfl, hi, hg, HU⟩ := hrel
    by_cases hlt : i < ps.length
    ·have hlt2 : (i : Int) < (ps.length : Int) := by omega
     obtain ⟨q, hq⟩ : ∃ q, ps2[i]? = some q := ⟨_, List.getElem?_eq_getElem (by have := unhide HLN; omega)⟩
     have hsz := ((unhide HSM2).z q (List.mem_of_getElem? hq)).1
     have NM := hide (show ∀ X, RowKit.Below y8.heap.size y8 X → X.cell? ⟨L, i * 43, none⟩ = some (.string q.nm) from fun X hX => by
      obtain ⟨vb, vo, vc, cs, d, r, c, pv, f, e, _, hr, hpc, _⟩ := ((unhide HPK8).later hX).at2 hq
      injection e with e1 e2 e3
      injection e1 with e1
      injection e1 with e1 e4 e5
      subst e1 e4
      have := hr 0 _ hpc.c0
      rw [Nat.zero_add, Nat.add_zero] at this
      exact this)
     have c0 := unhide NM wr (unhide HU).bel
     have h57 : ByteArray.size ⟨#[57]⟩ ≤ maxLen := by decide
     obtain ⟨v1, x1, hr1, hu1⟩ := (unhide HU).putN q.nm hsz (by omega) 40
     have c1 := unhide NM x1 hu1.bel
     obtain ⟨v2, x2, hr2, hu2⟩ := hu1.putW ⟨(i : Int).tmod 2, q.nm, 3, ⟨#[57]⟩⟩ ⟨hsz, h57⟩ (by omega) 71
     have c2 := unhide NM x2 hu2.bel
     obtain ⟨v3, x3, hr3, hu3⟩ := hu2.putK (q.nm, ⟨#[57]⟩) ⟨hsz, h57⟩ (by omega) 33
     have HU3 := hide hu3
     clear hu1 hu2 hu3 hq hsz NM HU h57
     simp only at hr2 hr3
     go_upto_region 29 with (first | (at_builtin; refine wpl_append_run rfl _ _ 40 rfl _ _ rfl rfl hr1 ?_))
     clear hr1 c0
     go_upto_region 30 with (first | (at_builtin; go_must (refine wpl_append_run rfl _ _ 71 rfl _ _ rfl rfl hr2 ?_)))
     clear hr2 c1
     go_wp2_with (first | (at_builtin; refine wpl_append_run rfl _ _ 33 rfl _ _ rfl rfl hr3 ?_))
     go_roundg (ps.length - (i + 1))
     case measure => omega
     case rel => exact ⟨i + 1, by go_num, by omega, by omega, HU3⟩
    ·obtain rfl : i = ps.length := by omega
     obtain ⟨wA, rfl⟩ : ∃ x, x = wr := ⟨_, rfl⟩
     obtain ⟨hs, e0, r0, k0⟩ := (unhide HU).nm
     obtain ⟨ws, e1, r1, k1⟩ := (unhide HU).wi
     obtain ⟨ks, e2, r2, k2⟩ := (unhide HU).ou
     obtain ⟨na, nc, hna⟩ := owns_form r0
     obtain ⟨wa, wc, hwa⟩ := owns_form r1
     obtain ⟨oa, oc, hoa⟩ := owns_form r2
     have HPA := hide ((unhide HPK8).later (unhide HU).bel)
     have HBA := hide (show RowKit.Below L w wA from ((unhide HB8).trans ((unhide HU).bel.mono (Nat.le_trans (Nat.le_of_lt hLl) (unhide HB8).size))))
     obtain ⟨xs, hxs, hsim⟩ := sim_of (unhide HPA) (fun p hp => ((unhide HSM2).z p hp).2.1)
     rw [hna] at r0
     rw [hwa] at r1
     rw [hoa] at r2
     have HM := hide (show ∀ i, i < ps.length → ∃ g K, na = some ⟨g, 0, none⟩ ∧ ∃ b1 b2 : Bool, ∀ X, RowKit.Below wA.heap.size wA X → X.cell? ⟨g, i, none⟩ = some (.slice (some ⟨K, 0, none⟩) 2 2) ∧
      Calls Tryz.prog 33 #[.slice (some ⟨L, 0, none⟩) ps.length (ps.length + 1), .int .i64 (i : Int), .slice (some ⟨K, 0, none⟩) 2 2, .bool true] X (fun e w' => e = .returned (.bool b1) ∧ RowKit.Below X.heap.size X w') ∧
      Calls Tryz.prog 34 #[.slice (some ⟨L, 0, none⟩) ps.length (ps.length + 1), .int .i64 (i : Int), .slice (some ⟨K, 0, none⟩) 2 2, .bool true] X (fun e w' => e = .returned (.bool b1) ∧ RowKit.Below X.heap.size X w') ∧
      Calls Tryz.prog 33 #[.slice (some ⟨L, 0, none⟩) ps.length (ps.length + 1), .int .i64 (i : Int), .slice (some ⟨K, 0, none⟩) 2 2, .bool false] X (fun e w' => e = .returned (.bool b2) ∧ RowKit.Below X.heap.size X w') ∧
      Calls Tryz.prog 34 #[.slice (some ⟨L, 0, none⟩) ps.length (ps.length + 1), .int .i64 (i : Int), .slice (some ⟨K, 0, none⟩) 2 2, .bool false] X (fun e w' => e = .returned (.bool b2) ∧ RowKit.Below X.heap.size X w') from fun i hi => by
      have hK : hs[i]? = some hs[i] := List.getElem?_eq_getElem (by omega)
      obtain ⟨q1, q2, q3, q4, s, q5, q6⟩ := k0 _ (List.mem_of_getElem? hK)
      generalize hs[i] = K at *
      rcases r0.2 with ⟨e, _⟩ | ⟨g, cap, cur, e, hg, _⟩
      ·injection e with _ e _
       omega
      ·injection e with e1' _ e3'
       have hcell : wA.cell? ⟨g, i, none⟩ = some (.slice (some ⟨K, 0, none⟩) 2 2) := by
        subst e1'
        subst e3'
        rw [r0.cellAt i (by omega), List.getElem?_map, hK]
        rfl
       have hgl : g < wA.heap.size := World.block_lt_of_cell? _ _ hcell
       have hats : ∀ X, RowKit.Below wA.heap.size wA X → Ats X (.slice (some ⟨K, 0, none⟩) 2 2) [⟨s, 0, ⟨#[]⟩⟩, ⟨⟨#[122, 122]⟩, 0, ⟨#[]⟩⟩] := fun X hX => by
        have hb : X.heap[K]? = _ := (hX.block K q1).trans q6
        refine ⟨some ⟨K, 0, none⟩, 2, rfl, by simp, fun j hj => ⟨K, 0, rfl, Nat.lt_of_lt_of_le q1 hX.size, ?_⟩⟩
        have hj2 : j = 0 ∨ j = 1 := by simp at hj; omega
        rcases hj2 with rfl | rfl
        ·exact ⟨(cell_blk hb 0).1, (cell_blk hb 1).1, (cell_blk hb 2).1⟩
        ·exact ⟨(cell_blk hb 3).1, (cell_blk hb 4).1, (cell_blk hb 5).1⟩
       have hz2 : ∀ j (h : j < [(⟨s, 0, ⟨#[]⟩⟩ : At), ⟨⟨#[122, 122]⟩, 0, ⟨#[]⟩⟩].length), [(⟨s, 0, ⟨#[]⟩⟩ : At), ⟨⟨#[122, 122]⟩, 0, ⟨#[]⟩⟩][j].v.size ≤ maxLen := fun j hj => by
        have hj2 : j = 0 ∨ j = 1 := by simp at hj; omega
        rcases hj2 with rfl | rfl
        ·exact Nat.zero_le _
        ·exact Nat.zero_le _
       have hxl : xs.length ≤ 4611686018427387904 := by rw [hsim.1]; have := (unhide HSM2).l; omega
       refine ⟨g, K, e1', metA xs (i : Int) true _, metA xs (i : Int) false _, fun X hX => ⟨(hX.cell (p := ⟨g, i, none⟩) hgl).trans hcell, rMet_any xs (i : Int) true _ _ _ X hxl hz2 (hxs.later hX) (hats X hX), Met_any xs (i : Int) true _ _ _ X hxl hz2 (hxs.later hX) (hats X hX), rMet_any xs (i : Int) false _ _ _ X hxl hz2 (hxs.later hX) (hats X hX), Met_any xs (i : Int) false _ _ _ X hxl hz2 (hxs.later hX) (hats X hX)⟩⟩)
     have hocap : ps.length ≤ oc := by
      rcases r2.2 with ⟨e, q⟩ | ⟨g, cap, cur, e, _, _, q, _⟩
      ·omega
      ·injection e with _ _ e
       omega
     have HWI := hide (show Wis wA wa ws from fun h0 => by
      rcases r1.2 with ⟨e, q⟩ | ⟨g, cap, cur, e, hg, _⟩
      ·omega
      ·injection e with e1' _ e3'
       subst e1'
       subst e3'
       refine ⟨g, 0, rfl, (World.ownsRow.lt r1 g rfl).2, fun i x hx j u hj => ?_⟩
       have hjl : j < 4 := (List.getElem?_eq_some_iff.1 hj).1
       have hil := (List.getElem?_eq_some_iff.1 hx).1
       have hg2 := flat_get 4 (by omega) (ws.map Wd.cs) (fun r hr => by obtain ⟨y, _, rfl⟩ := List.mem_map.1 hr; rfl) (i * 4 + j)
       rw [Nat.zero_add, r1.cellAt (i * 4 + j) (by omega)]
       unfold wiC
       rw [hg2, show (i * 4 + j) / 4 = i by omega, show (i * 4 + j) % 4 = j by omega, List.getElem?_map, hx]
       exact hj)
     have HSK := hide (show SmK ps2 from ⟨by have := (unhide HSM2).l; omega, by have := (unhide HSM2).t; omega, (unhide HSM2).z⟩)
     obtain ⟨UU, hUU⟩ : ∃ u, u = unK ps2 ws := ⟨_, rfl⟩
     obtain ⟨MU, hMU⟩ : ∃ m, m = UU.length := ⟨_, rfl⟩
     have hMUl : MU ≤ 1099511627776 := by
      rw [hMU, hUU]
      have := unK_len ps2 ws
      omega
     have CU0 := hide (show ∀ X, RowKit.Below wA.heap.size wA X → Calls Tryz.prog 35 #[.slice (some ⟨L, 0, none⟩) ps.length (ps.length + 1), .slice wa ps.length wc] X fun e w' => ∃ r, e = .returned r ∧ w'.ownsRow X.heap.size 3 1 r MU (ints UU) ∧ RowKit.Below X.heap.size X w' from fun X hX => by
      have := (un_two (unhide HPA) (unhide HSK) X hX wc ((unhide HWI).later hX) k1 (by omega)).2
      rw [e1] at this
      rw [hMU, hUU]
      exact this)
     have CU1 := hide (show ∀ X, RowKit.Below wA.heap.size wA X → Calls Tryz.prog 36 #[.slice (some ⟨L, 0, none⟩) ps.length (ps.length + 1), .slice wa ps.length wc] X fun e w' => ∃ r, e = .returned r ∧ w'.ownsRow X.heap.size 3 1 r MU (ints UU) ∧ RowKit.Below X.heap.size X w' from fun X hX => by
      have := (un_two (unhide HPA) (unhide HSK) X hX wc ((unhide HWI).later hX) k1 (by omega)).1
      rw [e1] at this
      rw [hMU, hUU]
      exact this)
     obtain ⟨H, hHd⟩ : ∃ H, H = ps.length / 2 := ⟨_, rfl⟩
     have hH : (ps.length : Int).tdiv 2 = (H : Int) := by
      rw [Int.tdiv_eq_ediv_of_nonneg (by omega)]
      omega
     have HKY := hide (show Kyl wA (.slice oa H oc) (ks.take H) from by
      obtain ⟨a', c', h1, h2⟩ := row_kyl2 r2 e2.symm
      injection h1 with h1 h3 h4
      subst h1
      refine ⟨_, _, by rw [List.length_take]; congr 1; omega, fun i x hx => h2 i x ?_⟩
      have hil := (List.getElem?_eq_some_iff.1 hx).1
      rw [List.length_take] at hil
      rw [List.getElem?_take_of_lt (by omega)] at hx
      exact hx)
     obtain ⟨L3, hL3, cB3, cR3⟩ := breaks_all (unhide HSM2) (show (ks.take H).length ≤ 1048576 by rw [List.length_take]; omega) (fun x hx => k2 x (List.mem_of_mem_take hx))
     obtain ⟨ML3, hML3⟩ : ∃ n, n = L3.length := ⟨_, rfl⟩
     have CB0 := hide (show ∀ X, RowKit.Below wA.heap.size wA X → Calls Tryz.prog 17 #[.slice (some ⟨L, 0, none⟩) ps.length (ps.length + 1), .slice oa H oc] X fun e w' => ∃ r, e = .returned r ∧ w'.ownsRow X.heap.size 29 2 r ML3 (kyC L3) ∧ RowKit.Below X.heap.size X w' from fun X hX => by
      rw [hML3]
      exact cR3 X _ _ ((unhide HPA).later hX) ((unhide HKY).later hX))
     have CB1 := hide (show ∀ X, RowKit.Below wA.heap.size wA X → Calls Tryz.prog 16 #[.slice (some ⟨L, 0, none⟩) ps.length (ps.length + 1), .slice oa H oc] X fun e w' => ∃ r, e = .returned r ∧ w'.ownsRow X.heap.size 29 2 r ML3 (kyC L3) ∧ RowKit.Below X.heap.size X w' from fun X hX => by
      rw [hML3]
      exact cB3 X _ _ ((unhide HPA).later hX) ((unhide HKY).later hX))
     have CQ := hide (show ∀ X (a : Option Addr) (c : Nat) (lo : Nat) (a' : Option Addr) (c' : Nat) (lo' : Nat), X.ownsRow lo 29 2 (.slice a ML3 c) ML3 (kyC L3) → X.ownsRow lo' 29 2 (.slice a' ML3 c') ML3 (kyC L3) → Calls Tryz.prog 19 #[.slice a ML3 c, .slice a' ML3 c'] X fun e w' => e = .returned (.bool true) ∧ RowKit.Below X.heap.size X w' from fun X a c lo a' c' lo' h1 h2 => sameKeys_yes (l := L3) (row_kyl2 h1 hML3) (row_kyl2 h2 hML3) hL3)
     have hwr : IntKind.i64.wrap (H : Int) = (H : Int) := IntWalk.i64_in _ (by omega)
     have hH0 : (0 : Int) ≤ (H : Int) := by omega
     have hH1 : (H : Int) ≤ (oc : Int) := by omega
     have hH2 : H ≤ oc := by omega
     have HBB := hide (Below.refl wA.heap.size wA)
     subst hna hwa hoa
     clear HU r0 r1 r2 k0 k1 k2 e0 e1 e2 hxs hsim HPK8 HB8 HSM2 HT2 HPA HWI HSK HKY hL3 cB3 cR3 hML3 hMU hUU hHd hocap
     go_wp2_with fail
     go_loopg [12] ps.length (fun gq iv wr => ∃ i : Nat, iv = .int .i64 i ∧ i ≤ ps.length ∧ ps.length - i ≤ gq ∧ Hid (RowKit.Below wA.heap.size wA wr))
     case atStart => exact ⟨0, by go_num, by omega, by omega, HBB⟩
     case round =>
      clear HBB
      obtain ⟨i, rfl, hi, hg, HBW⟩ := hrel
      by_cases hlt : i < ps.length
      ·have hlt2 : (i : Int) < (ps.length : Int) := by omega
       obtain ⟨g, K, rfl, b1, b2, hall⟩ := unhide HM i hlt
       have MS := hide (fun (X : World) (hX : RowKit.Below wA.heap.size wA X) => (hall X hX).1)
       have M0 := hide (fun (X : World) (hX : RowKit.Below wA.heap.size wA X) => (hall X hX).2.1)
       have M1 := hide (fun (X : World) (hX : RowKit.Below wA.heap.size wA X) => (hall X hX).2.2.1)
       have M2 := hide (fun (X : World) (hX : RowKit.Below wA.heap.size wA X) => (hall X hX).2.2.2.1)
       have M3 := hide (fun (X : World) (hX : RowKit.Below wA.heap.size wA X) => (hall X hX).2.2.2.2)
       have E0 := hide (bl_t (unhide HBW) (Below.refl _ wr).drew)
       have hb1 : (b1 != b1) = false := by simp
       have hb2 : (b2 != b2) = false := by simp
       clear hall
       go_wp2_with fail
       refine wp_region_held_drew (S := fun w' => w'.cell? ⟨g, i, none⟩ = some (.slice (some ⟨K, 0, none⟩) 2 2)) (by kernel_rfl) ?_ (fun hHeld => ?_)
       ·exact unhide MS _ (unhide E0)
       refine tk2 0 (⟨some 157, .move (.tmp 0), 22, "law.go:210", #[], none⟩) ?_
       refine tk2 1 (⟨some 158, .move (.tmp 12), 3, "law.go:210", #[], none⟩) ?_
       refine tk2 2 (⟨some 159, .move (.tmp 8), 40, "law.go:210", #[], none⟩) ?_
       refine tk2 3 (⟨some 160, .move (.tmp 12), 3, "law.go:210", #[], none⟩) ?_
       refine tk2 4 (⟨some 161, .indexAddr 40 (.tmp 159) (.tmp 160), 0, "law.go:210", #[⟨2, .data⟩, ⟨3, .data⟩], none⟩) ?_
       refine tk2 5 (⟨some 162, .load 49 (.tmp 161), 49, "law.go:210", #[⟨4, .data⟩], none⟩) ?_
       refine tk2 7 (⟨some 164, .move (.tmp 0), 22, "law.go:210", #[], none⟩) ?_
       refine tk2 8 (⟨some 165, .move (.tmp 12), 3, "law.go:210", #[], none⟩) ?_
       refine tk2 9 (⟨some 166, .move (.tmp 8), 40, "law.go:210", #[], none⟩) ?_
       refine tk2 10 (⟨some 167, .move (.tmp 12), 3, "law.go:210", #[], none⟩) ?_
       refine tk2 11 (⟨some 168, .indexAddr 40 (.tmp 166) (.tmp 167), 0, "law.go:210", #[⟨9, .data⟩, ⟨10, .data⟩], none⟩) ?_
       refine tk2 12 (⟨some 169, .load 49 (.tmp 168), 49, "law.go:210", #[⟨11, .data⟩], none⟩) ?_
       refine wpAnyH_ready (rs := [6]) (by kernel_rfl) (by simp) ?_
       refine AllReadyH.cons (o := ⟨some 163, .call { callee := .value (.func 33), args := #[.tmp 157, .tmp 158, .tmp 162, .const (Value.bool true)], argTypes := #[22, 3, 49, 4] }, 4, "law.go:210", #[⟨0, .data⟩, ⟨1, .data⟩, ⟨5, .data⟩], none⟩) rfl (fun K hK => ?_) AllReadyH.nil
       go_simp
       refine (unhide M0 _ (unhide E0)).mono ?_
       rintro e y1 ⟨rfl, hv1⟩
       have E1 := hide (bl_t (unhide E0) hv1)
       clear hv1
       go_wp2_with fail
       refine hK.out _ _ (unhide MS _ (unhide E1)) (fun hHeld => ?_)
       clear hK K
       try simp only [Act.put, sqB, sq0, sq1]
       refine wpAnyH_ready (rs := [13]) (by kernel_rfl) (by simp) ?_
       refine AllReadyH.cons (o := ⟨some 170, .call { callee := .value (.func 34), args := #[.tmp 164, .tmp 165, .tmp 169, .const (Value.bool true)], argTypes := #[22, 3, 49, 4] }, 4, "law.go:210", #[⟨7, .data⟩, ⟨8, .data⟩, ⟨12, .data⟩, ⟨6, .chain⟩], none⟩) rfl (fun K hK => ?_) AllReadyH.nil
       go_simp
       refine (unhide M1 _ (unhide E1)).mono ?_
       rintro e y2 ⟨rfl, hv2⟩
       have E2 := hide (bl_t (unhide E1) hv2)
       clear hv2
       go_wp2_with fail
       refine hK.out _ _ (unhide MS _ (unhide E2)) (fun hHeld => ?_)
       clear hK K
       try simp only [Act.put, sqB, sq0, sq1]
       refine tk2 14 (⟨some 171, .binOp .neq 4 (.tmp 163) (.tmp 170) 4, 4, "law.go:210", #[⟨6, .data⟩, ⟨13, .data⟩], none⟩) ?_
       refine tk2 15 (⟨some 172, .move (.tmp 171), 4, "law.go:210", #[⟨14, .data⟩, ⟨13, .chain⟩], none⟩) ?_
       refine tk2 16 (⟨some 173, .move (.tmp 0), 22, "law.go:210", #[⟨15, .guard⟩], some (15, false)⟩) ?_
       refine tk2 17 (⟨some 174, .move (.tmp 12), 3, "law.go:210", #[⟨15, .guard⟩], some (15, false)⟩) ?_
       refine tk2 18 (⟨some 175, .move (.tmp 8), 40, "law.go:210", #[⟨15, .guard⟩], some (15, false)⟩) ?_
       refine tk2 19 (⟨some 176, .move (.tmp 12), 3, "law.go:210", #[⟨15, .guard⟩], some (15, false)⟩) ?_
       refine tk2 20 (⟨some 177, .indexAddr 40 (.tmp 175) (.tmp 176), 0, "law.go:210", #[⟨18, .data⟩, ⟨19, .data⟩, ⟨15, .guard⟩], some (15, false)⟩) ?_
       refine tk2 21 (⟨some 178, .load 49 (.tmp 177), 49, "law.go:210", #[⟨20, .data⟩, ⟨15, .guard⟩], some (15, false)⟩) ?_
       refine tk2 23 (⟨some 180, .move (.tmp 0), 22, "law.go:210", #[⟨15, .guard⟩], some (15, false)⟩) ?_
       refine tk2 24 (⟨some 181, .move (.tmp 12), 3, "law.go:210", #[⟨15, .guard⟩], some (15, false)⟩) ?_
       refine tk2 25 (⟨some 182, .move (.tmp 8), 40, "law.go:210", #[⟨15, .guard⟩], some (15, false)⟩) ?_
       refine tk2 26 (⟨some 183, .move (.tmp 12), 3, "law.go:210", #[⟨15, .guard⟩], some (15, false)⟩) ?_
       refine tk2 27 (⟨some 184, .indexAddr 40 (.tmp 182) (.tmp 183), 0, "law.go:210", #[⟨25, .data⟩, ⟨26, .data⟩, ⟨15, .guard⟩], some (15, false)⟩) ?_
       refine tk2 28 (⟨some 185, .load 49 (.tmp 184), 49, "law.go:210", #[⟨27, .data⟩, ⟨15, .guard⟩], some (15, false)⟩) ?_
       refine wpAnyH_ready (rs := [22]) (by kernel_rfl) (by simp) ?_
       refine AllReadyH.cons (o := ⟨some 179, .call { callee := .value (.func 33), args := #[.tmp 173, .tmp 174, .tmp 178, .const (Value.bool false)], argTypes := #[22, 3, 49, 4] }, 4, "law.go:210", #[⟨16, .data⟩, ⟨17, .data⟩, ⟨21, .data⟩, ⟨15, .chain⟩, ⟨15, .guard⟩], some (15, false)⟩) rfl (fun K hK => ?_) AllReadyH.nil
       go_simp
       refine (unhide M2 _ (unhide E2)).mono ?_
       rintro e y3 ⟨rfl, hv3⟩
       have E3 := hide (bl_t (unhide E2) hv3)
       clear hv3
       go_wp2_with fail
       refine hK.out _ _ (unhide MS _ (unhide E3)) (fun hHeld => ?_)
       clear hK K
       try simp only [Act.put, sqB, sq0, sq1]
       refine wpAnyH_ready (rs := [29]) (by kernel_rfl) (by simp) ?_
       refine AllReadyH.cons (o := ⟨some 186, .call { callee := .value (.func 34), args := #[.tmp 180, .tmp 181, .tmp 185, .const (Value.bool false)], argTypes := #[22, 3, 49, 4] }, 4, "law.go:210", #[⟨23, .data⟩, ⟨24, .data⟩, ⟨28, .data⟩, ⟨22, .chain⟩, ⟨15, .guard⟩], some (15, false)⟩) rfl (fun K hK => ?_) AllReadyH.nil
       go_simp
       refine (unhide M3 _ (unhide E3)).mono ?_
       rintro e y4 ⟨rfl, hv4⟩
       have E4 := hide (bl_t (unhide E3) hv4)
       clear hv4
       go_wp2_with fail
       refine hK.out _ _ (unhide MS _ (unhide E4)) (fun hHeld => ?_)
       clear hK K
       try simp only [Act.put, sqB, sq0, sq1]
       refine tk2 30 (⟨some 187, .binOp .neq 4 (.tmp 179) (.tmp 186) 4, 4, "law.go:210", #[⟨22, .data⟩, ⟨29, .data⟩, ⟨15, .guard⟩], some (15, false)⟩) ?_
       refine tk2 31 (⟨some 188, .pick (.tmp 172) (.const (Value.bool true)) (.tmp 187), 4, "law.go:210", #[⟨15, .data⟩, ⟨30, .data⟩], none⟩) ?_
       refine wpAnyH_done (by kernel_rfl) ?_ _
       go_wp2_with fail
       go_roundg (ps.length - (i + 1))
       case measure => omega
       case rel => exact ⟨i + 1, by go_num, by omega, by omega, E4⟩
      ·obtain rfl : i = ps.length := by omega
       have E0 := hide (bl_t (unhide HBW) (Below.refl _ wr).drew)
       clear HM
       go_wp2_with fail
       refine wp_region_held_drew (S := fun _ => True) (by kernel_rfl) ?_ (fun hHeld => ?_)
       ·exact trivial
       refine tk2 0 (⟨some 189, .move (.tmp 0), 22, "law.go:214", #[], none⟩) ?_
       refine tk2 1 (⟨some 190, .move (.tmp 9), 71, "law.go:214", #[], none⟩) ?_
       refine tk2 3 (⟨some 192, .move (.tmp 0), 22, "law.go:214", #[], none⟩) ?_
       refine tk2 4 (⟨some 193, .move (.tmp 9), 71, "law.go:214", #[], none⟩) ?_
       refine wpAnyH_ready (rs := [2]) (by kernel_rfl) (by simp) ?_
       refine AllReadyH.cons (o := ⟨some 191, .call { callee := .value (.func 35), args := #[.tmp 189, .tmp 190], argTypes := #[22, 71] }, 34, "law.go:214", #[⟨0, .data⟩, ⟨1, .data⟩], none⟩) rfl (fun K hK => ?_) AllReadyH.nil
       go_simp
       refine (unhide CU0 _ (unhide E0)).mono ?_
       rintro e y1 ⟨r, rfl, ro1, hv1⟩
       obtain ⟨ra1, rc1, rfl⟩ := owns_form ro1
       have E1 := hide (bl_t (unhide E0) hv1)
       have RR1 := hide (And.intro ro1 hv1)
       clear ro1 hv1
       go_wp2_with fail
       refine hK.out _ _ trivial (fun hHeld => ?_)
       clear hK K
       try simp only [Act.put, sqB, sq0, sq1]
       refine wpAnyH_ready (rs := [5]) (by kernel_rfl) (by simp) ?_
       refine AllReadyH.cons (o := ⟨some 194, .call { callee := .value (.func 36), args := #[.tmp 192, .tmp 193], argTypes := #[22, 71] }, 34, "law.go:214", #[⟨3, .data⟩, ⟨4, .data⟩, ⟨2, .chain⟩], none⟩) rfl (fun K hK => ?_) AllReadyH.nil
       go_simp
       refine (unhide CU1 _ (unhide E1)).mono ?_
       rintro e y2 ⟨r, rfl, ro2, hv2⟩
       obtain ⟨ra2, rc2, rfl⟩ := owns_form ro2
       have E2 := hide (bl_t (unhide E1) hv2)
       have RR2 := hide (And.intro ro2 hv2)
       clear ro2 hv2
       go_wp2_with fail
       refine hK.out _ _ trivial (fun hHeld => ?_)
       clear hK K
       try simp only [Act.put, sqB, sq0, sq1]
       refine wpAnyH_ready (rs := [6]) (by kernel_rfl) (by simp) ?_
       refine AllReadyH.cons (o := ⟨some 195, .call { callee := .value (.func 18), args := #[.tmp 191, .tmp 194], argTypes := #[34, 34] }, 4, "law.go:214", #[⟨2, .data⟩, ⟨5, .data⟩, ⟨5, .chain⟩], none⟩) rfl (fun K hK => ?_) AllReadyH.nil
       go_simp
       refine (sameInts_yes (row_low (unhide RR1).1 (unhide RR2).2) (unhide RR2).1 hMUl).mono ?_
       rintro e y3 ⟨rfl, hv3⟩
       have E3 := hide (bl_t (unhide E2) hv3)
       clear hv3
       go_wp2_with fail
       refine hK.out _ _ trivial (fun hHeld => ?_)
       clear hK K
       try simp only [Act.put, sqB, sq0, sq1]
       refine tk2 7 (⟨some 196, .move (.tmp 195), 4, "law.go:214", #[⟨6, .data⟩, ⟨6, .chain⟩], none⟩) ?_
       refine tk2 8 (⟨some 197, .move (.tmp 0), 22, "law.go:214", #[⟨7, .guard⟩], some (7, true)⟩) ?_
       refine tk2 9 (⟨some 198, .move (.tmp 10), 33, "law.go:214", #[⟨7, .guard⟩], some (7, true)⟩) ?_
       refine tk2 10 (⟨some 199, .move (.tmp 10), 33, "law.go:214", #[⟨7, .guard⟩], some (7, true)⟩) ?_
       refine tk2 11 (⟨some 200, .call { callee := .builtin Builtin.len, args := #[.tmp 199], argTypes := #[33] }, 3, "law.go:214", #[⟨10, .data⟩, ⟨7, .guard⟩], some (7, true)⟩) ?_
       refine tk2 12 (⟨some 201, .binOp .quo 3 (.tmp 200) (.const (Value.int IntKind.i64 2)) 3, 3, "law.go:214", #[⟨11, .data⟩, ⟨7, .guard⟩], some (7, true)⟩) ?_
       refine tk2 13 (⟨some 202, .slice 33 (.tmp 198) none (some (.tmp 201)) none, 33, "law.go:214", #[⟨9, .data⟩, ⟨12, .data⟩, ⟨7, .guard⟩], some (7, true)⟩) ?_
       refine tk2 15 (⟨some 204, .move (.tmp 0), 22, "law.go:214", #[⟨7, .guard⟩], some (7, true)⟩) ?_
       refine tk2 16 (⟨some 205, .move (.tmp 10), 33, "law.go:214", #[⟨7, .guard⟩], some (7, true)⟩) ?_
       refine tk2 17 (⟨some 206, .move (.tmp 10), 33, "law.go:214", #[⟨7, .guard⟩], some (7, true)⟩) ?_
       refine tk2 18 (⟨some 207, .call { callee := .builtin Builtin.len, args := #[.tmp 206], argTypes := #[33] }, 3, "law.go:214", #[⟨17, .data⟩, ⟨7, .guard⟩], some (7, true)⟩) ?_
       refine tk2 19 (⟨some 208, .binOp .quo 3 (.tmp 207) (.const (Value.int IntKind.i64 2)) 3, 3, "law.go:214", #[⟨18, .data⟩, ⟨7, .guard⟩], some (7, true)⟩) ?_
       refine tk2 20 (⟨some 209, .slice 33 (.tmp 205) none (some (.tmp 208)) none, 33, "law.go:214", #[⟨16, .data⟩, ⟨19, .data⟩, ⟨7, .guard⟩], some (7, true)⟩) ?_
       refine wpAnyH_ready (rs := [14]) (by kernel_rfl) (by simp) ?_
       refine AllReadyH.cons (o := ⟨some 203, .call { callee := .value (.func 17), args := #[.tmp 197, .tmp 202], argTypes := #[22, 33] }, 33, "law.go:214", #[⟨8, .data⟩, ⟨13, .data⟩, ⟨7, .chain⟩, ⟨7, .guard⟩], some (7, true)⟩) rfl (fun K hK => ?_) AllReadyH.nil
       go_simp
       refine (unhide CB0 _ (unhide E3)).mono ?_
       rintro e y4 ⟨r, rfl, ro4, hv4⟩
       obtain ⟨ra4, rc4, rfl⟩ := owns_form ro4
       have E4 := hide (bl_t (unhide E3) hv4)
       have RR4 := hide (And.intro ro4 hv4)
       clear ro4 hv4
       go_wp2_with fail
       refine hK.out _ _ trivial (fun hHeld => ?_)
       clear hK K
       try simp only [Act.put, sqB, sq0, sq1]
       refine wpAnyH_ready (rs := [21]) (by kernel_rfl) (by simp) ?_
       refine AllReadyH.cons (o := ⟨some 210, .call { callee := .value (.func 16), args := #[.tmp 204, .tmp 209], argTypes := #[22, 33] }, 33, "law.go:214", #[⟨15, .data⟩, ⟨20, .data⟩, ⟨14, .chain⟩, ⟨7, .guard⟩], some (7, true)⟩) rfl (fun K hK => ?_) AllReadyH.nil
       go_simp
       refine (unhide CB1 _ (unhide E4)).mono ?_
       rintro e y5 ⟨r, rfl, ro5, hv5⟩
       obtain ⟨ra5, rc5, rfl⟩ := owns_form ro5
       have E5 := hide (bl_t (unhide E4) hv5)
       have RR5 := hide (And.intro ro5 hv5)
       clear ro5 hv5
       go_wp2_with fail
       refine hK.out _ _ trivial (fun hHeld => ?_)
       clear hK K
       try simp only [Act.put, sqB, sq0, sq1]
       refine wpAnyH_ready (rs := [22]) (by kernel_rfl) (by simp) ?_
       refine AllReadyH.cons (o := ⟨some 211, .call { callee := .value (.func 19), args := #[.tmp 203, .tmp 210], argTypes := #[33, 33] }, 4, "law.go:214", #[⟨14, .data⟩, ⟨21, .data⟩, ⟨21, .chain⟩, ⟨7, .guard⟩], some (7, true)⟩) rfl (fun K hK => ?_) AllReadyH.nil
       go_simp
       refine (unhide CQ _ _ _ _ _ _ _ (row_low (unhide RR4).1 (unhide RR5).2) (unhide RR5).1).mono ?_
       rintro e y6 ⟨rfl, hv6⟩
       have E6 := hide (bl_t (unhide E5) hv6)
       clear hv6
       go_wp2_with fail
       refine hK.out _ _ trivial (fun hHeld => ?_)
       clear hK K
       try simp only [Act.put, sqB, sq0, sq1]
       refine tk2 23 (⟨some 212, .pick (.tmp 196) (.tmp 211) (.const (Value.bool false)), 4, "law.go:214", #[⟨7, .data⟩, ⟨22, .data⟩], none⟩) ?_
       refine tk2 24 (⟨some 2, .assign (.tmp 212), 4, "law.go:214", #[⟨23, .data⟩, ⟨22, .chain⟩, ⟨0, .phase⟩, ⟨1, .phase⟩, ⟨2, .phase⟩, ⟨3, .phase⟩, ⟨4, .phase⟩, ⟨5, .phase⟩, ⟨6, .phase⟩, ⟨7, .phase⟩, ⟨8, .phase⟩, ⟨9, .phase⟩, ⟨10, .phase⟩, ⟨11, .phase⟩, ⟨12, .phase⟩, ⟨13, .phase⟩, ⟨14, .phase⟩, ⟨15, .phase⟩, ⟨16, .phase⟩, ⟨17, .phase⟩, ⟨18, .phase⟩, ⟨19, .phase⟩, ⟨20, .phase⟩, ⟨21, .phase⟩, ⟨22, .phase⟩, ⟨23, .phase⟩], none⟩) ?_
       refine wpAnyH_done (by kernel_rfl) ?_ _
       go_wp2_with fail
       go_ret
       exact ⟨rfl, (unhide HBA).trans ((unhide E6).mono (Nat.le_trans (Nat.le_of_lt hLl) (unhide HBA).size))⟩
end Go.Proofs.YtdkpglmdncjnbaaGreatDoor
