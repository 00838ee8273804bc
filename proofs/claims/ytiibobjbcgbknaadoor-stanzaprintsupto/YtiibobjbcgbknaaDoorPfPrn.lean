import Derived.Test.YtiibobjbcgbknaaDoorPrY
import Derived.Test.YtiibobjbcgbknaaDoorLaA
import Derived.Test.YtiibobjbcgbknaaDoorLaT
import Derived.Lib.SlBytesConst
import Derived.Lib.ConvBytes
import Derived.Deep.DeepHandedRow
import Derived.Lib.LaidTab
import Derived.SizedLaws
import Derived.WalkKit
import Derived.ProofKit
import Derived.OpenShut
import Derived.ShutString
import Derived.ChangeOld
import GoSem.PinnedTables
namespace Go.Proofs.YtiibobjbcgbknaaDoor
open Go.RowKit

set_option maxRecDepth 100000 in
set_option maxHeartbeats 8000000 in
theorem prints_walk (ps : List (List Gd)) (v : Value) (w : World) (hs : Sz ps) (hD : DocZ w v ps) :
    Calls Tryd.prog 6 #[v] w fun e w' => e = .returned (.bool true) ∧ Below w.heap.size w w' := by
  obtain ⟨i5, hi5, z5a, z5b, z5c⟩ := info_parts info5
  obtain ⟨va, vc, rfl, -⟩ := id hD
  obtain ⟨hl, hls⟩ := hs.all
  have cA := hide (lentAll_any ps (.slice va ps.length vc) w hl hls hD)
  have cP := hide (fun (W : World) (v : Value) (h : DocZ W v ps) => Print_u ps v W hs h)
  have cR := hide (fun (W : World) (hb : Below w.heap.size w W) => rPrint_u ps va vc W hs (hD.later hb))
  have HDz := hide (fun (W : World) (hb : Below w.heap.size w W) => hD.later hb)
  have hTl := outT_le hs
  have HS := hide hs
  have HLS := hide hls
  obtain ⟨T, hT⟩ : ∃ T, outT (docF ps) = T := ⟨_, rfl⟩
  obtain ⟨M, hM⟩ : ∃ M, outN (docF ps) = M := ⟨_, rfl⟩
  rw [hT] at cP cR hTl
  rw [hM] at cP cR
  clear hD hls hs hT hM
  have G1 := hide True.intro
  go_enter Tryd.func6, Tryd.ntmps6
  go_wp2_with (go_at_call 18; refine (unhide cA).mono ?_; rintro e w1 ⟨lg, lgc, P, F, qs, m1, m2, rfl, hN, hq, hb⟩; obtain ⟨pa, pc, rfl, -, -⟩ := own_cap hN.p; obtain ⟨fa, fc, rfl, -, -⟩ := own_cap hN.f; have HN1 := hide hN; have HQ := hide hq; have HB1 := hide hb; clear hN hq hb cA)
  have hql : qs.length = ps.length := by rw [← unhide HQ]; simp
  rw [hql] at HN1 ⊢
  have HQL := hide hql
  have HX1 := hide (World.alloc_heap_new w1 (.cells #[.slice (some ⟨lg, 0, none⟩) ps.length lgc, .slice pa ps.length pc, .slice fa ps.length fc] 42))
  obtain ⟨W1, hW, k0, k1, k2, q4, hB⟩ := new3z w1 (.slice (some ⟨lg, 0, none⟩) ps.length lgc) (.slice pa ps.length pc) (.slice fa ps.length fc) 42
  rw [hW] at HX1 ⊢
  clear hW
  have HBW1 := hide (bl_t (unhide HB1) hB)
  have HNW1 := hide ((unhide HN1).later hB)
  clear hB HN1 HB1 hql
  have HF := hide (show ∀ W', Below W1.heap.size W1 W' → W'.cell? ⟨w1.heap.size, 0, none⟩ = some (.slice (some ⟨lg, 0, none⟩) ps.length lgc) ∧ W'.cell? ⟨w1.heap.size, 1, none⟩ = some (.slice pa ps.length pc) ∧ W'.cell? ⟨w1.heap.size, 2, none⟩ = some (.slice fa ps.length fc) ∧ Below w.heap.size w W' ∧ DocZ W' (.slice (some ⟨lg, 0, none⟩) ps.length lgc) ps ∧ LN (w.heap.size + 2) W' lg lgc (.slice pa ps.length pc) (.slice fa ps.length fc) qs m1 m2 from fun W' hb => ⟨cell_later k0 hb, cell_later k1 hb, cell_later k2 hb, bl_t (unhide HBW1) hb, (by have h := ((unhide HNW1).later hb).docZ; rw [unhide HQ, unhide HQL] at h; exact h), (unhide HNW1).later hb⟩)
  clear k0 k1 k2
  have G2 := hide True.intro
  go_wp2_with (first | (go_at_call 14; have _u := G1; clear _u G1; refine (unhide cP _ _ (unhide HF W1 (Below.refl _ _)).2.2.2.2.1).mono ?_; rintro e w2 ⟨aa, ac, rfl, ho, hb⟩; have HA := hide ho; have HB2 := hide hb; have x2 := (unhide HF w2 hb).1; clear ho hb) | (go_at_call 19; refine (unhide cR _ (unhide HF w2 (unhide HB2)).2.2.2.1).mono ?_; rintro e w3 ⟨ba', bc, rfl, ho, hb⟩; have HBb := hide ho; have HB3 := hide (bl_t (unhide HB2) hb); have HA3 := hide (ownsRow_bl (unhide HA) hb); have hz23 : w2.heap.size ≤ w3.heap.size := hb.size; have x3 := (unhide HF w3 (unhide HB3)).1; clear ho hb) | (go_at_call 14; have _u := HB3; have _v := G2; clear _u _v G2; refine (unhide cP _ _ (unhide HF w3 (unhide HB3)).2.2.2.2.1).mono ?_; rintro e w4 ⟨ca, cc, rfl, ho, hb⟩; have HC := hide ho; have HB4 := hide (bl_t (unhide HB3) hb); have HA4 := hide (ownsRow_bl (unhide HA3) hb); have HBb4 := hide (show Rb w4 ba' T from (unhide HBb).1.later hb); have x4 := (unhide HF w4 (unhide HB4)).1; have hz34 : w3.heap.size ≤ w4.heap.size := hb.size; clear ho hb))
  obtain ⟨hO5, hB5⟩ := one_doc w4
  generalize (((w4.alloc (.cells #[.string ⟨#[49]⟩, .string ⟨#[121]⟩] 9)).alloc (.cells #[.string ⟨#[88]⟩, .slice (some ⟨w4.heap.size, 0, none⟩) 2 2, .slice none 0 0] 49)).alloc (.cells #[.slice (some ⟨w4.heap.size + 1, 0, none⟩) 1 1] 39)) = W5 at *
  have HO5 := hide hO5
  have HB45 := hide hB5
  have HB5 := hide (bl_t (unhide HB4) hB5)
  clear hO5 hB5
  obtain ⟨D, hDd⟩ : ∃ D : Bs, D = [88, 58, 32, 49, 10, 32, 121, 10] := ⟨_, rfl⟩
  have hD8 : D.length = 8 := by rw [hDd]; rfl
  have cD := hide (fun (W : World) (v : Value) (h : DocZ W v oneP) => (by
    have h2 := Print_u oneP v W one_sz h
    rw [one_out, ← hDd, hD8] at h2
    exact h2 : Calls Tryd.prog 14 #[v] W fun e w' => ∃ qa qc, e = .returned (.tuple #[.slice qa 8 qc, .int .i64 (outN (docF oneP))]) ∧ w'.ownsRow W.heap.size 5 1 (.slice qa 8 qc) 8 (encB D) ∧ Below W.heap.size W w'))
  generalize outN (docF oneP) = M1 at cD
  have HDD := hide hDd
  have HD8 := hide hD8
  clear hDd hD8
  have G3 := hide True.intro
  have G4 := hide True.intro
  go_wp2_with (first | (go_at_call 14; have _u := G3; clear _u G3; refine (unhide cD _ _ (unhide HO5)).mono ?_; rintro e w6 ⟨da, dc, rfl, ho, hb⟩; have HDd := hide ho; have HB6 := hide (bl_t (unhide HB5) hb); have HB46 := hide (bl_t (unhide HB45) hb); have x6 := (unhide HF w6 (unhide HB6)).1; clear ho hb) | (go_at_call 14; have _u := HB6; have _v := G4; clear _u _v G4; refine (unhide cP _ _ (unhide HF w6 (unhide HB6)).2.2.2.2.1).mono ?_; rintro e w7 ⟨ga, gc, rfl, ho, hb⟩; have HG := hide ho; have HB7 := hide (bl_t (unhide HB6) hb); have HB47 := hide (bl_t (unhide HB46) hb); have HB67 := hide hb; clear ho hb))
  have HR7 := hide (show ∀ W', Below w7.heap.size w7 W' → Rb W' aa T ∧ Rb W' ba' T ∧ Rb W' ca T ∧ Rb W' da D ∧ Rb W' ga T from fun W' hb => ⟨(Rb.of_owns (unhide HA4)).2.later (bl_t (unhide HB47) hb), (unhide HBb4).later (bl_t (unhide HB47) hb), (Rb.of_owns (unhide HC)).2.later (bl_t (unhide HB47) hb), (Rb.of_owns (t := D) (by rw [unhide HD8]; exact unhide HDd)).2.later (bl_t (unhide HB67) hb), (Rb.of_owns (unhide HG)).2.later hb⟩)
  have kc := fun (w : World) (C : Array Value) (n c : Nat) => Lib.run_convert_bytes_const (P := Tryd.prog) w 22 5 C n c Tryd.underlying22 Tryd.underlying5
  have Ga := hide True.intro
  have Gb := hide True.intro
  go_wp2_with (first | (go_at_call 20; have _u := Ga; clear _u Ga; refine (same_yes T _ _ _ _ w7 (by omega) (unhide HR7 w7 (Below.refl _ _)).1 (unhide HR7 w7 (Below.refl _ _)).2.1).mono ?_; rintro e w8 ⟨rfl, hb⟩; have HB78 := hide hb; clear hb) | (go_at_call 21; refine (num3_any _ _).mono ?_; rintro e w' ⟨rfl, rfl⟩) | (go_at_call 20; have _u := HB78; have _v := Gb; clear _u _v Gb; refine (same_yes T _ _ _ _ w8 (by omega) (unhide HR7 w8 (unhide HB78)).2.2.1 (unhide HR7 w8 (unhide HB78)).2.1).mono ?_; rintro e w9 ⟨rfl, hb⟩; have HB79 := hide (bl_t (unhide HB78) hb); clear hb))
  have hc10 := World.alloc_heap_new w9 (.cells #[.int .u8 88, .int .u8 58, .int .u8 32, .int .u8 49, .int .u8 10, .int .u8 32, .int .u8 121, .int .u8 10] 5 (8, 9))
  have hb10 := (Below.refl w9.heap.size w9).alloc (Nat.le_refl _) (.cells #[.int .u8 88, .int .u8 58, .int .u8 32, .int .u8 49, .int .u8 10, .int .u8 32, .int .u8 121, .int .u8 10] 5 (8, 9))
  generalize w9.alloc (.cells #[.int .u8 88, .int .u8 58, .int .u8 32, .int .u8 49, .int .u8 10, .int .u8 32, .int .u8 121, .int .u8 10] 5 (8, 9)) = W10 at *
  have HB7A := hide (bl_t (unhide HB79) hb10)
  have cE := hide (by
    have h := same_yes D da (some ⟨w9.heap.size, 0, none⟩) dc 8 W10 (by rw [unhide HD8]; decide) (unhide HR7 W10 (unhide HB7A)).2.2.2.1 (rb_blkz hc10 (by rw [unhide HDD]; rfl))
    rw [unhide HD8] at h
    exact h : Calls Tryd.prog 20 #[.slice da 8 dc, .slice (some ⟨w9.heap.size, 0, none⟩) 8 8] W10 fun e w' => e = .returned (.bool true) ∧ Below W10.heap.size W10 w')
  clear hc10 hb10 kc HB78 HB79
  have Gc := hide True.intro
  have Gd' := hide True.intro
  go_wp2_with (first | (go_at_call 20; have _u := Gc; clear _u Gc; refine (unhide cE).mono ?_; rintro e w11 ⟨rfl, hb⟩; have HB7B := hide (bl_t (unhide HB7A) hb); clear hb cE) | (go_at_call 20; have _u := HB7B; have _v := Gd'; clear _u _v Gd'; refine (same_yes T _ _ _ _ w11 (by omega) (unhide HR7 w11 (unhide HB7B)).2.2.2.2 (unhide HR7 w11 (unhide HB7B)).2.1).mono ?_; rintro e w12 ⟨rfl, hb⟩; have HB7C := hide (bl_t (unhide HB7B) hb); have HB12 := hide (bl_t (unhide HB7) (unhide HB7C)); obtain ⟨y0, y1, y2, _⟩ := unhide HF w12 (unhide HB12); clear hb) | (go_at_call 22; refine (stayed_any (w.heap.size + 2) qs ps _ w12 lg lgc _ _ m1 m2 hl (unhide HLS) (unhide HQ) (unhide HF w12 (unhide HB12)).2.2.2.2.2 (unhide HDz w12 (unhide HF w12 (unhide HB12)).2.2.2.1)).mono ?_; rintro e w13 ⟨rfl, hb⟩; have HB7D := hide (bl_t (unhide HB7C) hb); have HB13 := hide (bl_t (unhide HB12) hb); clear hb y0 y1 y2))
  clear x2 x3 x4 x6 HB7A HB7B HB7C HB12 HBW1
  go_loopw [15] (fun iv wr => ∃ (i : Nat), i ≤ ps.length ∧ iv = .int .i64 i ∧ Hid (Below w7.heap.size w7 wr)) (fun iv _ => ps.length - (intOf iv).toNat)
  case atStart => exact ⟨0, Nat.zero_le _, rfl, HB7D⟩
  case round =>
    clear HB7D HB13
    obtain ⟨i, hi, rfl, HBi⟩ := hrel
    rename World => Wi
    have HBi1 := hide (bl_t (unhide HB7) (unhide HBi))
    by_cases hlt : i < ps.length
    · obtain ⟨y0, y1, y2, hbw, hdz, hln⟩ := unhide HF Wi (unhide HBi1)
      obtain ⟨g1, o1, qa1, qc1, e1, c1, z1⟩ := hdz.par i hlt
      simp only [Option.some.injEq, Addr.mk.injEq, and_true] at e1
      obtain ⟨rfl, rfl⟩ := e1
      rw [Nat.zero_add] at c1
      obtain ⟨g2, o2, qa2, qc2, rfl, c2, z2⟩ := (unhide HDz Wi hbw).par i hlt
      have HZ1 := hide z1
      have HZ2 := hide z2
      have HSf := hide (fun (f : Gd) (hf : f ∈ ps[i]) => (unhide HS).fd (List.getElem_mem hlt) hf)
      have hn1 := (unhide HLS _ (List.getElem_mem hlt)).1
      clear z1 z2 hdz hln y1 y2 hbw
      generalize ps[i] = p at *
      have HCi := hide (show ∀ W', Below Wi.heap.size Wi W' → W'.cell? ⟨w1.heap.size, 0, none⟩ = some (.slice (some ⟨lg, 0, none⟩) ps.length lgc) ∧ W'.cell? ⟨lg, i, none⟩ = some (.slice qa1 p.length qc1) ∧ W'.cell? ⟨g2, o2 + i, none⟩ = some (.slice qa2 p.length qc2) from fun W' hb => ⟨cell_later y0 hb, cell_later c1 hb, cell_later c2 hb⟩)
      go_wp2_with fail
      go_loopw [16] (fun kv wr => ∃ (k : Nat), k ≤ p.length ∧ kv = .int .i64 k ∧ Hid (Below Wi.heap.size Wi wr)) (fun kv _ => p.length - (intOf kv).toNat)
      case atStart => exact ⟨0, Nat.zero_le _, rfl, hide (Below.refl _ _)⟩
      case round =>
        obtain ⟨k, hk, rfl, HBk⟩ := hrel
        rename World => W
        clear y0 c1 c2
        obtain ⟨y0, c1, c2⟩ := unhide HCi W (unhide HBk)
        by_cases hlt2 : k < p.length
        · obtain ⟨g3, o3, rfl, f1⟩ := ((unhide HZ1).later (unhide HBk)).fld k hlt2
          obtain ⟨g4, o4, rfl, f2⟩ := ((unhide HZ2).later (unhide HBk)).fld k hlt2
          have hsf := unhide HSf _ (List.getElem_mem hlt2)
          generalize p[k] = f at *
          generalize hn : p.length = n at *
          have a0 := f1.nm
          obtain ⟨la1, lc1, a1, al, acl⟩ := f1.ls
          obtain ⟨na1, nc1, a2, _⟩ := f1.ns
          have b0' := f2.nm
          obtain ⟨la2, lc2, b1, bl, bcl⟩ := f2.ls
          obtain ⟨na2, nc2, b2, _⟩ := f2.ns
          have cC := hide (show ∀ W', Below W.heap.size W W' → Calls Tryd.prog 23 #[.agg #[.string (ba f.nm), .slice la1 f.ls.length lc1, .slice na1 f.ns.length nc1]] W' fun e w' => e = .returned (.int .i64 (ckN (toF f))) ∧ Below W'.heap.size W' w' from fun W' hb => Check_a (toF f) la1 lc1 na1 f.ns.length nc1 W' hsf al (acl.later hb))
          have cK := hide (show ∀ W', Below W.heap.size W W' → Calls Tryd.prog 24 #[.agg #[.string (ba f.nm), .slice la2 f.ls.length lc2, .slice na2 f.ns.length nc2]] W' fun e w' => e = .returned (.int .i64 (ckN (toF f))) ∧ Below W'.heap.size W' w' from fun W' hb => rCheck_any (toF f) la2 lc2 (.slice na2 f.ns.length nc2) W' hsf.1 hsf.2.1 hsf.2.2 (bcl.later hb))
          have HSk := hide (show ∀ W', Below W.heap.size W W' → W'.cell? ⟨w1.heap.size, 0, none⟩ = some (.slice (some ⟨lg, 0, none⟩) ps.length lgc) ∧ W'.cell? ⟨lg, i, none⟩ = some (.slice (some ⟨g3, o3, none⟩) n qc1) ∧ W'.cell? ⟨g3, o3 + k * 3, none⟩ = some (.string (ba f.nm)) ∧ W'.cell? ⟨g3, o3 + k * 3 + 1, none⟩ = some (.slice la1 f.ls.length lc1) ∧ W'.cell? ⟨g3, o3 + k * 3 + 2, none⟩ = some (.slice na1 f.ns.length nc1) ∧ W'.cell? ⟨g2, o2 + i, none⟩ = some (.slice (some ⟨g4, o4, none⟩) n qc2) ∧ W'.cell? ⟨g4, o4 + k * 3, none⟩ = some (.string (ba f.nm)) ∧ W'.cell? ⟨g4, o4 + k * 3 + 1, none⟩ = some (.slice la2 f.ls.length lc2) ∧ W'.cell? ⟨g4, o4 + k * 3 + 2, none⟩ = some (.slice na2 f.ns.length nc2) from fun W' hb => ⟨cell_later y0 hb, cell_later c1 hb, cell_later a0 hb, cell_later a1 hb, cell_later a2 hb, cell_later c2 hb, cell_later b0' hb, cell_later b1 hb, cell_later b2 hb⟩)
          generalize ba f.nm = nmk at *
          generalize f.ls.length = nl at *
          generalize f.ns.length = nn at *
          generalize ckN (toF f) = cn at *
          have i0 : (0 : Int) ≤ (i : Int) := by omega
          have i1 : (i : Int) < (ps.length : Int) := by omega
          have k0 : (0 : Int) ≤ (k : Int) := by omega
          have k1 : (k : Int) < (n : Int) := by omega
          have B0 := hide ((Below.refl W.heap.size W).drew)
          go_wp2_with fail
          clear f1 f2 hsf a0 a1 a2 b0' b1 b2 acl bcl al bl y0 c1 c2
          go_region_held3 (fun w2 => w2.cell? ⟨w1.heap.size, 0, none⟩ = some (.slice (some ⟨lg, 0, none⟩) ps.length lgc) ∧ w2.cell? ⟨lg, i, none⟩ = some (.slice (some ⟨g3, o3, none⟩) n qc1) ∧ w2.cell? ⟨g3, o3 + k * 3, none⟩ = some (.string nmk) ∧ w2.cell? ⟨g3, o3 + k * 3 + 1, none⟩ = some (.slice la1 nl lc1) ∧ w2.cell? ⟨g3, o3 + k * 3 + 2, none⟩ = some (.slice na1 nn nc1) ∧ w2.cell? ⟨g2, o2 + i, none⟩ = some (.slice (some ⟨g4, o4, none⟩) n qc2) ∧ w2.cell? ⟨g4, o4 + k * 3, none⟩ = some (.string nmk) ∧ w2.cell? ⟨g4, o4 + k * 3 + 1, none⟩ = some (.slice la2 nl lc2) ∧ w2.cell? ⟨g4, o4 + k * 3 + 2, none⟩ = some (.slice na2 nn nc2)) (first | exact unhide HSk _ (unhide B6) | exact unhide HSk _ (unhide B5) | exact unhide HSk _ (unhide B0)) (first | (go_at_call 23; refine (unhide cC _ (unhide B0)).mono ?_; rintro e w20 ⟨rfl, hb20⟩; have B5 := hide (bl_t (unhide B0) hb20); clear hb20) | (go_at_call 21; refine (num3_any _ _).mono ?_; rintro e w' ⟨rfl, rfl⟩) | (go_at_call 24; refine (unhide cK _ (unhide B5)).mono ?_; rintro e w21 ⟨rfl, hb21⟩; have B6 := hide (bl_t (unhide B5) hb21); clear hb21))
          go_wp2
          go_roundw
          case rel => exact ⟨k + 1, by omega, by go_num, hide (bl_t (unhide HBk) (unhide B6))⟩
          case measure => simp [intOf]; omega
        · obtain rfl : k = p.length := by omega
          go_wp2
          go_roundw
          case rel => exact ⟨i + 1, by omega, by go_num, hide (bl_t (unhide HBi) (unhide HBk))⟩
          case measure => simp [intOf]; omega
    · obtain rfl : i = ps.length := by omega
      obtain ⟨y0, y1, y2, hbw, hdz, hln⟩ := unhide HF Wi (unhide HBi1)
      have HLN := hide hln
      have HBWi := hide hbw
      clear hdz hln hbw
      go_wp2_with (first | (go_at_call 22; refine (stayed_any (w.heap.size + 2) qs ps _ Wi lg lgc _ _ m1 m2 hl (unhide HLS) (unhide HQ) (unhide HLN) (unhide HDz Wi (unhide HBWi))).mono ?_; rintro e w14 ⟨rfl, hb⟩; have HB714 := hide (bl_t (unhide HBi) hb); clear hb))
      clear y0 y1 y2 HLN HBWi
      have zz : W1.heap.size ≤ w2.heap.size ∧ w2.heap.size ≤ w3.heap.size ∧ w3.heap.size ≤ w4.heap.size ∧ w4.heap.size ≤ w6.heap.size ∧ w6.heap.size ≤ w7.heap.size ∧ w7.heap.size ≤ w14.heap.size := ⟨(unhide HB2).size, hz23, hz34, (unhide HB46).size, (unhide HB67).size, (unhide HB714).size⟩
      have HRA := hide (ownsRow_bl (ownsRow_bl (unhide HA4) (unhide HB47)) (unhide HB714))
      have HRG := hide (ownsRow_bl (unhide HG) (unhide HB714))
      have HJA := hide (show ∀ j, (Value.slice aa (List.length T) ac).ownBlock = some j → W1.heap.size ≤ j ∧ j < w2.heap.size from fun j e => (ownsRow_blk (unhide HA) e).choose_spec.2)
      have HJG := hide (show ∀ j, (Value.slice ga (List.length T) gc).ownBlock = some j → w6.heap.size ≤ j ∧ j < w7.heap.size from fun j e => (ownsRow_blk (unhide HG) e).choose_spec.2)
      obtain ⟨Bad, hBad⟩ : ∃ Bad : Nat → Prop, Bad = fun k => (W1.heap.size ≤ k ∧ k < w2.heap.size) ∨ (w6.heap.size ≤ k ∧ k < w7.heap.size) := ⟨_, rfl⟩
      have HBad := hide hBad
      clear hBad
      go_loopw [17] (fun iv wr => ∃ (i : Nat) (xs : List Value), i ≤ List.length T ∧ iv = .int .i64 i ∧ Hid (wr.ownsRow W1.heap.size 5 1 (.slice aa (List.length T) ac) (List.length T) xs) ∧ Hid (∀ u ∈ xs, u.oneCell' = true) ∧ Hid (wr.ownsRow w6.heap.size 5 1 (.slice ga (List.length T) gc) (List.length T) (encB T)) ∧ Hid (Gp Bad w14 wr)) (fun iv _ => List.length T - (intOf iv).toNat)
      case atStart => exact ⟨0, encB T, Nat.zero_le _, rfl, HRA, hide (by simp [encB, Value.oneCell']), HRG, hide (Gp.refl _ _)⟩
      case round =>
        clear HRA HRG
        obtain ⟨j, xs, hj, rfl, HRA, HO1, HRG, HGp⟩ := hrel
        rename World => Wj
        by_cases hlt3 : j < List.length T
        · obtain ⟨ab, rfl⟩ : ∃ ab, aa = some ⟨ab, 0, none⟩ := by
            rcases (unhide HRA).2 with ⟨h1, h2⟩ | ⟨g, cap, cur, h1, _⟩
            · omega
            · cases h1; exact ⟨g, rfl⟩
          have hab := unhide HJA ab rfl
          have hxl : xs.length = List.length T := by have := (unhide HRA).1; omega
          have a1 := (row_cells (unhide HRA)).2 j xs[j] (List.getElem?_eq_getElem (by omega))
          have a2 := (cell_blk (row_blk (unhide HRA)).choose_spec j).2
          have HR2 := hide (row_set (unhide HRA) j (.int .u8 1))
          have HG2 := hide (show (Wj.setCell ⟨ab, j, none⟩ (.int .u8 1)).ownsRow w6.heap.size 5 1 (.slice ga (List.length T) gc) (List.length T) (encB T) from ownsRow_same (unhide HRG) fun g c hg hc => set_other _ _ _ _ _ (fun e => by have := (unhide HJG g hg).1; omega))
          have HGp2 := hide ((unhide HGp).set ab j (.int .u8 1) (by rw [unhide HBad]; exact .inl hab))
          have HO2 := hide (show ∀ u ∈ xs.set j (.int .u8 1), u.oneCell' = true from fun u hu => by
            rcases List.mem_or_eq_of_mem_set hu with h | h
            · exact unhide HO1 u h
            · rw [h]; rfl)
          generalize xs[j] = xj at *
          go_wp2
          go_roundw
          case rel => exact ⟨j + 1, _, by omega, by go_num, HR2, HO2, HG2, HGp2⟩
          case measure => simp [intOf]; omega
        · obtain rfl : j = List.length T := by omega
          go_wp2_with fail
          go_loopw [18] (fun iv wr => ∃ (i : Nat) (ys : List Value), i ≤ List.length T ∧ iv = .int .i64 i ∧ Hid (wr.ownsRow W1.heap.size 5 1 (.slice aa (List.length T) ac) (List.length T) xs) ∧ Hid (wr.ownsRow w6.heap.size 5 1 (.slice ga (List.length T) gc) (List.length T) ys) ∧ Hid (Gp Bad w14 wr)) (fun iv _ => List.length T - (intOf iv).toNat)
          case atStart => exact ⟨0, encB T, Nat.zero_le _, rfl, HRA, HRG, HGp⟩
          case round =>
            clear HRA HRG HGp
            obtain ⟨j, ys, hj, rfl, HRA, HRG, HGp⟩ := hrel
            rename World => Wj
            by_cases hlt3 : j < List.length T
            · obtain ⟨gb, rfl⟩ : ∃ gb, ga = some ⟨gb, 0, none⟩ := by
                rcases (unhide HRG).2 with ⟨h1, h2⟩ | ⟨g, cap, cur, h1, _⟩
                · omega
                · cases h1; exact ⟨g, rfl⟩
              have hgb := unhide HJG gb rfl
              have hxl : ys.length = List.length T := by have := (unhide HRG).1; omega
              have a1 := (row_cells (unhide HRG)).2 j ys[j] (List.getElem?_eq_getElem (by omega))
              have a2 := (cell_blk (row_blk (unhide HRG)).choose_spec j).2
              have HR2 := hide (row_set (unhide HRG) j (.int .u8 2))
              have HG2 := hide (show (Wj.setCell ⟨gb, j, none⟩ (.int .u8 2)).ownsRow W1.heap.size 5 1 (.slice aa (List.length T) ac) (List.length T) xs from ownsRow_same (unhide HRA) fun g c hg hc => set_other _ _ _ _ _ (fun e => by have := (unhide HJA g hg).2; omega))
              have HGp2 := hide ((unhide HGp).set gb j (.int .u8 2) (by rw [unhide HBad]; exact .inr hgb))
              generalize ys[j] = xj at *
              go_wp2
              go_roundw
              case rel => exact ⟨j + 1, _, by omega, by go_num, HG2, HR2, HGp2⟩
              case measure => simp [intOf]; omega
            · obtain rfl : j = List.length T := by omega
              clear HRG
              go_wp2_with fail
              go_loopw [19, 20, 21] (fun nv mv iv wr => ∃ (i : Nat) (tot : Nat) (zs : List Value) (mb : Option Addr) (mc : Nat), i ≤ 70 ∧ iv = .int .i64 i ∧ nv = .int .i64 tot ∧ mv = .slice mb (List.length T + i) mc ∧ i ≤ tot ∧ tot ≤ i * 33554432 ∧ Hid (wr.ownsRow W1.heap.size 5 1 (.slice mb (List.length T + i) mc) (List.length T + i) zs) ∧ Hid (∀ j, (Value.slice mb (List.length T + i) mc).ownBlock = some j → (W1.heap.size ≤ j ∧ j < w2.heap.size) ∨ w14.heap.size ≤ j) ∧ Hid (Gp Bad w14 wr)) (fun _ _ iv _ => 70 - (intOf iv).toNat)
              case atStart => exact ⟨0, 0, xs, aa, ac, by omega, rfl, rfl, rfl, by omega, by omega, HRA, hide (fun j e => .inl (unhide HJA j e)), HGp⟩
              case round =>
                clear HRA HGp
                obtain ⟨i, tot, zs, mb, mc, hi7, rfl, rfl, rfl, ht1, ht2, HRM, HJM, HGp⟩ := hrel
                rename World => Wk
                by_cases hlt4 : i < 70
                · have hsz14 := (unhide HGp).size
                  have h70 : (i : Int) < 70 := by omega
                  go_wp2_with (at_builtin; go_must (refine wpList_append_lies _ rfl _ _ 22 rfl W1.heap.size 5 i5 (.int .u8 0) 1 1 Tryd.underlying22 hi5 z5a z5b z5c rfl (by decide) (.slice mb (List.length T + i) mc) (List.length T + i) zs rfl ((unhide HRM).alloc _) ⟨_, 0, none⟩ 1 1 [.int .u8 3] rfl rfl (cell_one_new _ _ _) (by simp [Value.oneCell']) (by decide) (by unfold maxLen; omega) (by omega) (by simp; omega) (Wk.heap.size + 1) (by simp) ?_); intro lb lcp w30 hown30 hgrow30 hv30 hl30; have HO30 := hide hown30; have HG30 := hide hgrow30; have HV30 := hide hv30; clear hown30 hgrow30 hv30 hl30)
                  go_roundw
                  case rel => exact ⟨i + 1, tot + (List.length T + i + 1), _, _, _, by omega, by go_num, congrArg (Value.int .i64) (by omega), rfl, by omega, by omega, hide (show w30.ownsRow W1.heap.size 5 1 (.slice (some ⟨lb, 0, none⟩) (List.length T + i + 1) lcp) (List.length T + i + 1) (zs ++ [.int .u8 3]) from unhide HO30), hide (fun j e => by
                    cases e
                    rcases unhide HV30 with q | q
                    · exact unhide HJM _ q
                    · right; show w14.heap.size ≤ lb; omega), hide ((unhide HGp).grown (unhide HG30) (fun j e => by
                    rcases unhide HJM j e with q | q
                    · left; rw [unhide HBad]; exact .inl q
                    · exact .inr q))⟩
                  case measure => simp [intOf]; omega
                · obtain rfl : i = 70 := by omega
                  have htz : ¬ (tot : Int) < 70 := by omega
                  have HBk := hide ((unhide HGp).below (bl_t (unhide HB7) (unhide HB714)) (fun k hk => by rw [unhide HBad] at hk; omega) (by omega))
                  have HKB := hide (show Rb Wk ba' T from (unhide HBb4).keep4 fun a e ha => by
                    have h1 := (unhide HBb).2 a e
                    refine ((unhide HGp).block a.block (by omega) (fun hk => by rw [unhide HBad] at hk; omega)).trans ?_
                    exact (bl_t (unhide HB47) (unhide HB714)).block a.block ha)
                  have HKC := hide (show Rb Wk ca T from (Rb.of_owns (unhide HC)).2.keep4 fun a e ha => by
                    have h1 : w3.heap.size ≤ a.block := by
                      have hc := unhide HC
                      rw [e] at hc
                      exact (ownsRow_blk hc rfl).choose_spec.2.1
                    refine ((unhide HGp).block a.block (by omega) (fun hk => by rw [unhide HBad] at hk; omega)).trans ?_
                    exact (bl_t (unhide HB47) (unhide HB714)).block a.block ha)
                  clear HRM HJM HGp
                  go_wp2_with (go_at_call 20; refine (same_yes T _ _ _ _ Wk (by omega) (unhide HKC) (unhide HKB)).mono ?_; rintro e w31 ⟨rfl, hb⟩; have HB31 := hide (bl_t (unhide HBk) hb); have y0 := (unhide HF w31 (unhide HB31)).1; clear hb)
                  have hN31 := (unhide HF w31 (unhide HB31)).2.2.2.2.2
                  have HBw31 := hide (unhide HF w31 (unhide HB31)).2.2.2.1
                  have cTA := hide (by
                    have h := turnedAbout_any (w.heap.size + 2) qs w31 lg lgc _ (by rw [unhide HQL]; exact hl) (fun q hq => by
                      have h2 := unhide HLS (q.xs.map (·.f)) (by rw [← unhide HQ]; exact List.mem_map_of_mem hq)
                      exact ⟨by simpa using h2.1, fun x hx => (h2.2 x.f (List.mem_map_of_mem hx)).1⟩) hN31.s hN31.ls
                    rw [unhide HQL] at h
                    exact h : Calls Tryd.prog 25 #[.slice (some ⟨lg, 0, none⟩) ps.length lgc] w31 fun e w' => e = .returned (.tuple #[]) ∧ ∃ (E : Nat → List Bs) (qs' : List Lq), qs'.Perm (qs.map (upE E)) ∧ (∀ q ∈ qs, ∀ x ∈ q.xs, (E x.lb).Perm x.f.ls) ∧ LS (w.heap.size + 2) w' lg lgc [.slice (some ⟨m1, 0, none⟩) 1 1, .slice (some ⟨m2, 0, none⟩) 1 1] qs' ∧ Below (w.heap.size + 2) w31 w' ∧ (∀ (k : Nat) (c : Array Value), w31.heap[k]? = some (Obj.cells c 42 (0, 0)) → w'.heap[k]? = w31.heap[k]?))
                  have HX31 := hide (((unhide HB31).block w1.heap.size q4).trans (unhide HX1))
                  clear hN31 y0
                  go_wp2_with (go_at_call 25; refine (unhide cTA).mono ?_; rintro e w32 ⟨rfl, E, qs', hp, hE, hLS, hb, h42⟩; have HP2 := hide hp; have HE2 := hide hE; have HLS2 := hide hLS; have HB32 := hide ((unhide HBw31).trans (hb.mono (by omega))); have HX32 := hide ((h42 _ _ (unhide HX31)).trans (unhide HX31)); have y0 := (cell_blk (unhide HX32) 0).1; clear hp hE hLS hb h42 cTA)
                  have hlq : qs'.length = ps.length := by rw [(unhide HP2).length_eq, List.length_map]; exact unhide HQL
                  have HSz2 := hide (turned_sz (unhide HP2) (unhide HE2) (by have := unhide HS; rw [← unhide HQ] at this; exact this))
                  have HD2 := hide (show DocZ w32 (.slice (some ⟨lg, 0, none⟩) ps.length lgc) (docL qs') by have h := (unhide HLS2).docZ; rw [hlq] at h; exact h)
                  have hl2 : (docL qs').length = ps.length := by unfold docL; rw [List.length_map]; exact hlq
                  generalize docL qs' = p2 at *
                  clear HP2 HE2 HLS2 HX31 HX1
                  obtain ⟨hl3, hls3⟩ := (unhide HSz2).all
                  have HLS3 := hide hls3
                  have HF2 := hide (show ∀ W', Below w32.heap.size w32 W' → W'.cell? ⟨w1.heap.size, 0, none⟩ = some (.slice (some ⟨lg, 0, none⟩) ps.length lgc) ∧ DocZ W' (.slice (some ⟨lg, 0, none⟩) ps.length lgc) p2 ∧ Below w.heap.size w W' from fun W' hb => ⟨cell_later y0 hb, (unhide HD2).later hb, bl_t (unhide HB32) hb⟩)
                  have cTw := hide (twin_z p2 (.slice (some ⟨lg, 0, none⟩) ps.length lgc) w32 hl3 hls3 (unhide HD2))
                  clear hls3
                  go_wp2_with (go_at_call 15; refine (unhide cTw).mono ?_; rintro e w33 ⟨u, rfl, hu, hb⟩; obtain ⟨ua, uc, hue, -⟩ := id hu; rw [hl2] at hue; subst hue; have HU := hide hu; have HB33 := hide hb; have x33 := (unhide HF2 w33 hb).1; clear hu hb cTw)
                  have cP2 := hide (fun (W : World) (v : Value) (h : DocZ W v p2) => Print_u p2 v W (unhide HSz2) h)
                  have cR2 := hide (show ∀ (W : World), Below w33.heap.size w33 W → Calls Tryd.prog 19 #[.slice ua ps.length uc] W fun e w' => ∃ qa qc, e = .returned (.tuple #[.slice qa (outT (docF p2)).length qc, .int .i64 (outN (docF p2))]) ∧ Ro W.heap.size w' qa (outT (docF p2)) ∧ Below W.heap.size W w' from fun W hb => by
                    have h := rPrint_u p2 ua uc W (unhide HSz2) (by rw [hl2]; exact (unhide HU).later hb)
                    rw [hl2] at h
                    exact h)
                  have cAl := hide (show ∀ (W : World), Below w33.heap.size w33 W → Calls Tryd.prog 26 #[.slice (some ⟨lg, 0, none⟩) ps.length lgc, .slice ua ps.length uc] W fun e w' => e = .returned (.bool true) ∧ Below W.heap.size W w' from fun W hb => by
                    have h := alike_z p2 (some ⟨lg, 0, none⟩) ua lgc uc W (by omega) (unhide HLS3) (by rw [hl2]; exact (unhide HF2 W (bl_t (unhide HB33) hb)).2.1) (by rw [hl2]; exact (unhide HU).later hb)
                    rw [hl2] at h
                    exact h)
                  have hT2l := outT_le (unhide HSz2)
                  generalize outT (docF p2) = T2 at *
                  generalize outN (docF p2) = M2 at *
                  go_wp2_with (first | (go_at_call 14; refine (unhide cP2 _ _ (unhide HF2 w33 (unhide HB33)).2.1).mono ?_; rintro e w34 ⟨ha, hc, rfl, ho, hb⟩; have HH := hide ho; have HB334 := hide hb; clear ho hb) | (go_at_call 19; refine (unhide cR2 _ (unhide HB334)).mono ?_; rintro e w35 ⟨ja, jc, rfl, ho, hb⟩; have HJ := hide ho; have HB335 := hide (bl_t (unhide HB334) hb); have HH5 := hide ((Rb.of_owns (unhide HH)).2.later hb); clear ho hb) | (go_at_call 20; refine (same_yes T2 _ _ _ _ w35 (by omega) (unhide HH5) (unhide HJ).1).mono ?_; rintro e w36 ⟨rfl, hb⟩; have HB336 := hide (bl_t (unhide HB335) hb); have x36 := (unhide HF2 w36 (bl_t (unhide HB33) (unhide HB336))).1; clear hb) | (go_at_call 21; refine (num3_any _ _).mono ?_; rintro e w' ⟨rfl, rfl⟩) | (go_at_call 26; refine (unhide cAl _ (unhide HB336)).mono ?_; rintro e w37 ⟨rfl, hb⟩; have HB337 := hide (bl_t (unhide HB336) hb); clear hb))
                  clear x33 x36 y0 HH HJ HH5 HB334 HB335 HB336
                  go_loopw [27] (fun iv wr => ∃ (i : Nat), i ≤ ps.length ∧ iv = .int .i64 i ∧ Hid (Below w33.heap.size w33 wr)) (fun iv _ => ps.length - (intOf iv).toNat)
                  case atStart => exact ⟨0, Nat.zero_le _, rfl, HB337⟩
                  case round =>
                    obtain ⟨i, hi, rfl, HBi⟩ := hrel
                    rename World => Wi
                    have HBi1 := hide (bl_t (unhide HB33) (unhide HBi))
                    by_cases hlt : i < ps.length
                    · obtain ⟨y0, hdz, hbw⟩ := unhide HF2 Wi (unhide HBi1)
                      have hlp : i < p2.length := by rw [hl2]; exact hlt
                      obtain ⟨g1, o1, qa1, qc1, e1, c1, z1⟩ := hdz.par i hlp
                      simp only [Option.some.injEq, Addr.mk.injEq, and_true] at e1
                      obtain ⟨rfl, rfl⟩ := e1
                      rw [Nat.zero_add] at c1
                      obtain ⟨g2, o2, qa2, qc2, rfl, c2, z2⟩ := ((unhide HU).later (unhide HBi)).par i hlp
                      have HZ1 := hide z1
                      have HZ2 := hide z2
                      have HSf := hide (fun (f : Gd) (hf : f ∈ p2[i]) => (unhide HSz2).fd (List.getElem_mem hlp) hf)
                      have hn1 := (unhide HLS3 _ (List.getElem_mem hlp)).1
                      clear z1 z2 hdz hbw
                      generalize p2[i] = p at *
                      have HCi := hide (show ∀ W', Below Wi.heap.size Wi W' → W'.cell? ⟨w1.heap.size, 0, none⟩ = some (.slice (some ⟨lg, 0, none⟩) ps.length lgc) ∧ W'.cell? ⟨lg, i, none⟩ = some (.slice qa1 p.length qc1) ∧ W'.cell? ⟨g2, o2 + i, none⟩ = some (.slice qa2 p.length qc2) from fun W' hb => ⟨cell_later y0 hb, cell_later c1 hb, cell_later c2 hb⟩)
                      go_wp2_with fail
                      go_loopw [28] (fun kv wr => ∃ (k : Nat), k ≤ p.length ∧ kv = .int .i64 k ∧ Hid (Below Wi.heap.size Wi wr)) (fun kv _ => p.length - (intOf kv).toNat)
                      case atStart => exact ⟨0, Nat.zero_le _, rfl, hide (Below.refl _ _)⟩
                      case round =>
                        obtain ⟨k, hk, rfl, HBk⟩ := hrel
                        rename World => W
                        clear y0 c1 c2
                        obtain ⟨y0, c1, c2⟩ := unhide HCi W (unhide HBk)
                        by_cases hlt2 : k < p.length
                        · obtain ⟨g3, o3, rfl, f1⟩ := ((unhide HZ1).later (unhide HBk)).fld k hlt2
                          obtain ⟨g4, o4, rfl, f2⟩ := ((unhide HZ2).later (unhide HBk)).fld k hlt2
                          have hsf := unhide HSf _ (List.getElem_mem hlt2)
                          generalize p[k] = f at *
                          generalize hn : p.length = n at *
                          have a0 := f1.nm
                          obtain ⟨la1, lc1, a1, al, acl⟩ := f1.ls
                          obtain ⟨na1, nc1, a2, _⟩ := f1.ns
                          have b0' := f2.nm
                          obtain ⟨la2, lc2, b1, bl, bcl⟩ := f2.ls
                          obtain ⟨na2, nc2, b2, _⟩ := f2.ns
                          have cC := hide (show ∀ W', Below W.heap.size W W' → Calls Tryd.prog 23 #[.agg #[.string (ba f.nm), .slice la1 f.ls.length lc1, .slice na1 f.ns.length nc1]] W' fun e w' => e = .returned (.int .i64 (ckN (toF f))) ∧ Below W'.heap.size W' w' from fun W' hb => Check_a (toF f) la1 lc1 na1 f.ns.length nc1 W' hsf al (acl.later hb))
                          have cK := hide (show ∀ W', Below W.heap.size W W' → Calls Tryd.prog 24 #[.agg #[.string (ba f.nm), .slice la2 f.ls.length lc2, .slice na2 f.ns.length nc2]] W' fun e w' => e = .returned (.int .i64 (ckN (toF f))) ∧ Below W'.heap.size W' w' from fun W' hb => rCheck_any (toF f) la2 lc2 (.slice na2 f.ns.length nc2) W' hsf.1 hsf.2.1 hsf.2.2 (bcl.later hb))
                          have HSk := hide (show ∀ W', Below W.heap.size W W' → W'.cell? ⟨w1.heap.size, 0, none⟩ = some (.slice (some ⟨lg, 0, none⟩) ps.length lgc) ∧ W'.cell? ⟨lg, i, none⟩ = some (.slice (some ⟨g3, o3, none⟩) n qc1) ∧ W'.cell? ⟨g3, o3 + k * 3, none⟩ = some (.string (ba f.nm)) ∧ W'.cell? ⟨g3, o3 + k * 3 + 1, none⟩ = some (.slice la1 f.ls.length lc1) ∧ W'.cell? ⟨g3, o3 + k * 3 + 2, none⟩ = some (.slice na1 f.ns.length nc1) ∧ W'.cell? ⟨g2, o2 + i, none⟩ = some (.slice (some ⟨g4, o4, none⟩) n qc2) ∧ W'.cell? ⟨g4, o4 + k * 3, none⟩ = some (.string (ba f.nm)) ∧ W'.cell? ⟨g4, o4 + k * 3 + 1, none⟩ = some (.slice la2 f.ls.length lc2) ∧ W'.cell? ⟨g4, o4 + k * 3 + 2, none⟩ = some (.slice na2 f.ns.length nc2) from fun W' hb => ⟨cell_later y0 hb, cell_later c1 hb, cell_later a0 hb, cell_later a1 hb, cell_later a2 hb, cell_later c2 hb, cell_later b0' hb, cell_later b1 hb, cell_later b2 hb⟩)
                          generalize ba f.nm = nmk at *
                          generalize f.ls.length = nl at *
                          generalize f.ns.length = nn at *
                          generalize ckN (toF f) = cn at *
                          have i0 : (0 : Int) ≤ (i : Int) := by omega
                          have i1 : (i : Int) < (ps.length : Int) := by omega
                          have k0 : (0 : Int) ≤ (k : Int) := by omega
                          have k1 : (k : Int) < (n : Int) := by omega
                          have B0 := hide ((Below.refl W.heap.size W).drew)
                          go_wp2_with fail
                          clear f1 f2 hsf a0 a1 a2 b0' b1 b2 acl bcl al bl y0 c1 c2
                          go_region_held3 (fun w2 => w2.cell? ⟨w1.heap.size, 0, none⟩ = some (.slice (some ⟨lg, 0, none⟩) ps.length lgc) ∧ w2.cell? ⟨lg, i, none⟩ = some (.slice (some ⟨g3, o3, none⟩) n qc1) ∧ w2.cell? ⟨g3, o3 + k * 3, none⟩ = some (.string nmk) ∧ w2.cell? ⟨g3, o3 + k * 3 + 1, none⟩ = some (.slice la1 nl lc1) ∧ w2.cell? ⟨g3, o3 + k * 3 + 2, none⟩ = some (.slice na1 nn nc1) ∧ w2.cell? ⟨g2, o2 + i, none⟩ = some (.slice (some ⟨g4, o4, none⟩) n qc2) ∧ w2.cell? ⟨g4, o4 + k * 3, none⟩ = some (.string nmk) ∧ w2.cell? ⟨g4, o4 + k * 3 + 1, none⟩ = some (.slice la2 nl lc2) ∧ w2.cell? ⟨g4, o4 + k * 3 + 2, none⟩ = some (.slice na2 nn nc2)) (first | exact unhide HSk _ (unhide B6) | exact unhide HSk _ (unhide B5) | exact unhide HSk _ (unhide B0)) (first | (go_at_call 23; refine (unhide cC _ (unhide B0)).mono ?_; rintro e w20 ⟨rfl, hb20⟩; have B5 := hide (bl_t (unhide B0) hb20); clear hb20) | (go_at_call 21; refine (num3_any _ _).mono ?_; rintro e w' ⟨rfl, rfl⟩) | (go_at_call 24; refine (unhide cK _ (unhide B5)).mono ?_; rintro e w21 ⟨rfl, hb21⟩; have B6 := hide (bl_t (unhide B5) hb21); clear hb21))
                          go_wp2
                          go_roundw
                          case rel => exact ⟨k + 1, by omega, by go_num, hide (bl_t (unhide HBk) (unhide B6))⟩
                          case measure => simp [intOf]; omega
                        · obtain rfl : k = p.length := by omega
                          go_wp2
                          go_roundw
                          case rel => exact ⟨i + 1, by omega, by go_num, hide (bl_t (unhide HBi) (unhide HBk))⟩
                          case measure => simp [intOf]; omega
                    · obtain rfl : i = ps.length := by omega
                      go_wp2
                      go_ret
                      exact ⟨rfl, bl_t (unhide HB32) (unhide HBi1)⟩
end Go.Proofs.YtiibobjbcgbknaaDoor

namespace Go.Proofs.YtiibobjbcgbknaaDoor
theorem own : ownKnob Tryd.prog.godebug = none := by kernel_rfl
theorem laidOut : laidOutB Tryd.prog = true := by kernel_rfl
end Go.Proofs.YtiibobjbcgbknaaDoor
namespace Go.Proofs.YtiibobjbcgbknaaDoor.stanzaPrints
open Go.ChangeShapes Go.WideShapes Go.ChangeAt Go.RowKit
open Go.ChangeMaps (open_string shut_string)

set_option maxRecDepth 100000 in
theorem lifted (os : Os) (started : os.Started) (H : Type) (enc : TypeId × Value → H) (F : Stop.Interp) :
    ReturnsInHanded {} Tryd.checked os 6 .any ((Rows.OpenSpec.upto Rows.stanzaPrintsSpec).preRow enc Tryd.prog Tryd.f6 Rows.stanzaPrintsUptoRow.domain false Rows.stanzaPrintsUptoRow.laid) (((Rows.OpenSpec.upto Rows.stanzaPrintsSpec).at F).post enc Tryd.prog Tryd.f6 false true false false) := by
  refine returnsInHanded_of_row (C := Tryd.checked) (s := Rows.OpenSpec.upto Rows.stanzaPrintsSpec) own started (by kernel_rfl) Tryd.func6
    (witness_row_at (enc := enc) (C := Tryd.checked) false
      { World.holding Tryd.prog os ⟨#[], #[], []⟩ with heap := Array.modify (Array.modify (World.holding Tryd.prog os ⟨#[], #[], []⟩).heap 1 (fun o => match o with | .cells _ t frozen => .cells (Go.Pinned.utf8FirstZ.map (fun (n : Nat) => Value.int .u8 (n : Int))).toArray t frozen | o => o)) 2 (fun o => match o with | .cells _ t frozen => .cells (([128, 191, 160, 191, 128, 159, 144, 191, 128, 143] ++ List.replicate 22 0).map (fun (n : Nat) => Value.int .u8 (n : Int))).toArray t frozen | o => o) }
      #[.slice none 0 0] rfl (by kernel_rfl) (by kernel_rfl) (by kernel_rfl)
      (OpenSpec.preRow_of_cond (x := ([.nil], [], [])) 8 (by kernel_rfl) (by kernel_rfl) (fun k hk => by cases hk; kernel_rfl) (by kernel_rfl) (laidMet_of_run' 8 (by kernel_rfl) (by kernel_rfl)))) ?_
  intro W base args ds gs before hval0 hW _ hcond _ hlaid hshape _
  have hval : ∀ (j : Nat) t v, Tryd.f6.params[j]? = some t → args[j]? = some v → Value.okWide Tryd.prog W .any base t v := hval0
  have hW' := hW
  obtain ⟨p, q, hA0, hV, rfl, hfz, hnd⟩ := hW
  have hA : DataW.TrodAll enc Tryd.prog W 0 (fun _ => true) true Tryd.f6.params.toList args.toList ds p := hA0
  rw [Tryd.params6] at hA hval
  obtain ⟨v0, vs0, d0, ds0, p0, q0, hargs, rfl, rfl, h0, r0⟩ := trodAll_cons hA
  obtain ⟨rfl, rfl, rfl⟩ := trodAll_nil r0
  obtain rfl : args = #[v0] := by cases args; simp_all
  obtain ⟨rfl, rfl⟩ := trodVars_none hV
  have k0 := h0
  have lt0 : ∀ x ∈ p0, x.block < W.heap.size := by obtain ⟨m, hm⟩ := k0; exact DataW.trod_lt m _ _ _ hm
  have hk := of_decide_eq_true (hcond _ rfl)
  simp only [List.append_nil, Rows.uptoBulkAll] at hk
  obtain ⟨sa, sl, sc, rfl⟩ := okWide_slice Tryd.underlying24 (hval 0 24 v0 rfl rfl)
  obtain ⟨m0, hm0⟩ := h0
  obtain ⟨ps, hD, hw, hn⟩ := open_docZ hm0 (show Rows.uptoBulk d0 ≤ 1048576 by omega)
  have hw2 : wD (docF ps) ≤ 1048576 := Nat.le_trans hw (show Rows.uptoBulk d0 ≤ 1048576 by omega)
  clear hA0 hval0
  refine (prints_walk ps _ W ⟨hw2, hn⟩ hD).mono fun x W' ⟨he, bel⟩ => ?_
  subst he
  exact ⟨_, rfl, _, _, _, [], _, [], hW', trodAll_mk1 (shut_bool Tryd.underlying4 _), (trodAll_cons_mk (Below.trod laidOut (by kernel_rfl) (of_decide_eq_true (by kernel_rfl)) k0 bel lt0) trodAll_mk0), rfl, bel.frame _, fun h => by cases h⟩

theorem said : Rows.StanzaPrintsUptoSaid :=
  OpenClaim.holds_of_cond 6 Tryd.f6 rfl rfl rfl rfl rfl rfl rfl ⟨rfl, rfl, rfl, rfl, rfl⟩ rfl rfl rfl rfl rfl (by kernel_rfl) Tryd.func6 (by kernel_rfl)
    (of_decide_eq_true (by kernel_rfl)) (by unfold Func.isWrapper; first | (rw [if_pos (by decide +kernel)]; kernel_rfl) | (rw [if_neg (by decide +kernel)]; exact ⟨rfl, rfl⟩))
    (fun os started H enc _ F => by rw [OpenClaim.pre_eq_preRow]; exact lifted os started H enc F)

theorem plain (f : FuncId) (fn : Func) (hf : Tryd.pinned.checked.prog.funcNamed "larder/larderlaw03.StanzaPrints" = some f) (hfn : Tryd.pinned.checked.prog.funcs[f]? = some fn) :
    false = Tryd.pinned.checked.prog.looks [] ∧ ∀ (j : Nat) t, fn.params[j]? = some t → Tryd.pinned.checked.prog.wantsStandIn t = false := by
  obtain rfl : f = 6 := Option.some.inj ((show Tryd.prog.funcNamed "larder/larderlaw03.StanzaPrints" = some 6 by kernel_rfl).symm.trans hf) |>.symm
  obtain rfl : fn = Tryd.f6 := (Option.some.inj (Tryd.func6.symm.trans hfn)).symm
  refine ⟨by kernel_rfl, fun j t ht => ?_⟩
  rw [Tryd.params6] at ht
  have hm := Array.mem_of_getElem? ht
  have hall : (([24] : List TypeId).all fun t => !Tryd.prog.wantsStandIn t) = true := by kernel_rfl
  have hm2 : t ∈ ([24] : List TypeId) := by simpa using hm
  have h3 := List.all_eq_true.1 hall t hm2
  exact (Bool.not_eq_true' _).mp h3

end Go.Proofs.YtiibobjbcgbknaaDoor.stanzaPrints

namespace Go.Proofs.YtiibobjbcgbknaaDoor
theorem stanzaPrintsUpto_card : Rows.StanzaPrintsUptoCardSaid :=
  Claim7.holds_tied_plain_at .later [] _ _ _ _ stanzaPrints.said (fun _ h => by cases h) (by kernel_rfl) (fun _ h => by cases h) stanzaPrintsUpto_row_tie rfl ⟨rfl, rfl⟩ (by kernel_rfl) rfl stanzaPrints.plain (by kernel_rfl)
end Go.Proofs.YtiibobjbcgbknaaDoor

