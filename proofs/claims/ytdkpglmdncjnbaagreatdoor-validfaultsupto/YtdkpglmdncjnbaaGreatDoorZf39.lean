import Derived.Test.YtdkpglmdncjnbaaGreatDoorZf38
namespace Go.Proofs.YtdkpglmdncjnbaaGreatDoor
section
open Go.RowKit Go.Maps
set_option maxRecDepth 100000 in
set_option maxHeartbeats 4000000 in
theorem Breaks_own {w : World} {v u : Value} {ps : List Pk} {ks : List (Nm × Nm)} (sm : SmP ps) (pk : Pkl w v ps) (hk : Kyl w u ks) (hkl : ks.length ≤ 1048576) (hkz : ∀ x ∈ ks, x.1.size ≤ maxLen ∧ x.2.size ≤ maxLen) (sel : Nat → Bool)
 (hsel : ∀ (p : Nat) (q : Pk), ps[p]? = some q → (sel p = true ↔ Lo ps (fun i => decide (i < ps.length)) (fun i => decide (i < ps.length) && lef ps ks i) p q)) :
 Calls Tryz.prog 16 #[v, u] w fun e w' => ∃ r L, e = .returned r ∧ w'.ownsRow w.heap.size 29 2 r L.length (kyC L) ∧ L.length ≤ 1048576 ∧ (∀ x, x ∈ L ↔ x ∈ ((plL (fun i => decide (i < ps.length) && lef ps ks i) ps.length).filter sel).map fun p => kyP (pAt ps p)) ∧ L.Pairwise lx ∧ RowKit.Below w.heap.size w w' := by
 obtain ⟨i0, hi, hz0, hz1, hz2⟩ := info_parts2 infoKY
 obtain ⟨xs, hxs, hsim⟩ := sim_of pk (fun p hp => (sm.z p hp).2.1)
 obtain ⟨va, vc, rfl⟩ : ∃ a c, v = .slice a ps.length c := let ⟨a, c, e, _⟩ := pk; ⟨a, c, e⟩
 have hl := sm.l
 have htt := sm.tot hsim
 have C1 := hide (show ∀ X, RowKit.Below w.heap.size w X → Calls Tryz.prog 39 #[.slice va ps.length vc] X fun e w' => ∃ b1 b2, e = .returned (.agg #[.slice va ps.length vc, .map (some b1), .map (some b2)]) ∧ M2 (nmP xs xs.length) (pvP xs xs.length) w' b1 b2 ∧ RowKit.Below X.heap.size X w' from fun X hX => (setOf_any xs (.slice va ps.length vc) X (by rw [hsim.1]; omega) (by omega) (sm.sz hsim) (hxs.later hX)).mono fun e w' ⟨H1, k1, H2, k2, he, m1, m2, hb⟩ => ⟨_, _, he, ⟨_, H1, k1, H2, k2, m1, m2⟩, hb⟩)
 have HALL := hide (show ∀ X, RowKit.Below w.heap.size w X → Calls Tryz.prog 41 #[.slice va ps.length vc] X fun e w' => e = .returned (.slice (some ⟨X.heap.size + 1, 0, none⟩) ps.length ps.length) ∧ Bb w' (X.heap.size + 1) ps.length (fun i => decide (i < ps.length)) ∧ RowKit.Below X.heap.size X w' from fun X hX => allOf_own sm (pk.later hX))
 have HWI := hide (show ∀ X, RowKit.Below w.heap.size w X → Calls Tryz.prog 45 #[.slice va ps.length vc, u] X fun e w' => ∃ gi, e = .returned (.slice (some ⟨gi, 0, none⟩) ps.length ps.length) ∧ X.heap.size ≤ gi ∧ Bb w' gi ps.length (fun i => decide (i < ps.length) && lef ps ks i) ∧ RowKit.Below X.heap.size X w' from fun X hX => without_any sm (pk.later hX) (hk.later hX) hkl hkz)
 have HPL := hide (show ∀ X gi inn, Bb X gi ps.length inn → Calls Tryz.prog 42 #[.slice (some ⟨gi, 0, none⟩) ps.length ps.length] X fun e w' => ∃ u, e = .returned u ∧ w'.ownsRow X.heap.size 3 1 u (plL inn ps.length).length (ints (plL inn ps.length)) ∧ RowKit.Below X.heap.size X w' from fun X gi inn hb => places_any (by omega) hb.bls)
 have HLO := hide (show ∀ (X : World) (b1 b2 g1 g2 : Nat), RowKit.Below w.heap.size w X → M2 (nmP xs xs.length) (pvP xs xs.length) X b1 b2 → Bb X g1 ps.length (fun i => decide (i < ps.length)) → Bb X g2 ps.length (fun i => decide (i < ps.length) && lef ps ks i) → ∀ (p : Nat), p < ps.length → Calls Tryz.prog 46 #[.agg #[.slice va ps.length vc, .map (some b1), .map (some b2)], .int .i64 (p : Int), .slice (some ⟨g1, 0, none⟩) ps.length ps.length, .slice (some ⟨g2, 0, none⟩) ps.length ps.length] X fun e w' => e = .returned (.bool (sel p)) ∧ RowKit.Below X.heap.size X w' from fun X b1 b2 g1 g2 hX hM h1 h2 p hp => by
  obtain ⟨base, H1, k1, H2, k2, m1, m2⟩ := hM
  have hq := pAt_at (ps := ps) hp
  refine (loses_any _ _ m1 m2 (hxs.later hX) hsim sm (pk.later hX) h1.bls h2.bls hq).mono ?_
  rintro e w' ⟨b, rfl, hb, hB⟩
  have : b = sel p := by
   rw [Bool.eq_iff_iff]
   exact hb.trans (hsel p _ hq).symm
  exact ⟨by rw [this], hB⟩)
 have HPK := hide (show ∀ X, RowKit.Below w.heap.size w X → ∀ (p : Nat), p < ps.length → ∃ (vb vo : Nat) (cs : List Value), va = some ⟨vb, vo, none⟩ ∧ vb < X.heap.size ∧ X.rangeAt vb (vo + p * 43) cs ∧ (Tryz.prog.info? 46).map (·.size) = some cs.length ∧ ∀ Y, Calls Tryz.prog 47 #[.agg cs.toArray] Y fun e w' => e = .returned (.agg #[.string (kyP (pAt ps p)).1, .string (kyP (pAt ps p)).2]) ∧ Below Y.heap.size Y w' from fun X hX p hp => by
  obtain ⟨vb, vo, vc2, cs, d, r, c, pv, f, e, hvb, hr, hpc, _⟩ := (pk.later hX).at2 (pAt_at hp)
  injection e with e _ _
  exact ⟨vb, vo, cs, e, hvb, hr, by rw [hpc.len]; kernel_rfl, fun Y => keyOf_any cs _ _ Y hpc.c0 hpc.c1⟩)
 have HRI := hide (show (plL (fun i => decide (i < ps.length) && lef ps ks i) ps.length).Pairwise (· < ·) ∧ ∀ p ∈ plL (fun i => decide (i < ps.length) && lef ps ks i) ps.length, p < ps.length from ⟨List.Pairwise.filter _ List.pairwise_lt_range, fun p hp => List.mem_range.1 (List.mem_filter.1 hp).1⟩)
 have hpl := plL_len (fun i => decide (i < ps.length) && lef ps ks i) ps.length
 clear sm pk hk hkl hkz hsel hxs hsim htt
 generalize nmP xs xs.length = F1 at *
 generalize pvP xs xs.length = F2 at *
 go_enter Tryz.func16, Tryz.ntmps16
 go_wp2_with (first
  | (go_at_call 39; refine (unhide C1 _ (Below.refl _ _)).mono ?_; rintro e w1 ⟨b1, b2, rfl, hM, hb1⟩; obtain ⟨X, hX⟩ : ∃ W, W = w1.alloc (.cells #[.slice va ps.length vc, .map (some b1), .map (some b2)] 62) := ⟨_, rfl⟩; have HX := hide (show M2 F1 F2 X b1 b2 ∧ X.heap[w1.heap.size]? = some (.cells #[.slice va ps.length vc, .map (some b1), .map (some b2)] 62 (0, 0)) ∧ RowKit.Below w.heap.size w X from (by have h2 : RowKit.Below w1.heap.size w1 X := (by rw [hX]; exact (Below.refl _ w1).alloc (Nat.le_refl _) _); exact ⟨hM.mono fun j hj => h2.block j hj, by rw [hX]; exact World.alloc_heap_new w1 _, bl_t hb1 h2⟩)); clear hM hb1 C1)
  | (go_at_call 41; rw [← hX]; clear hX; refine (unhide HALL _ (unhide HX).2.2).mono ?_; rintro e w4 ⟨rfl, hbl, hb4⟩; have H4 := hide (And.intro hbl hb4); clear hbl hb4)
  | (go_at_call 45; refine (unhide HWI _ (bl_t (unhide HX).2.2 (unhide H4).2)).mono ?_; rintro e w5 ⟨g5, rfl, hg5, hbl5, hb5⟩; have H5 := hide (And.intro hbl5 hb5); clear hbl5 hb5)
  | (go_at_call 42; refine (unhide HPL _ _ _ (unhide H5).1).mono ?_; rintro e w6 ⟨u6, rfl, hu6, hb6⟩; obtain ⟨⟨la, ln, lk⟩, rfl, hln⟩ := slice_hd hu6; simp only at hln; subst hln; unfold hv; have H6 := hide (And.intro hu6 hb6); clear hu6 hb6))
 have HWW := hide (show (M2 F1 F2 w6 b1 b2 ∧ w6.heap[w1.heap.size]? = some (.cells #[.slice va ps.length vc, .map (some b1), .map (some b2)] 62 (0, 0)) ∧ RowKit.Below w.heap.size w w6) ∧ Bb w6 (X.heap.size + 1) ps.length (fun i => decide (i < ps.length)) ∧ Bb w6 g5 ps.length (fun i => decide (i < ps.length) && lef ps ks i) from by
  have b46 := bl_t (unhide H5).2 (unhide H6).2
  have bX6 := bl_t (unhide H4).2 b46
  exact ⟨⟨(unhide HX).1.mono fun j hj => bX6.block j hj, (bX6.block _ (blk_lt (unhide HX).2.1)).trans (unhide HX).2.1, bl_t (unhide HX).2.2 bX6⟩, (unhide H4).1.later b46, (unhide H5).1.later (unhide H6).2⟩)
 have HRW := hide (own_pl (unhide H6).1)
 clear HALL HWI HPL H4 H5 H6 HX hg5
 have HK0 := hide (Kw.start w6)
 generalize hPe : plL (fun i => decide (i < ps.length) && lef ps ks i) ps.length = P at *
 have HPE := hide hPe
 clear hPe
 obtain ⟨M, hM⟩ : ∃ M, M = P.length := ⟨_, rfl⟩
 have HM := hide hM
 rw [← hM] at hpl ⊢
 have HRW2 := hide (show Pl w5.heap.size w6 (.slice la M lk) P from by rw [hM]; exact unhide HRW)
 clear hM HRW
 go_wp2_with fail
 go_loopg [8, 10, 21] M (fun gq sv _ iv wr => ∃ j : Nat, iv = .int .i64 j ∧ j ≤ M ∧ M - j ≤ gq ∧ Hid (Kw w6 wr sv (((P.take j).filter sel).map fun p => kyP (pAt ps p))))
 case atStart => exact ⟨0, by go_num, by omega, by omega, HK0⟩
 case round =>
  clear HK0
  obtain ⟨j, rfl, hj, hgj, HW⟩ := hrel
  by_cases hlt : j < M
  ·have hjn : (j : Int) < (M : Int) := by omega
   have hjl : j < P.length := by have := unhide HM; omega
   have bw6 := (unhide HW).bw
   obtain ⟨g, rfl, c0⟩ := (unhide HRW2).at bw6 (List.getElem?_eq_getElem hjl)
   have hp := (unhide HRI).2 P[j] (List.getElem_mem hjl)
   have hpn : (P[j] : Int) < (ps.length : Int) := by omega
   obtain ⟨⟨hM2, hS, hB⟩, hb1, hb2⟩ := unhide HWW
   have hbX := bl_t hB bw6
   have hblk := (bw6.block _ (blk_lt hS)).trans hS
   obtain ⟨s0, s1, s2, _, _, _⟩ := three hblk
   have CL := hide (unhide HLO wr b1 b2 _ _ hbX (hM2.mono fun k hk => bw6.block k hk) (hb1.later bw6) (hb2.later bw6) P[j] hp)
   have HTK := hide (show P.take (j + 1) = P.take j ++ [P[j]] from by rw [List.take_add_one, List.getElem?_eq_getElem hjl]; rfl)
   have hll : (((P.take j).filter sel).map fun p => kyP (pAt ps p)).length ≤ 262144 := by
    rw [List.length_map]
    refine Nat.le_trans (List.length_filter_le _ _) ?_
    rw [List.length_take]
    omega
   have HBX := hide hbX
   clear hM2 hS hB hb1 hb2 hblk bw6 hbX
   generalize P[j] = p at *
   cases hs : sel p with
   | false =>
     rw [hs] at CL
     have HF := hide (show ((P.take (j + 1)).filter sel).map (fun p => kyP (pAt ps p)) = ((P.take j).filter sel).map (fun p => kyP (pAt ps p)) from by rw [unhide HTK, List.filter_append, List.filter_cons, List.filter_nil, hs]; simp)
     go_wp2_with (go_at_call 46; refine (unhide CL).mono ?_; rintro e w7 ⟨rfl, hb7⟩; have HB7 := hide hb7; clear hb7 CL c0 s0 s1 s2)
     go_roundg (M - (j + 1))
     case measure => omega
     case rel => exact ⟨j + 1, by go_num, by omega, by omega, by rw [unhide HF]; exact hide ((unhide HW).later (unhide HB7))⟩
   | true =>
     rw [hs] at CL
     have HF := hide (show ((P.take (j + 1)).filter sel).map (fun p => kyP (pAt ps p)) = ((P.take j).filter sel).map (fun p => kyP (pAt ps p)) ++ [kyP (pAt ps p)] from by rw [unhide HTK, List.filter_append, List.filter_cons, List.filter_nil, hs]; simp)
     clear hs
     go_upto_region 8 with (go_at_call 46; refine (unhide CL).mono ?_; rintro e w7 ⟨rfl, hb7⟩; have HB7 := hide hb7; clear hb7 CL c0 s0 s1 s2)
     have hkw := (unhide HW).later (unhide HB7)
     obtain ⟨vb, vo, cs, rfl, hvb, hr, hinf, hko⟩ := unhide HPK w7 (bl_t (unhide HBX) (unhide HB7)) p hp
     have HKW := hide hkw
     have HR := hide hr
     have HI2 := hide hinf
     have HKO := hide (hko w7)
     generalize kyP (pAt ps p) = ky at *
     generalize ((P.take j).filter sel).map (fun p => kyP (pAt ps p)) = lq at *
     clear hr hinf hko hkw
     go_wp2_with (first
      | ((with_reducible refine wpList_load_p (op := ⟨some 34, .load 46 (.tmp 33), 46, "valid.go:81", #[⟨3, .data⟩], none⟩) ?bxa 46 (.tmp 33) ?bxb vb (vo + p * 43) ?bxc cs _ (unhide HR) Tryz.underlying46 ?bxd (unhide HI2) ?bxe); (case bxa => rfl); (case bxb => rfl); (case bxc => rfl); (case bxd => rfl))
      | (go_at_call 47; refine (unhide HKO).mono ?_; rintro e w8 ⟨rfl, hb8⟩; have HK8 := hide ((unhide HKW).later hb8); have hz8 := (unhide HK8).bw.size; clear hb8 HKO)
      | (at_builtin; go_must (refine wpList_append_own _ rfl _ _ 33 rfl w6.heap.size 29 i0 (.agg #[.string ⟨#[]⟩, .string ⟨#[]⟩]) 2 32 Tryz.underlying33 hi hz0 hz1 hz2 rfl (by decide) _ _ _ rfl (own_same (unhide HK8).row fun b e => Below.heap_alloc _ _ _ (World.ownsRow.lt (unhide HK8).row b e).2) ⟨w8.heap.size, 0, none⟩ 1 1 [.string ky.1, .string ky.2] rfl rfl (fun k u hk => by rw [Addr.add_mid, Nat.zero_add, World.cell?_alloc_new]; simpa using hk) (fun u hu => by simp at hu; rcases hu with rfl | rfl <;> rfl) (by unfold maxLen; omega) (by omega) (by rw [World.size_alloc]; omega) ?_); intro v' w9 hown hgrow _; have HF9 := hide ((unhide HK8).grow hown hgrow); clear hown hgrow))
     go_roundg (M - (j + 1))
     case measure => omega
     case rel => exact ⟨j + 1, by go_num, by omega, by omega, by rw [unhide HF]; exact HF9⟩
  ·obtain rfl : j = M := by omega
   have hkw := unhide HW
   rw [unhide HM, List.take_length] at hkw
   have hlen : ((P.filter sel).map fun p => kyP (pAt ps p)).length ≤ 1048576 := by
    rw [List.length_map]
    have h1 := List.length_filter_le sel P
    have h2 := unhide HM
    omega
   generalize hLe : (P.filter sel).map (fun p => kyP (pAt ps p)) = L0 at *
   have HLE := hide hLe
   clear hLe
   have bw6 := (unhide HWW).1.2.2
   have CS := hide (sortK_own (W := w) hlen (row_lo2 hkw.row bw6.size) (bl_t bw6 hkw.bw))
   have HLEN := hide hlen
   clear hkw hlen bw6 HW HWW HRW2 HLO HPK HRI
   go_wp2_with (first
    | (go_at_call 48; refine (unhide CS).mono ?_; rintro e w7 ⟨rfl, L, hp7, hs7, hk7, hb7⟩; have H7 := hide (And.intro hp7 (And.intro hs7 hb7)); have CC := hide (compactK_own (by rw [hp7.length_eq]; exact unhide HLEN) hk7 hb7 (fun i => L.getD i (⟨#[]⟩, ⟨#[]⟩)) (fun i hi => by rw [List.getD_eq_getElem?_getD, List.getElem?_eq_getElem hi]; rfl)); clear hp7 hs7 hk7 hb7 CS)
    | (go_at_call 50; refine (unhide CC).mono ?_; rintro e w8 ⟨r8, rfl, hk8, hb8⟩; have H8 := hide (And.intro hk8 hb8); clear hk8 hb8 CC))
   go_ret
   obtain ⟨h1, h2, _⟩ := unhide H7
   refine ⟨_, _, rfl, (unhide H8).1, Nat.le_trans (ddK_len _ _) (by rw [h1.length_eq]; exact unhide HLEN), fun x => ?_, (ddK_lx _ _ fun i j hij hj => ?_).1, (unhide H8).2⟩
   ·rw [unhide HPE, unhide HLE, ddK_mem, ← h1.mem_iff, List.mem_iff_getElem]
    constructor
    ·rintro ⟨i, hi, e⟩; exact ⟨i, hi, by rw [← e, List.getD_eq_getElem?_getD, List.getElem?_eq_getElem hi]; rfl⟩
    ·rintro ⟨i, hi, e⟩; exact ⟨i, hi, by rw [← e, List.getD_eq_getElem?_getD, List.getElem?_eq_getElem hi]; rfl⟩
   ·have := List.pairwise_iff_getElem.1 h2 i j (by omega) hj hij
    rw [List.getD_eq_getElem?_getD, List.getElem?_eq_getElem hj, List.getD_eq_getElem?_getD, List.getElem?_eq_getElem (show i < L.length by omega)]
    exact this
end
section
open Go.RowKit Go.Maps Go.Sort Go.Shelf
set_option maxRecDepth 100000 in
set_option maxHeartbeats 4000000 in
theorem sameInts_yes {w : World} {lo1 lo2 N c1 c2 : Nat} {a1 a2 : Option Addr} {l : List Nat} (h1 : w.ownsRow lo1 3 1 (.slice a1 N c1) N (ints l)) (h2 : w.ownsRow lo2 3 1 (.slice a2 N c2) N (ints l)) (hl : N ≤ 1099511627776) :
 Calls Tryz.prog 18 #[.slice a1 N c1, .slice a2 N c2] w fun e w' => e = .returned (.bool true) ∧ RowKit.Below w.heap.size w w' := by
 have hN : l.length = N := by have := h1.1; rw [ints_len, Nat.mul_one] at this; exact this
 have H1 := hide h1
 have H2 := hide h2
 have HN := hide hN
 clear h1 h2 hN
 go_enter Tryz.func18, Tryz.ntmps18
 go_wp2_with fail
 go_loopw [5] (fun iv wr => ∃ i : Nat, iv = .int .i64 i ∧ i ≤ N ∧ Hid (RowKit.Below w.heap.size w wr)) (fun iv _ => N - (intOf iv).toNat)
 case atStart => exact ⟨0, by go_num, Nat.zero_le _, hide (Below.refl _ _)⟩
 case round =>
  obtain ⟨i, rfl, hile, HB⟩ := hrel
  by_cases hlt : i < N
  ·have hlt2 : (i : Int) < (N : Int) := by omega
   have hjp : i < l.length := by have := unhide HN; omega
   obtain ⟨g, rfl, cg⟩ := row_at (unhide H1) (bl_t (unhide HB) (Below.refl _ wr).drew) hjp
   obtain ⟨g2, rfl, cg2⟩ := row_at (unhide H2) (bl_t (unhide HB) (Below.refl _ wr).drew) hjp
   have HB2 := hide (bl_t (unhide HB) (Below.refl _ wr).drew)
   generalize l[i] = p at *
   go_wp2_with fail
   go_region_held3 (fun w' => w'.cell? ⟨g, i, none⟩ = some (.int .i64 (p : Int)) ∧ w'.cell? ⟨g2, i, none⟩ = some (.int .i64 (p : Int))) (exact ⟨cg, cg2⟩) (fail)
   go_wp2_with fail
   go_roundw
   case rel => exact ⟨i + 1, by go_num, by omega, HB2⟩
   case measure => simp [intOf]; omega
  ·go_wp2
   go_ret
   exact ⟨rfl, unhide HB⟩
structure Gw (w wr : World) (lo : Nat) (v s : Value) (n : Nat) : Prop where
 row : ∃ xs, wr.ownsRow lo 3 1 s n xs
 own : ∀ g, s.ownBlock = some g → v.ownBlock = some g ∨ w.heap.size ≤ g
 fx : Fx (fun g => v.ownBlock = some g) w wr
theorem Gw.grow {w wr w9 : World} {lo : Nat} {v s v' : Value} {n : Nat} {xs : List Value} {o : Obj} (h : Gw w wr lo v s n) (hown : w9.ownsRow lo 3 1 v' (n + 1) xs) (hg : (wr.alloc o).grownBy w9 s.ownBlock) (hat : v'.ownBlock = s.ownBlock ∨ v'.ownBlock = some (wr.alloc o).heap.size) : Gw w w9 lo v v' (n + 1) := by
 have z := h.fx.size
 have za : (wr.alloc o).heap.size = wr.heap.size + 1 := World.size_alloc _ _
 refine ⟨⟨xs, hown⟩, fun g e => ?_, h.fx.bel.trans ⟨hg.os.trans rfl, hg.tape.trans rfl, hg.output.trans rfl, by have := hg.size; omega, fun k hk => absurd hk (Nat.not_lt_zero _)⟩, fun b hb hn => ?_⟩
 ·rcases hat with q | q
  ·exact h.own g (by rw [← q]; exact e)
  ·rw [q] at e
   cases e
   exact .inr (by omega)
 ·refine (hg.block b (by omega) fun e => ?_).trans ((Below.heap_alloc _ _ _ (by omega)).trans (h.fx.blk b hb hn))
  rcases h.own b e.symm with q | q
  ·exact hn q
  ·omega
set_option maxRecDepth 100000 in
set_option maxHeartbeats 4000000 in
theorem sameKeys_yes {w : World} {v u : Value} {l : List (Nm × Nm)} (h1 : Kyl w v l) (h2 : Kyl w u l) (hl : l.length ≤ 1048576) :
 Calls Tryz.prog 19 #[v, u] w fun e w' => e = .returned (.bool true) ∧ RowKit.Below w.heap.size w w' := by
 obtain ⟨a1, c1, rfl⟩ : ∃ a c, v = .slice a l.length c := let ⟨a, c, e, _⟩ := h1; ⟨a, c, e⟩
 obtain ⟨a2, c2, rfl⟩ : ∃ a c, u = .slice a l.length c := let ⟨a, c, e, _⟩ := h2; ⟨a, c, e⟩
 have H1 := hide h1
 have H2 := hide h2
 obtain ⟨N, hN⟩ : ∃ N, N = l.length := ⟨_, rfl⟩
 have HN := hide hN
 rw [← hN] at hl H1 H2 ⊢
 clear h1 h2 hN
 go_enter Tryz.func19, Tryz.ntmps19
 go_wp2_with fail
 go_loopg [5] N (fun gq iv wr => ∃ i : Nat, iv = .int .i64 i ∧ i ≤ N ∧ N - i ≤ gq ∧ Hid (RowKit.Below w.heap.size w wr))
 case atStart => exact ⟨0, by go_num, by omega, by omega, hide (Below.refl _ _)⟩
 case round =>
  obtain ⟨i, rfl, hi, hg, HB⟩ := hrel
  by_cases hlt : i < N
  ·have hin : (i : Int) < (N : Int) := by omega
   have hik : i < l.length := by have := unhide HN; omega
   obtain ⟨b, o, rfl, hb, p0, p1⟩ := ((unhide H1).later (unhide HB)).at (List.getElem?_eq_getElem hik)
   obtain ⟨b2, o2, rfl, hb2, q0, q1⟩ := ((unhide H2).later (unhide HB)).at (List.getElem?_eq_getElem hik)
   generalize l[i] = x at *
   obtain ⟨x1, x2⟩ := x
   simp only at p0 p1 q0 q1
   have ce := neqK x1 x2 x1 x2
   rw [show (!(decide (x1 = x1) && decide (x2 = x2))) = false by simp] at ce
   have HBd := hide (fun k => bl_t (unhide HB) (bl_drewN wr k))
   go_wp2_with fail
   go_quiet (fail)
   go_wp2
   go_roundg (N - (i + 1))
   case measure => omega
   case rel => exact ⟨i + 1, by go_num, by omega, by omega, hide (unhide HBd _)⟩
  ·go_wp2_with fail
   go_ret
   exact ⟨rfl, unhide HB⟩
theorem closed_two {ps : List Pk} {i1 i2 : Nat → Bool} (h1 : Clo ps i1 ∧ (∀ G, Clo ps G → ∀ p, p < ps.length → G p = true → i1 p = true) ∧ ∀ p, i1 p = true → p < ps.length)
 (h2 : Clo ps i2 ∧ (∀ G, Clo ps G → ∀ p, p < ps.length → G p = true → i2 p = true) ∧ ∀ p, i2 p = true → p < ps.length) : plL i1 ps.length = plL i2 ps.length := by
 unfold plL
 refine List.filter_congr fun p hp => ?_
 have hl := List.mem_range.1 hp
 rw [Bool.eq_iff_iff]
 exact ⟨fun h => h2.2.1 i1 h1.1 p hl h, fun h => h1.2.1 i2 h2.1 p hl h⟩
theorem sel_lo (ps : List Pk) (ks : List (Nm × Nm)) (p : Nat) (q : Pk) (hq : ps[p]? = some q) : brk ps (fun i => decide (i < ps.length) && lef ps ks i) p = true ↔ Lo ps (fun i => decide (i < ps.length)) (fun i => decide (i < ps.length) && lef ps ks i) p q := by
 have hp := (List.getElem?_eq_some_iff.1 hq).1
 have e : pAt ps p = q := by have := pAt_at hp; rw [hq] at this; exact (Option.some.inj this).symm
 rw [brk_lo, e]
theorem breaks_two {ps : List Pk} {ks L K : List (Nm × Nm)} (h1 : ∀ x, x ∈ L ↔ x ∈ ((plL (fun i => decide (i < ps.length) && lef ps ks i) ps.length).filter (brk ps (fun i => decide (i < ps.length) && lef ps ks i))).map fun p => kyP (pAt ps p)) (h2 : L.Pairwise lx)
 (h3 : Kn ps (fun i => decide (i < ps.length) && lef ps ks i) (plL (fun i => decide (i < ps.length) && lef ps ks i) ps.length).length K) : L = K := by
 refine lx_uniq h2 h3.rise fun x => ?_
 rw [h1, h3.mem, List.take_length]
end
end Go.Proofs.YtdkpglmdncjnbaaGreatDoor
