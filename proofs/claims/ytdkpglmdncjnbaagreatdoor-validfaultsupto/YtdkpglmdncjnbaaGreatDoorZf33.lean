import Derived.Test.YtdkpglmdncjnbaaGreatDoorZf17
namespace Go.Proofs.YtdkpglmdncjnbaaGreatDoor
section
open Go.RowKit
section
variable {ops : Array Oper} {rest : List Oper} {o : Oper} {a : Act} {w : World} {Q : Exit → Act → World → Prop}
theorem p_loadm (x : Operand) (ho : o.op = .load 46 x) (hw : Region.wanted o (yielded ops a.tmps) = true) (b off : Nat) (hx : a.eval x = .pointer (some ⟨b, off, none⟩)) (cs : List Value) (hr : w.rangeAt b off cs) (hl : cs.length = 43)
 (h : wpList Tryz.prog ops Q rest (a.put o.dst (.agg cs.toArray)) w) : wpList Tryz.prog ops Q (o :: rest) a w := by
 refine BigFrame.wpList_want hw fun K hK => ?_
 exact wp_load_mid 46 x ho b off hx cs _ hr Tryz.underlying46 rfl (by rw [sizeP, hl]) (hK _ _ h)
theorem p_loadu (x : Operand) (ho : o.op = .load 44 x) (hw : Region.wanted o (yielded ops a.tmps) = true) (b off : Nat) (hx : a.eval x = .pointer (some ⟨b, off, none⟩)) (cs : List Value) (hr : w.rangeAt b off cs) (hl : cs.length = 32)
 (h : wpList Tryz.prog ops Q rest (a.put o.dst (.agg cs.toArray)) w) : wpList Tryz.prog ops Q (o :: rest) a w := by
 refine BigFrame.wpList_want hw fun K hK => ?_
 exact wp_load_mid 44 x ho b off hx cs _ hr Tryz.underlying44 rfl (by rw [infoU, hl]) (hK _ _ h)
end
theorem two_new (w : World) (cs ds : List Value) (t : TypeId) : ∃ W, (w.alloc (.cells cs.toArray t)).alloc (.cells ds.toArray t) = W ∧ (∀ i v, cs[i]? = some v → W.cell? ⟨w.heap.size, i, none⟩ = some v) ∧ (∀ i v, ds[i]? = some v → W.cell? ⟨w.heap.size + 1, i, none⟩ = some v) ∧ w.heap.size + 1 < W.heap.size ∧ Below w.heap.size w W := by
 have hb : Below w.heap.size w (w.alloc (.cells cs.toArray t)) := (Below.refl w.heap.size w).alloc (Nat.le_refl _) _
 refine ⟨_, rfl, fun i v h => ?_, fun i v h => ?_, by simp, hb.alloc hb.size _⟩
 ·rw [(((Below.refl (w.alloc (.cells cs.toArray t)).heap.size _).alloc (Nat.le_refl _) _).cell (p := ⟨w.heap.size, i, none⟩) (by simp)), World.cell?_alloc_new]
  simpa using h
 ·rw [World.cell?_alloc_at _ _ _ _ (by simp)]
  simpa using h
theorem two_bk {wr w2 w3 w4 w5 : World} {cs ds : List Value} (z2 : w2.heap.size = wr.heap.size + 1) (z3 : w3.heap.size = w2.heap.size) (b3 : BkP w3 wr.heap.size cs) (k4 : Below w3.heap.size w3 w4) (b5 : BkP w5 w3.heap.size ds) (o5 : ∀ k, k ≠ w3.heap.size → w5.heap[k]? = w4.heap[k]?) (k5 : ∀ B, B ≤ w3.heap.size → Below B w4 w5) (K3 : Below wr.heap.size wr w3) :
 Hid (BkP w5 wr.heap.size cs) ∧ Hid (BkP w5 (wr.heap.size + 1) ds) ∧ Hid (Below wr.heap.size wr w5) := by
 have e3 : w3.heap.size = wr.heap.size + 1 := by omega
 refine ⟨hide ((b3.later k4).of (o5 _ (by omega))), hide ?_, hide (bl_t K3 (k4.trans (k5 _ (Nat.le_refl _))))⟩
 rw [← e3]; exact b5
set_option maxRecDepth 100000 in
set_option maxHeartbeats 4000000 in
theorem samePackages_any (ps : List Pk) (v u : Value) (w : World) (hl : ps.length ≤ 4611686018427387904) (hz : ∀ p ∈ ps, PkZ p) (h1 : Pkl w v ps) (h2 : Pkl w u ps) :
 Calls Tryz.prog 29 #[v, u] w fun e w' => e = .returned (.bool true) ∧ Below w.heap.size w w' := by
 obtain ⟨va, vc, rfl, hv⟩ := h1
 obtain ⟨ua, uc, rfl, hu⟩ := h2
 have HV := hide hv
 have HU := hide hu
 have HZ := hide hz
 clear hv hu hz
 obtain ⟨N, hN⟩ : ∃ N, ps.length = N := ⟨_, rfl⟩
 rw [hN] at hl ⊢
 have HN := hide hN
 clear hN
 go_enter Tryz.func29, Tryz.ntmps29
 go_wp2_with fail
 go_loopg [5, 6, 7, 8, 9] N (fun gq vi _ _ _ _ wr => ∃ i : Nat, vi = .int .i64 i ∧ i ≤ N ∧ N - i ≤ gq ∧ Hid (Below w.heap.size w wr))
 case atStart => exact ⟨0, by go_num, by omega, by omega, hide (Below.refl _ _)⟩
 case round =>
  obtain ⟨i, rfl, hi, hg, HB⟩ := hrel
  by_cases hlt : i < N
  ·have hiz : (i : Int) < (N : Int) := by omega
   obtain ⟨b1, o1, rfl, g1, hc1⟩ := unhide HV (by have := unhide HN; omega)
   obtain ⟨b2, o2, rfl, g2, hc2⟩ := unhide HU (by have := unhide HN; omega)
   obtain ⟨p, hp⟩ : ∃ p, ps[i]? = some p := ⟨_, List.getElem?_eq_getElem (by have := unhide HN; omega)⟩
   have HZp := hide (unhide HZ p (List.mem_of_getElem? hp))
   obtain ⟨cs, d1, r1, c1, v1, f1, k1, kc1, kl1⟩ := hc1 i p hp
   obtain ⟨ds, d2, r2, c2, v2, f2, k2, kc2, kl2⟩ := hc2 i p hp
   have R1 := hide (rangeAt_later k1 g1 (unhide HB))
   have R2 := hide (fun (X : World) (hb : Below wr.heap.size wr X) => rangeAt_later k2 g2 (bl_t (unhide HB) hb))
   have L1 := hide (fun (X : World) (hb : Below wr.heap.size wr X) => kl1.later (bl_t (unhide HB) hb))
   have L2 := hide (fun (X : World) (hb : Below wr.heap.size wr X) => kl2.later (bl_t (unhide HB) hb))
   have C1 := hide kc1
   have C2 := hide kc2
   obtain ⟨pa1, pc1, rfl⟩ : ∃ a c, v1 = .slice a p.pv.length c := let ⟨a, c, e, _⟩ := kl1.vl; ⟨a, c, e⟩
   obtain ⟨pa2, pc2, rfl⟩ : ∃ a c, v2 = .slice a p.pv.length c := let ⟨a, c, e, _⟩ := kl2.vl; ⟨a, c, e⟩
   obtain ⟨fa1, fc1, rfl⟩ : ∃ a c, f1 = .slice a p.fs.length c := let ⟨a, c, e, _⟩ := kl1.fl; ⟨a, c, e⟩
   obtain ⟨fa2, fc2, rfl⟩ : ∃ a c, f2 = .slice a p.fs.length c := let ⟨a, c, e, _⟩ := kl2.fl; ⟨a, c, e⟩
   obtain ⟨ca1, cc1, rfl⟩ : ∃ a c, c1 = .slice a p.cf.length c := let ⟨a, c, e, _⟩ := kl1.cl; ⟨a, c, e⟩
   obtain ⟨ca2, cc2, rfl⟩ : ∃ a c, c2 = .slice a p.cf.length c := let ⟨a, c, e, _⟩ := kl2.cl; ⟨a, c, e⟩
   have hz := unhide HZp
   have CD := hide (fun (X : World) (hb : Below wr.heap.size wr X) => sameClauses_any p.dp d1 d2 X (by have := hz.dl; omega) (fun al h => by have := hz.dls al h; omega) (unhide L1 X hb).dl (unhide L2 X hb).dl)
   have CR := hide (fun (X : World) (hb : Below wr.heap.size wr X) => sameClauses_any p.pr r1 r2 X (by have := hz.rl; omega) (fun al h => by have := hz.rls al h; omega) (unhide L1 X hb).rl (unhide L2 X hb).rl)
   have CC := hide (fun (X : World) (hb : Below wr.heap.size wr X) (x y : Nat) (hx : X.cell? ⟨x, 0, none⟩ = some (.slice ca1 p.cf.length cc1)) (hy : X.cell? ⟨y, 0, none⟩ = some (.slice ca2 p.cf.length cc2)) (lx : x < X.heap.size) (ly : y < X.heap.size) => sameClauses_any [p.cf] (.slice (some ⟨x, 0, none⟩) 1 1) (.slice (some ⟨y, 0, none⟩) 1 1) X (by simp) (fun al h => by have := hz.cl; simp at h; subst h; omega) (cls_one hx lx (unhide L1 X hb).cl) (cls_one hy ly (unhide L2 X hb).cl))
   have bv := hz.vl
   have bf := hz.fl
   have hU := hide hz.sl
   clear hc1 hc2 k1 k2 kc1 kc2 kl1 kl2 hp g1 g2 hz
   have i0 : (0 : Int) ≤ (i : Int) := by omega
   go_wp2_with (first
    | (with_reducible refine p_loadm _ rfl rfl b1 (o1 + i * 43) rfl cs (unhide R1) (unhide C1).len ?_)
    | (with_reducible refine p_alloc rfl rfl ?_; intro w2 zc b2' k2 z2; guard_hyp k2 : Below wr.heap.size wr w2)
    | (with_reducible refine p_store _ _ rfl rfl wr.heap.size rfl cs rfl (unhide C1).len (unhide C1).one zc b2' ?_; intro w3 b3 o3 k3 z3; have K3 := hide (show Below wr.heap.size wr w3 from k2.trans (k3 _ (Nat.le_refl _))))
    | (with_reducible refine p_loadm _ rfl rfl b2 (o2 + i * 43) rfl ds (unhide R2 _ (unhide K3)) (unhide C2).len ?_)
    | (with_reducible refine p_alloc rfl rfl ?_; intro w4 zd b4 k4 z4)
    | ((with_reducible refine p_store _ _ rfl rfl w3.heap.size rfl ds rfl (unhide C2).len (unhide C2).one zd b4 ?_); intro w5 b5 o5 k5 z5; obtain ⟨BP, BQ, K5⟩ := two_bk z2 z3 b3 k4 b5 o5 k5 (unhide K3); have a0 := (unhide BP).cell (unhide C1).c0; have a1 := (unhide BP).cell (unhide C1).c1; have a2 := (unhide BP).cell (unhide C1).c2; have a3 := (unhide BP).cell (unhide C1).c3; have q0 := (unhide BQ).cell (unhide C2).c0; have q1 := (unhide BQ).cell (unhide C2).c1; have q2 := (unhide BQ).cell (unhide C2).c2; have q3 := (unhide BQ).cell (unhide C2).c3; clear b2' k2 b3 o3 k3 b4 k4 b5 o5 k5 R1 R2 K3))
   have hs5 := (unhide BQ).lt
   refine (unhide CD w5 (unhide K5)).mono ?_
   rintro e w6 ⟨rfl, hb6⟩
   have K6 := hide (bl_t (unhide K5) hb6)
   have a4 := ((unhide BP).later hb6).cell (unhide C1).c4
   have q4 := ((unhide BQ).later hb6).cell (unhide C2).c4
   have BP6 := hide ((unhide BP).later hb6)
   have BQ6 := hide ((unhide BQ).later hb6)
   clear hb6 a0 a1 a2 a3 q0 q1 q2 q3 BP BQ K5
   go_wp2_with fail
   refine (unhide CR w6 (unhide K6)).mono ?_
   rintro e w7 ⟨rfl, hb7⟩
   have K7 := hide (bl_t (unhide K6) hb7)
   have a5 := ((unhide BP6).later hb7).cell (unhide C1).c5
   have q5 := ((unhide BQ6).later hb7).cell (unhide C2).c5
   have BP7 := hide ((unhide BP6).later hb7)
   have BQ7 := hide ((unhide BQ6).later hb7)
   have hs7 := (unhide BQ7).lt
   have ht7 := (unhide BP7).lt
   clear hb7 a4 q4 BP6 BQ6 K6
   go_wp2_with fail
   obtain ⟨W8, hW8, m1, m2, hlt8, hB8⟩ := two_new w7 [.slice ca1 p.cf.length cc1] [.slice ca2 p.cf.length cc2] 49
   have hW8' : (w7.alloc (Obj.cells #[Value.slice ca1 p.cf.length cc1] 49)).alloc (Obj.cells #[Value.slice ca2 p.cf.length cc2] 49) = W8 := hW8
   rw [hW8']
   have K8 := hide (bl_t (unhide K7) hB8)
   refine (unhide CC W8 (unhide K8) w7.heap.size (w7.heap.size + 1) (m1 0 _ rfl) (m2 0 _ rfl) (Nat.lt_of_succ_lt hlt8) hlt8).mono ?_
   rintro e w9 ⟨rfl, hb9⟩
   have K9 := hide (bl_t (unhide K8) hb9)
   have BP9 := hide (((unhide BP7).later hB8).later hb9)
   have BQ9 := hide (((unhide BQ7).later hB8).later hb9)
   have a6 := (unhide BP9).cell (unhide C1).c6
   have a7 := (unhide BP9).cell (unhide C1).c7
   have a8 := (unhide BP9).cell (unhide C1).c8
   have a9 := (unhide BP9).cell (unhide C1).c9
   have a42 := (unhide BP9).cell (unhide C1).c42
   have q6 := (unhide BQ9).cell (unhide C2).c6
   have q7 := (unhide BQ9).cell (unhide C2).c7
   have q8 := (unhide BQ9).cell (unhide C2).c8
   have q9 := (unhide BQ9).cell (unhide C2).c9
   have q42 := (unhide BQ9).cell (unhide C2).c42
   have RA := hide (show w9.rangeAt wr.heap.size 10 p.sm from fun j x hx => (unhide BP9).cell ((unhide C1).cs0 j x hx))
   have RB := hide (show w9.rangeAt (wr.heap.size + 1) 10 p.sm from fun j x hx => (unhide BQ9).cell ((unhide C2).cs0 j x hx))
   have ce := neqU p.sm (unhide hU)
   have hU1 := (unhide hU).1
   clear hb9 hB8 hW8 hW8' m1 m2 hlt8 a5 q5 BP7 BQ7 hs7 ht7 K7 K8 CD CR CC
   go_wp2_with (first
    | ((with_reducible refine p_loadu (o := ⟨some 106, .load 44 (.tmp 105), 44, "law.go:75", #[⟨31, .data⟩, ⟨30, .guard⟩], some (30, false)⟩) (.tmp 105) ?hu1 ?hu2 wr.heap.size 10 ?hu3 p.sm (unhide RA) hU1 ?hu4); (case hu1 => rfl); (case hu2 => rfl); (case hu3 => rfl))
    | ((with_reducible refine p_loadu (o := ⟨some 108, .load 44 (.tmp 107), 44, "law.go:75", #[⟨33, .data⟩, ⟨30, .guard⟩], some (30, false)⟩) (.tmp 107) ?hw1 ?hw2 (wr.heap.size + 1) 10 ?hw3 p.sm (unhide RB) hU1 ?hw4); (case hw1 => rfl); (case hw2 => rfl); (case hw3 => rfl)))
   have HB9 := hide (bl_t (unhide HB) (unhide K9))
   have L19 := hide (fun (X : World) (hb : Below w9.heap.size w9 X) => unhide L1 X (bl_t (unhide K9) hb))
   have L29 := hide (fun (X : World) (hb : Below w9.heap.size w9 X) => unhide L2 X (bl_t (unhide K9) hb))
   have hs9 := (unhide BQ9).lt
   clear HB K9 L1 L2 RA RB ce hU1 a6 a7 a8 a9 a42 q6 q7 q8 q9 q42 hs5 z2 z3 z4 z5
   generalize wr.heap.size = G at *
   go_loopg [8] p.pv.length (fun gq vk wr => ∃ k : Nat, vk = .int .i64 k ∧ k ≤ p.pv.length ∧ p.pv.length - k ≤ gq ∧ Hid (Below w9.heap.size w9 wr))
   case atStart => exact ⟨0, by go_num, by omega, by omega, hide (Below.refl _ _)⟩
   case round =>
    obtain ⟨k, rfl, hk, hgk, HBr⟩ := hrel
    have a6 := ((unhide BP9).later (unhide HBr)).cell (unhide C1).c6
    have q6 := ((unhide BQ9).later (unhide HBr)).cell (unhide C2).c6
    have k0 : (0 : Int) ≤ (k : Int) := by omega
    by_cases hlk : k < p.pv.length
    ·have hkz : (k : Int) < (p.pv.length : Int) := by omega
     obtain ⟨x, hx⟩ : ∃ x, p.pv[k]? = some x := ⟨_, List.getElem?_eq_getElem hlk⟩
     obtain ⟨x1, y1, rfl, _, s1⟩ := (unhide L19 wr (unhide HBr)).vl.at hx
     obtain ⟨x2, y2, rfl, _, s2⟩ := (unhide L29 wr (unhide HBr)).vl.at hx
     clear hx
     go_wp2_with fail
     go_quiet (fail)
     have HB1 := hide (bl_t (unhide HBr) (bl_drewN wr nq))
     clear a6 q6 s1 s2 HBr
     generalize wr.drewN nq = W2 at *
     go_wp2_with fail
     go_roundg (p.pv.length - (k + 1))
     case measure => omega
     case rel => exact ⟨k + 1, by go_num, by omega, by omega, HB1⟩
    ·have hkz : ¬ (k : Int) < (p.pv.length : Int) := by omega
     go_wp2_with fail
     clear a6 q6
     go_loopg [9] p.fs.length (fun gq vk wr => ∃ k : Nat, vk = .int .i64 k ∧ k ≤ p.fs.length ∧ p.fs.length - k ≤ gq ∧ Hid (Below w9.heap.size w9 wr))
     case atStart => exact ⟨0, by go_num, by omega, by omega, HBr⟩
     case round =>
      clear HBr hkz k0 hlk hk hgk
      obtain ⟨k, rfl, hk, hgk, HBr⟩ := hrel
      have a7 := ((unhide BP9).later (unhide HBr)).cell (unhide C1).c7
      have q7 := ((unhide BQ9).later (unhide HBr)).cell (unhide C2).c7
      have k0 : (0 : Int) ≤ (k : Int) := by omega
      by_cases hlk : k < p.fs.length
      ·have hkz : (k : Int) < (p.fs.length : Int) := by omega
       obtain ⟨x, hx⟩ : ∃ x, p.fs[k]? = some x := ⟨_, List.getElem?_eq_getElem hlk⟩
       obtain ⟨hF, x1, y1, rfl, g1, s1⟩ := (unhide L19 wr (unhide HBr)).fl.at hx
       obtain ⟨-, x2, y2, rfl, g2, s2⟩ := (unhide L29 wr (unhide HBr)).fl.at hx
       have HQ := hide (fun (w' : World) (hb : Below wr.heap.size wr w') => And.intro (cell_later a7 hb) (And.intro (cell_later q7 hb) (And.intro (rangeAt_later s1 g1 hb) (rangeAt_later s2 g2 hb))))
       have D0 := hide ((Below.refl wr.heap.size wr).drew)
       have ce := neqF x hF
       have lx : (Tryz.prog.info? 58).map (·.size) = some x.length := by rw [hF.1]; exact infoF
       have HB1 := hide (bl_t (unhide HBr) (unhide D0))
       clear hx s1 s2 g1 g2 hF
       go_wp2_with fail
       refine wp_region_held_drew (S := fun w' => w'.cell? ⟨G, 7, none⟩ = some (.slice (some ⟨x1, y1, none⟩) p.fs.length fc1) ∧ w'.cell? ⟨G + 1, 7, none⟩ = some (.slice (some ⟨x2, y2, none⟩) p.fs.length fc2) ∧ w'.rangeAt x1 (y1 + k * 34) x ∧ w'.rangeAt x2 (y2 + k * 34) x) (by kernel_rfl) ?_ (fun hHeld => ?_)
       ·exact unhide HQ _ (unhide D0)
       refine tk2 0 (⟨some 143, .fieldAddr 46 (.tmp 6) 7, 0, "law.go:84", #[], none⟩) ?_
       refine tk2 1 (⟨some 144, .load 43 (.tmp 143), 43, "law.go:84", #[⟨0, .data⟩], none⟩) ?_
       refine tk2 2 (⟨some 145, .move (.tmp 9), 3, "law.go:84", #[], none⟩) ?_
       refine tk2 3 (⟨some 146, .indexAddr 43 (.tmp 144) (.tmp 145), 0, "law.go:84", #[⟨1, .data⟩, ⟨2, .data⟩], none⟩) ?_
       refine tkH 4 ⟨some 147, .load 58 (.tmp 146), 58, "law.go:84", #[⟨3, .data⟩], none⟩ (v := .agg x.toArray) (yieldsIf_load_mid (by rfl) 58 (.tmp 146) rfl x1 (y1 + k * 34) (by rfl) x _ (fun _ h => h.2.2.1) Tryz.underlying58 rfl lx) ?_
       try simp only [Act.put, sqB, sq0, sq1]
       refine tk2 5 (⟨some 148, .fieldAddr 46 (.tmp 7) 7, 0, "law.go:84", #[], none⟩) ?_
       refine tk2 6 (⟨some 149, .load 43 (.tmp 148), 43, "law.go:84", #[⟨5, .data⟩], none⟩) ?_
       refine tk2 7 (⟨some 150, .move (.tmp 9), 3, "law.go:84", #[], none⟩) ?_
       refine tk2 8 (⟨some 151, .indexAddr 43 (.tmp 149) (.tmp 150), 0, "law.go:84", #[⟨6, .data⟩, ⟨7, .data⟩], none⟩) ?_
       refine tkH 9 ⟨some 152, .load 58 (.tmp 151), 58, "law.go:84", #[⟨8, .data⟩], none⟩ (v := .agg x.toArray) (yieldsIf_load_mid (by rfl) 58 (.tmp 151) rfl x2 (y2 + k * 34) (by rfl) x _ (fun _ h => h.2.2.2) Tryz.underlying58 rfl lx) ?_
       try simp only [Act.put, sqB, sq0, sq1]
       refine tk2 10 (⟨some 153, .binOp .neq 58 (.tmp 147) (.tmp 152) 58, 4, "law.go:84", #[⟨4, .data⟩, ⟨9, .data⟩], none⟩) ?_
       refine wpAnyH_done (by kernel_rfl) ?_ _
       go_wp2_with fail
       go_roundg (p.fs.length - (k + 1))
       case measure => omega
       case rel => exact ⟨k + 1, by go_num, by omega, by omega, HB1⟩
      ·have hkz : ¬ (k : Int) < (p.fs.length : Int) := by omega
       go_wp2_with fail
       go_roundg (N - (i + 1))
       case measure => omega
       case rel => exact ⟨i + 1, by go_num, by omega, by omega, hide (bl_t (unhide HB9) (unhide HBr))⟩
  ·go_wp2_with fail
   go_ret
   exact ⟨rfl, unhide HB⟩
end
section
open Go.RowKit
theorem flat_get (m : Nat) (hm : 0 < m) : ∀ (rs : List (List Value)) (_ : ∀ r ∈ rs, r.length = m) (t : Nat), rs.flatten[t]? = (rs[t / m]?).bind (fun r => r[t % m]?)
 | [], _, t => by simp
 | r :: rs, h, t => by
   have hr : r.length = m := h r List.mem_cons_self
   rw [List.flatten_cons]
   by_cases ht : t < m
   ·rw [List.getElem?_append_left (by omega), Nat.div_eq_of_lt ht, Nat.mod_eq_of_lt ht]
    rfl
   ·rw [List.getElem?_append_right (by omega), hr, flat_get m hm rs (fun x hx => h x (List.mem_cons_of_mem _ hx)) (t - m)]
    have e : t = (t - m) + m := by omega
    have e1 : t / m = (t - m) / m + 1 := by conv => lhs; rw [e, Nat.add_div_right _ hm]
    have e2 : t % m = (t - m) % m := by conv => lhs; rw [e, Nat.add_mod_right]
    rw [e1, e2, List.getElem?_cons_succ]
theorem flat_lenm (m : Nat) : ∀ (rs : List (List Value)) (_ : ∀ r ∈ rs, r.length = m), rs.flatten.length = rs.length * m
 | [], _ => by simp
 | r :: rs, h => by
   rw [List.flatten_cons, List.length_append, h r List.mem_cons_self, flat_lenm m rs (fun x hx => h x (List.mem_cons_of_mem _ hx)), List.length_cons]
   rw [Nat.add_mul]; omega
structure Blk (W : World) (B : Nat) (cs : List Value) (n : Nat) : Prop where
 elem : ∀ j v, cs[j]? = some v → W.cell? ⟨B, j, none⟩ = some v
 spot : ∀ j, j < n → (W.cell? ⟨B, j, none⟩).isSome = true
 fr : ∀ j, W.frozen? ⟨B, j, none⟩ = false
 lt : B < W.heap.size
theorem Blk.of {W W' : World} {B n : Nat} {cs : List Value} (h : Blk W B cs n) (hc : ∀ j, W'.cell? ⟨B, j, none⟩ = W.cell? ⟨B, j, none⟩) (hf : ∀ j, W'.frozen? ⟨B, j, none⟩ = W.frozen? ⟨B, j, none⟩) (hl : W.heap.size ≤ W'.heap.size) : Blk W' B cs n :=
 ⟨fun j v hv => (hc j).trans (h.elem j v hv), fun j hj => by rw [hc]; exact h.spot j hj, fun j => (hf j).trans (h.fr j), Nat.lt_of_lt_of_le h.lt hl⟩
theorem Blk.later {W W' : World} {B n : Nat} {cs : List Value} (h : Blk W B cs n) (hb : Below W.heap.size W W') : Blk W' B cs n :=
 h.of (fun j => hb.cell (p := ⟨B, j, none⟩) h.lt) (fun j => hb.frozen (p := ⟨B, j, none⟩) h.lt) hb.size
theorem blk_of (w : World) (z : Array Value) (n : Nat) (t : TypeId) (cs : List Value) (hn : cs.length ≤ n) : Blk ((w.alloc (.cells (madeCells z n) t)).setCells w.heap.size 0 cs) w.heap.size cs n := by
 have hc : ∀ j, j < n → ((w.alloc (.cells (madeCells z n) t)).cell? ⟨w.heap.size, j, none⟩).isSome = true := fun j hj => by
  rw [World.cell?_alloc_at _ _ _ _ rfl]
  exact made_some _ _ _ hj
 refine ⟨fun j v hv => ?_, fun j hj => ?_, fun j => ?_, ?_⟩
 ·have hj := (List.getElem?_eq_some_iff.1 hv).1
  have hin := World.cell?_setCells_in w.heap.size cs 0 _ (fun j hj => by rw [Nat.zero_add]; exact hc j (by omega)) j hj
  rw [Nat.zero_add] at hin
  rw [hin]
  exact (List.getElem?_eq_some_iff.1 hv).2 ▸ rfl
 ·exact World.isSome_setCells _ _ _ _ _ (hc j hj)
 ·rw [World.frozen?_setCells, World.frozen?_alloc_at _ _ _ _ rfl]
 ·rw [size_setCells]; simp
theorem Blk.put {W : World} {B n : Nat} {cs : List Value} (h : Blk W B cs n) (o : Nat) (vs : List Value) (ho : cs.length ≤ o) : Blk (W.setCells B o vs) B cs n := by
 refine ⟨fun j v hv => ?_, fun j hj => World.isSome_setCells _ _ _ _ _ (h.spot j hj), fun j => ?_, by rw [size_setCells]; exact h.lt⟩
 ·have hj := (List.getElem?_eq_some_iff.1 hv).1
  rw [World.cell?_setCells_out _ _ _ _ _ (fun _ _ => Or.inl (by show j < o; omega))]
  exact h.elem j v hv
 ·rw [World.frozen?_setCells]; exact h.fr j
theorem infoFz : ∃ zc : List Value, (Tryz.prog.info? 58).map (fun i => (i.zero, i.size, i.bytes)) = some (some (.agg zc.toArray), 34, 56) ∧ zc.length = 34 :=
 ⟨((((Tryz.prog.info? 58).bind (·.zero)).map fun z => z.cells.toList).getD []), by kernel_rfl, by kernel_rfl⟩
theorem info9 : (Tryz.prog.info? 9).map (fun i => (i.zero, i.size, i.bytes)) = some (some (.string ⟨#[]⟩), 1, 16) := by kernel_rfl
theorem makeS (n : Nat) (hn : n ≤ 3518437208883) (u : World) : (Instr.makeSlice 42 (.int .i64 ((n : Int) + 1)) (.int .i64 ((n : Int) + 1))).run Tryz.prog u =
 .ok (.slice (some ⟨u.heap.size, 0, none⟩) (n + 1) (n + 1)) (u.alloc (.cells (madeCells #[.string ⟨#[]⟩] (n + 1)) 9)) := by
 obtain ⟨i0, hi, hz0, hz1, hz2⟩ := info_parts info9
 have h := run_make (P := Tryz.prog) u 42 9 i0 (.string ⟨#[]⟩) Tryz.underlying42 hi hz0 .i64 .i64 ((n : Int) + 1) ((n : Int) + 1) (by omega) (Int.le_refl _) (by rw [hz2]; omega) (by omega)
 have e : ((n : Int) + 1).toNat = n + 1 := by omega
 rw [e] at h
 simpa [hz1, Value.cells] using h
theorem makeG : ∃ zc : Array Value, ∀ (n : Nat) (_ : n ≤ 100000000000) (u : World), (Instr.makeSlice 43 (.int .i64 ((n : Int) + 1)) (.int .i64 ((n : Int) + 1))).run Tryz.prog u =
 .ok (.slice (some ⟨u.heap.size, 0, none⟩) (n + 1) (n + 1)) (u.alloc (.cells (madeCells zc ((n + 1) * 34)) 58)) := by
 obtain ⟨zc, hzc, _⟩ := infoFz
 obtain ⟨i0, hi, hz0, hz1, hz2⟩ := info_parts hzc
 refine ⟨zc.toArray, fun n hn u => ?_⟩
 have h := run_make (P := Tryz.prog) u 43 58 i0 (.agg zc.toArray) Tryz.underlying43 hi hz0 .i64 .i64 ((n : Int) + 1) ((n : Int) + 1) (by omega) (Int.le_refl _) (by rw [hz2]; omega) (by omega)
 have e : ((n : Int) + 1).toNat = n + 1 := by omega
 rw [e] at h
 simpa [hz1, Value.cells] using h
theorem copy_strs (pl : List ByteArray) (x : Value) (ty : TypeId) (C c : Nat) (u : World) (h : Strs u x pl) (hs : ∀ j, j < pl.length → (u.cell? ⟨C, j, none⟩).isSome = true) (hf : ∀ j, u.frozen? ⟨C, j, none⟩ = false) :
 ∃ v', (Builtin.copy_ #[42, 42] ty #[.slice (some ⟨C, 0, none⟩) (pl.length + 1) c, x]).run Tryz.prog u = .ok v' (u.setCells C 0 (pl.map .string)) := by
 obtain ⟨a, xc, rfl, hb, hc⟩ := h
 have hsz : (Tryz.prog.info? 9).map (·.size) = some 1 := by kernel_rfl
 cases pl with
 | nil =>
   exact ⟨goInt 0, run_copy_nothing (P := Tryz.prog) u 42 42 ty 9 (some ⟨C, 0, none⟩) a 1 _ c xc Tryz.underlying42 hsz⟩
 | cons y l =>
   obtain ⟨b, o, rfl, -, -⟩ := hc 0 (by simp)
   refine ⟨_, run_copy_many (P := Tryz.prog) u 42 42 ty 9 1 C 0 _ c ⟨b, o, none⟩ _ xc ((y :: l).map .string) Tryz.underlying42 hsz ?_ ?_ ?_ ?_ ?_⟩
   ·have e : Nat.min (y :: l).length ((y :: l).length + 1) = (y :: l).length := Nat.min_eq_left (Nat.le_succ _)
    rw [List.length_map, e, Nat.mul_one]
   ·intro j v hj
    rw [Addr.add_mid]
    rw [List.getElem?_map] at hj
    obtain ⟨q, hq, rfl⟩ := Option.map_eq_some_iff.1 hj
    obtain ⟨hk, rfl⟩ := List.getElem?_eq_some_iff.1 hq
    obtain ⟨b', o', e, -, e0⟩ := hc j hk
    cases e
    exact e0
   ·intro j hj
    rw [Nat.zero_add]
    exact hs j (by rw [List.length_map] at hj; exact hj)
   ·intro j _
    exact hf _
   ·intro v hv
    obtain ⟨q, _, rfl⟩ := List.mem_map.1 hv
    rfl
theorem copy_files (fs : List (List Value)) (x : Value) (ty : TypeId) (C c : Nat) (u : World) (h : Fls u x fs) (hs : ∀ j, j < fs.length * 34 → (u.cell? ⟨C, j, none⟩).isSome = true) (hf : ∀ j, u.frozen? ⟨C, j, none⟩ = false) :
 ∃ v', (Builtin.copy_ #[43, 43] ty #[.slice (some ⟨C, 0, none⟩) (fs.length + 1) c, x]).run Tryz.prog u = .ok v' (u.setCells C 0 fs.flatten) := by
 obtain ⟨a, xc, rfl, hb, hc⟩ := h
 have hall : ∀ r ∈ fs, isF r := fun r hr => by
  obtain ⟨i, hi, rfl⟩ := List.mem_iff_getElem.1 hr
  exact (hc i hi).1
 have hlen := flat_lenm 34 fs (fun r hr => (hall r hr).1)
 cases fs with
 | nil =>
   exact ⟨goInt 0, run_copy_nothing (P := Tryz.prog) u 43 43 ty 58 (some ⟨C, 0, none⟩) a 34 _ c xc Tryz.underlying43 infoF⟩
 | cons y l =>
   obtain ⟨-, b, o, rfl, -, -⟩ := hc 0 (by simp)
   refine ⟨_, run_copy_many (P := Tryz.prog) u 43 43 ty 58 34 C 0 _ c ⟨b, o, none⟩ _ xc (y :: l).flatten Tryz.underlying43 infoF ?_ ?_ ?_ ?_ ?_⟩
   ·have e : Nat.min (y :: l).length ((y :: l).length + 1) = (y :: l).length := Nat.min_eq_left (Nat.le_succ _)
    rw [hlen, e]
   ·intro j v hj
    rw [Addr.add_mid]
    rw [flat_get 34 (by omega) (y :: l) (fun r hr => (hall r hr).1) j] at hj
    obtain ⟨r, hr, hv⟩ := Option.bind_eq_some_iff.1 hj
    obtain ⟨hk, rfl⟩ := List.getElem?_eq_some_iff.1 hr
    obtain ⟨-, b', o', e, -, e0⟩ := hc (j / 34) hk
    cases e
    have := e0 (j % 34) v hv
    rw [show o + j = o + j / 34 * 34 + j % 34 by omega]
    exact this
   ·intro j hj
    rw [Nat.zero_add]
    exact hs j (by rw [hlen] at hj; exact hj)
   ·intro j _
    exact hf _
   ·intro v hv
    obtain ⟨r, hr, hv⟩ := List.mem_flatten.1 hv
    exact (hall r hr).2.2 v hv
end
end Go.Proofs.YtdkpglmdncjnbaaGreatDoor
