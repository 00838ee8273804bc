import Derived.Test.YtmckmeoondlcpaaDoorVmF
namespace Go.Proofs.YtmckmeoondlcpaaDoor
open Go.RowKit

section
variable {ops : Array Oper} {rest : List Oper} {o : Oper} {a : Act} {w : World} {Q : Exit → Act → World → Prop}
theorem p_loadm (x : Operand) (ho : o.op = .load 38 x) (hw : Region.wanted o (yielded ops a.tmps) = true) (b off : Nat) (hx : a.eval x = .pointer (some ⟨b, off, none⟩)) (cs : List Value) (hr : w.rangeAt b off cs) (hl : cs.length = 43)
    (h : wpList Tryd.prog ops Q rest (a.put o.dst (.agg cs.toArray)) w) : wpList Tryd.prog ops Q (o :: rest) a w := by
  refine BigFrame.wpList_want hw fun K hK => ?_
  exact wp_load_mid 38 x ho b off hx cs _ hr Tryd.underlying38 rfl (by rw [sizeP, hl]) (hK _ _ h)
theorem p_loadu (x : Operand) (ho : o.op = .load 36 x) (hw : Region.wanted o (yielded ops a.tmps) = true) (b off : Nat) (hx : a.eval x = .pointer (some ⟨b, off, none⟩)) (cs : List Value) (hr : w.rangeAt b off cs) (hl : cs.length = 32)
    (h : wpList Tryd.prog ops Q rest (a.put o.dst (.agg cs.toArray)) w) : wpList Tryd.prog ops Q (o :: rest) a w := by
  refine BigFrame.wpList_want hw fun K hK => ?_
  exact wp_load_mid 36 x ho b off hx cs _ hr Tryd.underlying36 rfl (by rw [infoU, hl]) (hK _ _ h)
end

theorem two_new (w : World) (cs ds : List Value) (t : TypeId) : ∃ W, (w.alloc (.cells cs.toArray t)).alloc (.cells ds.toArray t) = W ∧ (∀ i v, cs[i]? = some v → W.cell? ⟨w.heap.size, i, none⟩ = some v) ∧ (∀ i v, ds[i]? = some v → W.cell? ⟨w.heap.size + 1, i, none⟩ = some v) ∧ w.heap.size + 1 < W.heap.size ∧ Below w.heap.size w W := by
  have hb : Below w.heap.size w (w.alloc (.cells cs.toArray t)) := (Below.refl w.heap.size w).alloc (Nat.le_refl _) _
  refine ⟨_, rfl, fun i v h => ?_, fun i v h => ?_, by simp, hb.alloc hb.size _⟩
  · rw [(((Below.refl (w.alloc (.cells cs.toArray t)).heap.size _).alloc (Nat.le_refl _) _).cell (p := ⟨w.heap.size, i, none⟩) (by simp)), World.cell?_alloc_new]
    simpa using h
  · rw [World.cell?_alloc_at _ _ _ _ (by simp)]
    simpa using h
theorem two_bk {wr w2 w3 w4 w5 : World} {cs ds : List Value} (z2 : w2.heap.size = wr.heap.size + 1) (z3 : w3.heap.size = w2.heap.size) (b3 : BkP w3 wr.heap.size cs) (k4 : Below w3.heap.size w3 w4) (b5 : BkP w5 w3.heap.size ds) (o5 : ∀ k, k ≠ w3.heap.size → w5.heap[k]? = w4.heap[k]?) (k5 : ∀ B, B ≤ w3.heap.size → Below B w4 w5) (K3 : Below wr.heap.size wr w3) :
    Hid (BkP w5 wr.heap.size cs) ∧ Hid (BkP w5 (wr.heap.size + 1) ds) ∧ Hid (Below wr.heap.size wr w5) := by
  have e3 : w3.heap.size = wr.heap.size + 1 := by omega
  refine ⟨hide ((b3.later k4).of (o5 _ (by omega))), hide ?_, hide (bl_t K3 (k4.trans (k5 _ (Nat.le_refl _))))⟩
  rw [← e3]; exact b5
set_option maxRecDepth 100000 in
set_option maxHeartbeats 4000000 in
theorem samePackages_any (ps : List Pk) (v u : Value) (w : World) (hl : ps.length ≤ 4611686018427387904) (hz : ∀ p ∈ ps, PkZ p) (h1 : Pkl w v ps) (h2 : Pkl w u ps) :
    Calls Tryd.prog 14 #[v, u] w fun e w' => e = .returned (.bool true) ∧ Below w.heap.size w w' := by
  obtain ⟨va, vc, rfl, hv⟩ := h1
  obtain ⟨ua, uc, rfl, hu⟩ := h2
  have HV := hide hv
  have HU := hide hu
  have HZ := hide hz
  clear hv hu hz
  obtain ⟨N, hN⟩ : ∃ N, ps.length = N := ⟨_, rfl⟩
  rw [hN] at hl ⊢
  have HN := hide hN
  clear hN
  go_enter Tryd.func14, Tryd.ntmps14
  go_wp2_with fail
  go_loopg [5, 6, 7, 8, 9] N (fun gq vi _ _ _ _ wr => ∃ i : Nat, vi = .int .i64 i ∧ i ≤ N ∧ N - i ≤ gq ∧ Hid (Below w.heap.size w wr))
  case atStart => exact ⟨0, by go_num, by omega, by omega, hide (Below.refl _ _)⟩
  case round =>
    obtain ⟨i, rfl, hi, hg, HB⟩ := hrel
    by_cases hlt : i < N
    · have hiz : (i : Int) < (N : Int) := by omega
      obtain ⟨b1, o1, rfl, g1, hc1⟩ := unhide HV (by have := unhide HN; omega)
      obtain ⟨b2, o2, rfl, g2, hc2⟩ := unhide HU (by have := unhide HN; omega)
      obtain ⟨p, hp⟩ : ∃ p, ps[i]? = some p := ⟨_, List.getElem?_eq_getElem (by have := unhide HN; omega)⟩
      have HZp := hide (unhide HZ p (List.mem_of_getElem? hp))
      obtain ⟨cs, d1, r1, c1, v1, f1, k1, kc1, kl1⟩ := hc1 i p hp
      obtain ⟨ds, d2, r2, c2, v2, f2, k2, kc2, kl2⟩ := hc2 i p hp
      have R1 := hide (rangeAt_later k1 g1 (unhide HB))
      have R2 := hide (fun (X : World) (hb : Below wr.heap.size wr X) => rangeAt_later k2 g2 (bl_t (unhide HB) hb))
      have L1 := hide (fun (X : World) (hb : Below wr.heap.size wr X) => kl1.later (bl_t (unhide HB) hb))
      have L2 := hide (fun (X : World) (hb : Below wr.heap.size wr X) => kl2.later (bl_t (unhide HB) hb))
      have C1 := hide kc1
      have C2 := hide kc2
      obtain ⟨pa1, pc1, rfl⟩ : ∃ a c, v1 = .slice a p.pv.length c := let ⟨a, c, e, _⟩ := kl1.vl; ⟨a, c, e⟩
      obtain ⟨pa2, pc2, rfl⟩ : ∃ a c, v2 = .slice a p.pv.length c := let ⟨a, c, e, _⟩ := kl2.vl; ⟨a, c, e⟩
      obtain ⟨fa1, fc1, rfl⟩ : ∃ a c, f1 = .slice a p.fs.length c := let ⟨a, c, e, _⟩ := kl1.fl; ⟨a, c, e⟩
      obtain ⟨fa2, fc2, rfl⟩ : ∃ a c, f2 = .slice a p.fs.length c := let ⟨a, c, e, _⟩ := kl2.fl; ⟨a, c, e⟩
      obtain ⟨ca1, cc1, rfl⟩ : ∃ a c, c1 = .slice a p.cf.length c := let ⟨a, c, e, _⟩ := kl1.cl; ⟨a, c, e⟩
      obtain ⟨ca2, cc2, rfl⟩ : ∃ a c, c2 = .slice a p.cf.length c := let ⟨a, c, e, _⟩ := kl2.cl; ⟨a, c, e⟩
      have hz := unhide HZp
      have CD := hide (fun (X : World) (hb : Below wr.heap.size wr X) => sameClauses_any p.dp d1 d2 X (by have := hz.dl; omega) (fun al h => by have := hz.dls al h; omega) (unhide L1 X hb).dl (unhide L2 X hb).dl)
      have CR := hide (fun (X : World) (hb : Below wr.heap.size wr X) => sameClauses_any p.pr r1 r2 X (by have := hz.rl; omega) (fun al h => by have := hz.rls al h; omega) (unhide L1 X hb).rl (unhide L2 X hb).rl)
      have CC := hide (fun (X : World) (hb : Below wr.heap.size wr X) (x y : Nat) (hx : X.cell? ⟨x, 0, none⟩ = some (.slice ca1 p.cf.length cc1)) (hy : X.cell? ⟨y, 0, none⟩ = some (.slice ca2 p.cf.length cc2)) (lx : x < X.heap.size) (ly : y < X.heap.size) => sameClauses_any [p.cf] (.slice (some ⟨x, 0, none⟩) 1 1) (.slice (some ⟨y, 0, none⟩) 1 1) X (by simp) (fun al h => by have := hz.cl; simp at h; subst h; omega) (cls_one hx lx (unhide L1 X hb).cl) (cls_one hy ly (unhide L2 X hb).cl))
      have bv := hz.vl
      have bf := hz.fl
      have hU := hide hz.sl
      clear hc1 hc2 k1 k2 kc1 kc2 kl1 kl2 hp g1 g2 hz
      have i0 : (0 : Int) ≤ (i : Int) := by omega
      go_wp2_with (first
        | (with_reducible refine p_loadm _ rfl rfl b1 (o1 + i * 43) rfl cs (unhide R1) (unhide C1).len ?_)
        | (with_reducible refine p_alloc rfl rfl ?_; intro w2 zc b2' k2 z2; guard_hyp k2 : Below wr.heap.size wr w2)
        | (with_reducible refine p_store _ _ rfl rfl wr.heap.size rfl cs rfl (unhide C1).len (unhide C1).one zc b2' ?_; intro w3 b3 o3 k3 z3; have K3 := hide (show Below wr.heap.size wr w3 from k2.trans (k3 _ (Nat.le_refl _))))
        | (with_reducible refine p_loadm _ rfl rfl b2 (o2 + i * 43) rfl ds (unhide R2 _ (unhide K3)) (unhide C2).len ?_)
        | (with_reducible refine p_alloc rfl rfl ?_; intro w4 zd b4 k4 z4)
        | ((with_reducible refine p_store _ _ rfl rfl w3.heap.size rfl ds rfl (unhide C2).len (unhide C2).one zd b4 ?_); intro w5 b5 o5 k5 z5; obtain ⟨BP, BQ, K5⟩ := two_bk z2 z3 b3 k4 b5 o5 k5 (unhide K3); have a0 := (unhide BP).cell (unhide C1).c0; have a1 := (unhide BP).cell (unhide C1).c1; have a2 := (unhide BP).cell (unhide C1).c2; have a3 := (unhide BP).cell (unhide C1).c3; have q0 := (unhide BQ).cell (unhide C2).c0; have q1 := (unhide BQ).cell (unhide C2).c1; have q2 := (unhide BQ).cell (unhide C2).c2; have q3 := (unhide BQ).cell (unhide C2).c3; clear b2' k2 b3 o3 k3 b4 k4 b5 o5 k5 R1 R2 K3))
      have hs5 := (unhide BQ).lt
      refine (unhide CD w5 (unhide K5)).mono ?_
      rintro e w6 ⟨rfl, hb6⟩
      have K6 := hide (bl_t (unhide K5) hb6)
      have a4 := ((unhide BP).later hb6).cell (unhide C1).c4
      have q4 := ((unhide BQ).later hb6).cell (unhide C2).c4
      have BP6 := hide ((unhide BP).later hb6)
      have BQ6 := hide ((unhide BQ).later hb6)
      clear hb6 a0 a1 a2 a3 q0 q1 q2 q3 BP BQ K5
      go_wp2_with fail
      refine (unhide CR w6 (unhide K6)).mono ?_
      rintro e w7 ⟨rfl, hb7⟩
      have K7 := hide (bl_t (unhide K6) hb7)
      have a5 := ((unhide BP6).later hb7).cell (unhide C1).c5
      have q5 := ((unhide BQ6).later hb7).cell (unhide C2).c5
      have BP7 := hide ((unhide BP6).later hb7)
      have BQ7 := hide ((unhide BQ6).later hb7)
      have hs7 := (unhide BQ7).lt
      have ht7 := (unhide BP7).lt
      clear hb7 a4 q4 BP6 BQ6 K6
      go_wp2_with fail
      obtain ⟨W8, hW8, m1, m2, hlt8, hB8⟩ := two_new w7 [.slice ca1 p.cf.length cc1] [.slice ca2 p.cf.length cc2] 24
      have hW8' : (w7.alloc (Obj.cells #[Value.slice ca1 p.cf.length cc1] 24)).alloc (Obj.cells #[Value.slice ca2 p.cf.length cc2] 24) = W8 := hW8
      rw [hW8']
      have K8 := hide (bl_t (unhide K7) hB8)
      refine (unhide CC W8 (unhide K8) w7.heap.size (w7.heap.size + 1) (m1 0 _ rfl) (m2 0 _ rfl) (Nat.lt_of_succ_lt hlt8) hlt8).mono ?_
      rintro e w9 ⟨rfl, hb9⟩
      have K9 := hide (bl_t (unhide K8) hb9)
      have BP9 := hide (((unhide BP7).later hB8).later hb9)
      have BQ9 := hide (((unhide BQ7).later hB8).later hb9)
      have a6 := (unhide BP9).cell (unhide C1).c6
      have a7 := (unhide BP9).cell (unhide C1).c7
      have a8 := (unhide BP9).cell (unhide C1).c8
      have a9 := (unhide BP9).cell (unhide C1).c9
      have a42 := (unhide BP9).cell (unhide C1).c42
      have q6 := (unhide BQ9).cell (unhide C2).c6
      have q7 := (unhide BQ9).cell (unhide C2).c7
      have q8 := (unhide BQ9).cell (unhide C2).c8
      have q9 := (unhide BQ9).cell (unhide C2).c9
      have q42 := (unhide BQ9).cell (unhide C2).c42
      have RA := hide (show w9.rangeAt wr.heap.size 10 p.sm from fun j x hx => (unhide BP9).cell ((unhide C1).cs0 j x hx))
      have RB := hide (show w9.rangeAt (wr.heap.size + 1) 10 p.sm from fun j x hx => (unhide BQ9).cell ((unhide C2).cs0 j x hx))
      have ce := neqU p.sm (unhide hU)
      have hU1 := (unhide hU).1
      clear hb9 hB8 hW8 hW8' m1 m2 hlt8 a5 q5 BP7 BQ7 hs7 ht7 K7 K8 CD CR CC
      go_wp2_with (first
        | ((with_reducible refine p_loadu (o := { dst := some 106, op := Op.load 36 (Operand.tmp 105), type := 36, pos := "law.go:75", after := #[{ on := 31, ground := Ground.data }, { on := 30, ground := Ground.guard }], guard := some (30, false) }) (.tmp 105) ?hu1 ?hu2 wr.heap.size 10 ?hu3 p.sm (unhide RA) hU1 ?hu4); (case hu1 => rfl); (case hu2 => rfl); (case hu3 => rfl))
        | ((with_reducible refine p_loadu (o := { dst := some 108, op := Op.load 36 (Operand.tmp 107), type := 36, pos := "law.go:75", after := #[{ on := 33, ground := Ground.data }, { on := 30, ground := Ground.guard }], guard := some (30, false) }) (.tmp 107) ?hw1 ?hw2 (wr.heap.size + 1) 10 ?hw3 p.sm (unhide RB) hU1 ?hw4); (case hw1 => rfl); (case hw2 => rfl); (case hw3 => rfl)))
      have HB9 := hide (bl_t (unhide HB) (unhide K9))
      have L19 := hide (fun (X : World) (hb : Below w9.heap.size w9 X) => unhide L1 X (bl_t (unhide K9) hb))
      have L29 := hide (fun (X : World) (hb : Below w9.heap.size w9 X) => unhide L2 X (bl_t (unhide K9) hb))
      have hs9 := (unhide BQ9).lt
      clear HB K9 L1 L2 RA RB ce hU1 a6 a7 a8 a9 a42 q6 q7 q8 q9 q42 hs5 z2 z3 z4 z5
      generalize wr.heap.size = G at *
      go_loopg [8] p.pv.length (fun gq vk wr => ∃ k : Nat, vk = .int .i64 k ∧ k ≤ p.pv.length ∧ p.pv.length - k ≤ gq ∧ Hid (Below w9.heap.size w9 wr))
      case atStart => exact ⟨0, by go_num, by omega, by omega, hide (Below.refl _ _)⟩
      case round =>
        obtain ⟨k, rfl, hk, hgk, HBr⟩ := hrel
        have a6 := ((unhide BP9).later (unhide HBr)).cell (unhide C1).c6
        have q6 := ((unhide BQ9).later (unhide HBr)).cell (unhide C2).c6
        have k0 : (0 : Int) ≤ (k : Int) := by omega
        by_cases hlk : k < p.pv.length
        · have hkz : (k : Int) < (p.pv.length : Int) := by omega
          obtain ⟨x, hx⟩ : ∃ x, p.pv[k]? = some x := ⟨_, List.getElem?_eq_getElem hlk⟩
          obtain ⟨x1, y1, rfl, _, s1⟩ := (unhide L19 wr (unhide HBr)).vl.at hx
          obtain ⟨x2, y2, rfl, _, s2⟩ := (unhide L29 wr (unhide HBr)).vl.at hx
          clear hx
          go_wp2_with fail
          go_quiet (fail)
          have HB1 := hide (bl_t (unhide HBr) (bl_drewN wr nq))
          clear a6 q6 s1 s2 HBr
          generalize wr.drewN nq = W2 at *
          go_wp2_with fail
          go_roundg (p.pv.length - (k + 1))
          case measure => omega
          case rel => exact ⟨k + 1, by go_num, by omega, by omega, HB1⟩
        · have hkz : ¬ (k : Int) < (p.pv.length : Int) := by omega
          go_wp2_with fail
          clear a6 q6
          go_loopg [9] p.fs.length (fun gq vk wr => ∃ k : Nat, vk = .int .i64 k ∧ k ≤ p.fs.length ∧ p.fs.length - k ≤ gq ∧ Hid (Below w9.heap.size w9 wr))
          case atStart => exact ⟨0, by go_num, by omega, by omega, HBr⟩
          case round =>
            clear HBr hkz k0 hlk hk hgk
            obtain ⟨k, rfl, hk, hgk, HBr⟩ := hrel
            have a7 := ((unhide BP9).later (unhide HBr)).cell (unhide C1).c7
            have q7 := ((unhide BQ9).later (unhide HBr)).cell (unhide C2).c7
            have k0 : (0 : Int) ≤ (k : Int) := by omega
            by_cases hlk : k < p.fs.length
            · have hkz : (k : Int) < (p.fs.length : Int) := by omega
              obtain ⟨x, hx⟩ : ∃ x, p.fs[k]? = some x := ⟨_, List.getElem?_eq_getElem hlk⟩
              obtain ⟨hF, x1, y1, rfl, g1, s1⟩ := (unhide L19 wr (unhide HBr)).fl.at hx
              obtain ⟨-, x2, y2, rfl, g2, s2⟩ := (unhide L29 wr (unhide HBr)).fl.at hx
              have HQ := hide (fun (w' : World) (hb : Below wr.heap.size wr w') => And.intro (cell_later a7 hb) (And.intro (cell_later q7 hb) (And.intro (rangeAt_later s1 g1 hb) (rangeAt_later s2 g2 hb))))
              have D0 := hide ((Below.refl wr.heap.size wr).drew)
              have ce := neqF x hF
              have lx : (Tryd.prog.info? 40).map (·.size) = some x.length := by rw [hF.1]; exact infoF
              have HB1 := hide (bl_t (unhide HBr) (unhide D0))
              clear hx s1 s2 g1 g2 hF
              go_wp2_with fail
              refine wp_region_held_drew (S := fun w' => w'.cell? ⟨G, 7, none⟩ = some (.slice (some ⟨x1, y1, none⟩) p.fs.length fc1) ∧ w'.cell? ⟨G + 1, 7, none⟩ = some (.slice (some ⟨x2, y2, none⟩) p.fs.length fc2) ∧ w'.rangeAt x1 (y1 + k * 34) x ∧ w'.rangeAt x2 (y2 + k * 34) x) (by kernel_rfl) ?_ (fun hHeld => ?_)
              · exact unhide HQ _ (unhide D0)
              refine wpAnyH_take (i := 0) (oi := { dst := some 143, op := Op.fieldAddr 38 (Operand.tmp 6) 7, type := 0, pos := "law.go:84", after := #[], guard := none }) (v := ?_) rfl (by kernel_rfl) (by kernel_rfl) (by kernel_rfl) (fun _ _ _ h => h) (Or.inl ⟨by rfl, ?_⟩) (by assumption) ?_
              rotate_left
              · intro w hSw; (try dsimp only at hSw); go_simp; (try with_reducible rfl)
              try simp only [Act.put, List.setIfInBounds_toArray, List.set_cons_zero, List.set_cons_succ]
              refine wpAnyH_take (i := 1) (oi := { dst := some 144, op := Op.load 35 (Operand.tmp 143), type := 35, pos := "law.go:84", after := #[{ on := 0, ground := Ground.data }], guard := none }) (v := ?_) rfl (by kernel_rfl) (by kernel_rfl) (by kernel_rfl) (fun _ _ _ h => h) (Or.inl ⟨by rfl, ?_⟩) (by assumption) ?_
              rotate_left
              · intro w hSw; (try dsimp only at hSw); go_simp; (try with_reducible rfl)
              try simp only [Act.put, List.setIfInBounds_toArray, List.set_cons_zero, List.set_cons_succ]
              refine wpAnyH_take (i := 2) (oi := { dst := some 145, op := Op.move (Operand.tmp 9), type := 3, pos := "law.go:84", after := #[], guard := none }) (v := ?_) rfl (by kernel_rfl) (by kernel_rfl) (by kernel_rfl) (fun _ _ _ h => h) (Or.inl ⟨by rfl, ?_⟩) (by assumption) ?_
              rotate_left
              · intro w hSw; (try dsimp only at hSw); go_simp; (try with_reducible rfl)
              try simp only [Act.put, List.setIfInBounds_toArray, List.set_cons_zero, List.set_cons_succ]
              refine wpAnyH_take (i := 3) (oi := { dst := some 146, op := Op.indexAddr 35 (Operand.tmp 144) (Operand.tmp 145), type := 0, pos := "law.go:84", after := #[{ on := 1, ground := Ground.data }, { on := 2, ground := Ground.data }], guard := none }) (v := ?_) rfl (by kernel_rfl) (by kernel_rfl) (by kernel_rfl) (fun _ _ _ h => h) (Or.inl ⟨by rfl, ?_⟩) (by assumption) ?_
              rotate_left
              · intro w hSw; (try dsimp only at hSw); go_simp; (try with_reducible rfl)
              try simp only [Act.put, List.setIfInBounds_toArray, List.set_cons_zero, List.set_cons_succ]
              refine wpAnyH_take (i := 4) (oi := { dst := some 147, op := Op.load 40 (Operand.tmp 146), type := 40, pos := "law.go:84", after := #[{ on := 3, ground := Ground.data }], guard := none }) (v := .agg x.toArray) rfl (by kernel_rfl) (by kernel_rfl) (by kernel_rfl) (fun _ _ _ h => h) (yieldsIf_load_mid (by rfl) 40 (.tmp 146) rfl x1 (y1 + k * 34) (by rfl) x _ (fun _ h => h.2.2.1) Tryd.underlying40 rfl lx) (by assumption) ?_
              try simp only [Act.put, List.setIfInBounds_toArray, List.set_cons_zero, List.set_cons_succ]
              refine wpAnyH_take (i := 5) (oi := { dst := some 148, op := Op.fieldAddr 38 (Operand.tmp 7) 7, type := 0, pos := "law.go:84", after := #[], guard := none }) (v := ?_) rfl (by kernel_rfl) (by kernel_rfl) (by kernel_rfl) (fun _ _ _ h => h) (Or.inl ⟨by rfl, ?_⟩) (by assumption) ?_
              rotate_left
              · intro w hSw; (try dsimp only at hSw); go_simp; (try with_reducible rfl)
              try simp only [Act.put, List.setIfInBounds_toArray, List.set_cons_zero, List.set_cons_succ]
              refine wpAnyH_take (i := 6) (oi := { dst := some 149, op := Op.load 35 (Operand.tmp 148), type := 35, pos := "law.go:84", after := #[{ on := 5, ground := Ground.data }], guard := none }) (v := ?_) rfl (by kernel_rfl) (by kernel_rfl) (by kernel_rfl) (fun _ _ _ h => h) (Or.inl ⟨by rfl, ?_⟩) (by assumption) ?_
              rotate_left
              · intro w hSw; (try dsimp only at hSw); go_simp; (try with_reducible rfl)
              try simp only [Act.put, List.setIfInBounds_toArray, List.set_cons_zero, List.set_cons_succ]
              refine wpAnyH_take (i := 7) (oi := { dst := some 150, op := Op.move (Operand.tmp 9), type := 3, pos := "law.go:84", after := #[], guard := none }) (v := ?_) rfl (by kernel_rfl) (by kernel_rfl) (by kernel_rfl) (fun _ _ _ h => h) (Or.inl ⟨by rfl, ?_⟩) (by assumption) ?_
              rotate_left
              · intro w hSw; (try dsimp only at hSw); go_simp; (try with_reducible rfl)
              try simp only [Act.put, List.setIfInBounds_toArray, List.set_cons_zero, List.set_cons_succ]
              refine wpAnyH_take (i := 8) (oi := { dst := some 151, op := Op.indexAddr 35 (Operand.tmp 149) (Operand.tmp 150), type := 0, pos := "law.go:84", after := #[{ on := 6, ground := Ground.data }, { on := 7, ground := Ground.data }], guard := none }) (v := ?_) rfl (by kernel_rfl) (by kernel_rfl) (by kernel_rfl) (fun _ _ _ h => h) (Or.inl ⟨by rfl, ?_⟩) (by assumption) ?_
              rotate_left
              · intro w hSw; (try dsimp only at hSw); go_simp; (try with_reducible rfl)
              try simp only [Act.put, List.setIfInBounds_toArray, List.set_cons_zero, List.set_cons_succ]
              refine wpAnyH_take (i := 9) (oi := { dst := some 152, op := Op.load 40 (Operand.tmp 151), type := 40, pos := "law.go:84", after := #[{ on := 8, ground := Ground.data }], guard := none }) (v := .agg x.toArray) rfl (by kernel_rfl) (by kernel_rfl) (by kernel_rfl) (fun _ _ _ h => h) (yieldsIf_load_mid (by rfl) 40 (.tmp 151) rfl x2 (y2 + k * 34) (by rfl) x _ (fun _ h => h.2.2.2) Tryd.underlying40 rfl lx) (by assumption) ?_
              try simp only [Act.put, List.setIfInBounds_toArray, List.set_cons_zero, List.set_cons_succ]
              refine wpAnyH_take (i := 10) (oi := { dst := some 153, op := Op.binOp BinOp.neq 40 (Operand.tmp 147) (Operand.tmp 152) 40, type := 4, pos := "law.go:84", after := #[{ on := 4, ground := Ground.data }, { on := 9, ground := Ground.data }], guard := none }) (v := ?_) rfl (by kernel_rfl) (by kernel_rfl) (by kernel_rfl) (fun _ _ _ h => h) (Or.inl ⟨by rfl, ?_⟩) (by assumption) ?_
              rotate_left
              · intro w hSw; (try dsimp only at hSw); go_simp; (try with_reducible rfl)
              try simp only [Act.put, List.setIfInBounds_toArray, List.set_cons_zero, List.set_cons_succ]
              refine wpAnyH_done (by kernel_rfl) ?_ _
              go_wp2_with fail
              go_roundg (p.fs.length - (k + 1))
              case measure => omega
              case rel => exact ⟨k + 1, by go_num, by omega, by omega, HB1⟩
            · have hkz : ¬ (k : Int) < (p.fs.length : Int) := by omega
              go_wp2_with fail
              go_roundg (N - (i + 1))
              case measure => omega
              case rel => exact ⟨i + 1, by go_num, by omega, by omega, hide (bl_t (unhide HB9) (unhide HBr))⟩
    · go_wp2_with fail
      go_ret
      exact ⟨rfl, unhide HB⟩
end Go.Proofs.YtmckmeoondlcpaaDoor
