import Derived.Test.YtdkpglmdncjnbaaGreatDoorZf35
namespace Go.Proofs.YtdkpglmdncjnbaaGreatDoor
open Go.RowKit Go.Maps
theorem wpl_append_run {P : Program} {ops : Array Oper} {rest : List Oper} {o : Oper} {a : Act} {w w' : World} {v' : Value} {Q : Exit → Act → World → Prop} (hgd : o.guard = none) (s x : Operand) (t : TypeId)
 (ho : o.op = .call { callee := .builtin .append, args := #[s, x], argTypes := #[t, t] }) (vs vx : Value) (hs : a.eval s = vs) (hx : a.eval x = vx)
 (hr : (Builtin.append_ #[t, t] o.type #[vs, vx]).run P w = .ok v' w') (h : wpList P ops Q rest (a.put o.dst v') w') : wpList P ops Q (o :: rest) a w := by
 refine wpList_plain hgd fun K hK => ?_
 exact wp_append_run s x t ho vs vx hs hx hr (hK _ _ h)
theorem Fs.cat {W wr : World} {s r : Value} {l m : List Ft} {lo : Nat} (h : Fs W wr s l) (hr : wr.ownsRow lo 31 6 r m.length (ftC m)) (hl : l.length + m.length ≤ 549755813888) (ty : TypeId) : ∃ v' w9, (Builtin.append_ #[24, 24] ty #[s, r]).run Tryz.prog wr = .ok v' w9 ∧ Fs W w9 v' (l ++ m) := by
 obtain ⟨i0, hi, hz0, hz1, hz2⟩ := info_parts2 infoFt
 have hbz := h.bw.size
 have hr0 := hr
 rcases hr.2 with ⟨q1, q2⟩ | ⟨g, cap, cur, q1, _⟩
 ·subst q1
  have e : m = [] := List.length_eq_zero_iff.1 q2
  subst e
  exact ⟨s, wr, run_append_owned_none (P := Tryz.prog) wr W.heap.size 24 ty 31 i0 6 Tryz.underlying24 hi s l.length (ftC l) h.row, by rw [List.append_nil]; exact h⟩
 ·subst q1
  obtain ⟨v', w9, hr9, h2, h3, _, _⟩ := run_append_own_at (P := Tryz.prog) wr W.heap.size 24 ty 31 i0 (.agg #[.int .i64 0, .string ⟨#[]⟩, .string ⟨#[]⟩, .int .i64 0, .string ⟨#[]⟩, .string ⟨#[]⟩]) 6 80 Tryz.underlying24 hi hz0 hz1 hz2 rfl (by decide) s l.length (ftC l) h.row ⟨g, 0, none⟩ m.length cap (ftC m) (ftC_len m) (fun k u hu => by
   have hc := hr0.cells (g := g) rfl k u hu
   rw [Addr.add_mid, Nat.zero_add] at hc ⊢
   exact hc) (one_ftC m) (by unfold maxLen; omega) (by omega) hbz
  exact ⟨v', w9, hr9, h.more h2 h3⟩
def twI (ps : List Pk) (q : Pk) (i : Nat) : List Ft := ((List.range i).filter (isN ps q.nm)).map (twT ps q)
theorem twI_no {ps : List Pk} {q : Pk} {i : Nat} (h : isN ps q.nm i = false) : twI ps q (i + 1) = twI ps q i := by
 unfold twI
 rw [List.range_succ, List.filter_append, List.filter_cons, List.filter_nil, h]
 simp
theorem twI_yes {ps : List Pk} {q : Pk} {i : Nat} (h : isN ps q.nm i = true) : twI ps q (i + 1) = twI ps q i ++ [twT ps q i] := by
 unfold twI
 rw [List.range_succ, List.filter_append, List.filter_cons, List.filter_nil, h]
 simp
theorem twI_len (ps : List Pk) (q : Pk) (i : Nat) : (twI ps q i).length ≤ i := twF_len ps i q
theorem isN_at {ps : List Pk} {i : Nat} {q : Pk} (h : ps[i]? = some q) (x : Nm) : isN ps x i = decide (q.nm = x) := by unfold isN; rw [h]
def unI (ps : List Pk) (q : Pk) (kd : Int) (cl : List (List At)) (bt : Int) (i : Nat) : List Ft := (List.range i).flatMap fun i => unE ps q kd i (cl.getD i []) bt
theorem unI_succ (ps : List Pk) (q : Pk) (kd : Int) (cl : List (List At)) (bt : Int) (i : Nat) : unI ps q kd cl bt (i + 1) = unI ps q kd cl bt i ++ unE ps q kd i (cl.getD i []) bt := by
 unfold unI
 rw [List.range_succ, List.flatMap_append]
 simp
theorem unI_len (ps : List Pk) (q : Pk) (kd : Int) (cl : List (List At)) (bt : Int) : ∀ i, (unI ps q kd cl bt i).length ≤ i
 | 0 => Nat.zero_le _
 | i + 1 => by
   rw [unI_succ, List.length_append]
   have h1 := unI_len ps q kd cl bt i
   have h2 : (unE ps q kd i (cl.getD i []) bt).length ≤ 1 := by
    unfold unE
    split <;> simp
   omega
theorem paO_ahd (ps : List Pk) (p : Nat) (q : Pk) (n : Nat) (x : List Value) : (ahd ps p n (pathC x) = -1 ∧ paO ps p q n x = []) ∨ (∃ j : Nat, ahd ps p n (pathC x) = (j : Int) ∧ j < ps.length ∧ paO ps p q n x = [⟨5, q.nm, q.vr, n, nmA ps j, vrA ps j⟩]) := by
 unfold ahd paO
 cases h : fst1 (spL ps ps.length) (pathC x) with
 | none => exact .inl ⟨rfl, rfl⟩
 | some t =>
   by_cases e : t = (p, n)
   ·left
    simp only [if_pos e]
    exact ⟨trivial, trivial⟩
   ·right
    simp only [if_neg e]
    exact ⟨t.1, rfl, ((spL_mem2 ps _ _).1 (fst1_some2 h)).1, rfl⟩
set_option maxRecDepth 100000 in
set_option maxHeartbeats 16000000 in
theorem rof_any {w : World} {v : Value} {ps : List Pk} {p : Nat} {q : Pk} (sm : SmP ps) (pk : Pkl w v ps) (hq : ps[p]? = some q) :
 Calls Tryz.prog 26 #[v, .int .i64 (p : Int)] w fun e w' => ∃ r, e = .returned r ∧ w'.ownsRow w.heap.size 31 6 r (ftA ps p q).length (ftC (ftA ps p q)) ∧ RowKit.Below w.heap.size w w' := by
 obtain ⟨xs, hxs, hsim⟩ := sim_of pk (fun p hp => (sm.z p hp).2.1)
 have hpl := (List.getElem?_eq_some_iff.1 hq).1
 have hpn : (p : Int) < (ps.length : Int) := by omega
 have hl := sm.l
 have hmem := List.mem_of_getElem? hq
 have hcl : q.cf.length ≤ 1048576 := Nat.le_trans (le_sum (fun p : Pk => p.cf.length) hmem) sm.sc
 have hdl : q.dp.length ≤ 1048576 := Nat.le_trans (le_sum (fun p : Pk => p.dp.length) hmem) sm.sd
 have hrl : q.pr.length ≤ 1048576 := Nat.le_trans (le_sum (fun p : Pk => p.pr.length) hmem) sm.sr
 have hfl : q.fs.length ≤ 1048576 := Nat.le_trans (le_sum (fun p : Pk => p.fs.length) hmem) sm.sf
 have hJL : (cfJ ps p q q.cf.length).length ≤ 274877906944 := by
  have h1 := cfJ_len ps p q q.cf.length
  have h3 : q.cf.length * ps.length ≤ 1048576 * 262144 := Nat.mul_le_mul (by omega) (by omega)
  omega
 obtain ⟨vb, vo, vc, cs, dd, rr, cc, pv, ff, rfl, hvb, hr, hpc, hll⟩ := pk.at2 hq
 obtain ⟨da, dc, df, rfl, hcd⟩ := cv_of hll.dl
 obtain ⟨ra, rc, rf, rfl, hcr⟩ := cv_of hll.rl
 obtain ⟨fa, fc, rfl⟩ : ∃ a c, ff = .slice a q.fs.length c := let ⟨a, c, e, _⟩ := hll.fl; ⟨a, c, e⟩
 have HMD := hide (show ∀ X, RowKit.Below w.heap.size w X → ∀ i, i < q.dp.length → ∃ b o, da = some ⟨b, o, none⟩ ∧ X.cell? ⟨b, o + i, none⟩ = some (.slice (df i).a (df i).n (df i).c) ∧ Calls Tryz.prog 33 #[.slice (some ⟨vb, vo, none⟩) ps.length vc, .int .i64 (p : Int), .slice (df i).a (df i).n (df i).c, .bool false] X fun e w' => e = .returned (.bool (imP ps (fun _ => true) (-1) (q.dp.getD i []))) ∧ RowKit.Below X.heap.size X w' from fun X hX i hi => by
  obtain ⟨b, o, h1, h2, h3, h4⟩ := (hcd.later hX).at_ i hi
  refine ⟨b, o, h1, h3, ?_⟩
  have hz := (sm.d q hmem _ (getD_mem hi)).2
  have := rMet_any xs (p : Int) false (q.dp.getD i []) _ _ X (by rw [hsim.1]; omega) (fun j hj => (hz _ (List.getElem_mem hj)).2) (hxs.later hX) h4
  rw [metA_dep hsim] at this
  exact this)
 have HMR := hide (show ∀ X, RowKit.Below w.heap.size w X → ∀ i, i < q.pr.length → ∃ b o, ra = some ⟨b, o, none⟩ ∧ X.cell? ⟨b, o + i, none⟩ = some (.slice (rf i).a (rf i).n (rf i).c) ∧ Calls Tryz.prog 33 #[.slice (some ⟨vb, vo, none⟩) ps.length vc, .int .i64 (p : Int), .slice (rf i).a (rf i).n (rf i).c, .bool true] X fun e w' => e = .returned (.bool (imP ps (fun _ => true) (p : Int) (q.pr.getD i []))) ∧ RowKit.Below X.heap.size X w' from fun X hX i hi => by
  obtain ⟨b, o, h1, h2, h3, h4⟩ := (hcr.later hX).at_ i hi
  refine ⟨b, o, h1, h3, ?_⟩
  have hz := (sm.r q hmem _ (getD_mem hi)).2
  have := rMet_any xs (p : Int) true (q.pr.getD i []) _ _ X (by rw [hsim.1]; omega) (fun j hj => (hz _ (List.getElem_mem hj)).2) (hxs.later hX) h4
  rw [metA_pre hsim] at this
  exact this)
 have HCF := hide (show ∀ X, RowKit.Below w.heap.size w X → Calls Tryz.prog 55 #[.slice (some ⟨vb, vo, none⟩) ps.length vc, .int .i64 (p : Int)] X fun e w' => ∃ r, e = .returned r ∧ w'.ownsRow X.heap.size 31 6 r (cfJ ps p q q.cf.length).length (ftC (cfJ ps p q q.cf.length)) ∧ RowKit.Below X.heap.size X w' from fun X hX => rconflicts_any sm (pk.later hX) hq)
 have HAH := hide (show ∀ X, RowKit.Below w.heap.size w X → ∀ (n : Nat) (x : List Value), q.fs[n]? = some x → Calls Tryz.prog 56 #[.slice (some ⟨vb, vo, none⟩) ps.length vc, .int .i64 (p : Int), .int .i64 (n : Int)] X fun e w' => e = .returned (.int .i64 (ahd ps p n (pathC x))) ∧ RowKit.Below X.heap.size X w' from fun X hX n x hx => rahead_any (w := X) (v := .slice (some ⟨vb, vo, none⟩) ps.length vc) (ps := ps) (p := p) (n := n) (q := q) (x := x) sm (pk.later hX) hq hx)
 have HP := hide pk
 have HR0 := hide hr
 have HC := hide hpc
 have HI2 := hide (show (Tryz.prog.info? 46).map (·.size) = some cs.length by rw [hpc.len]; kernel_rfl)
 clear pk hll hr hpc hq hmem sm hcd hcr hxs hsim
 go_enter Tryz.func26, Tryz.ntmps26
 go_wp2_with (first
  | (with_reducible refine p_loadm _ rfl rfl vb (vo + p * 43) rfl cs (unhide HR0) (unhide HC).len ?_)
  | (with_reducible refine p_alloc rfl rfl ?_; intro w2 zc b2 k2 z2)
  | ((with_reducible refine p_store _ _ rfl rfl w.heap.size rfl cs rfl (unhide HC).len (unhide HC).one zc b2 ?_); intro w3 b3 o3 k3 z3; obtain ⟨K3, B3⟩ := new_bkK k2 b3 k3; clear b2 k2 b3 o3 k3 z2 z3))
 have HS0 := hide (Fs.start w3)
 have HBL := hide (unhide B3).lt
 have RB := hide (show ∀ X, RowKit.Below w3.heap.size w3 X → BkP X w.heap.size cs from fun X hX => (unhide B3).of (hX.block _ (unhide HBL)))
 have RP := hide (show ∀ X, RowKit.Below w3.heap.size w3 X → ∀ (j : Nat) (u : Value), cs[j]? = some u → X.cell? ⟨w.heap.size, j, none⟩ = some u from fun X hX j u hj => by
  rw [hX.cell (p := ⟨w.heap.size, j, none⟩) (unhide HBL), (cell_blk (unhide B3).at_ j).1, List.getElem?_toArray]
  exact hj)
 have RQ := hide (show ∀ X, RowKit.Below w3.heap.size w3 X → X.rangeAt w.heap.size 0 cs from fun X hX j u hj => by
  rw [Nat.zero_add]
  exact unhide RP X hX j u hj)
 have RV := hide (show ∀ (i : Nat) (qi : Pk), ps[i]? = some qi → ∃ ci d r c pv f, PkC ci qi d r c pv f ∧ ∀ X, RowKit.Below w3.heap.size w3 X → X.rangeAt vb (vo + i * 43) ci from fun i qi hqi => by
  obtain ⟨vb', vo', vc', ci, d', r', c', pv', f', e0, hvb', hr', hpc', hll'⟩ := (unhide HP).at2 hqi
  injection e0 with e1 e2 e3
  injection e1 with e1
  injection e1 with e1 e4 e5
  subst e1 e4
  exact ⟨ci, d', r', c', pv', f', hpc', fun X hX => range_bel hr' hvb' (bl_t (unhide K3) hX)⟩)
 clear B3
 go_loopg [5, 7] p (fun gq lv iv wr => ∃ i : Nat, iv = .int .i64 i ∧ i ≤ p ∧ p - i ≤ gq ∧ Hid (Fs w3 wr lv (twI ps q i)))
 case atStart => exact ⟨0, by go_num, by omega, by omega, HS0⟩
 case round =>
  clear HS0
  obtain ⟨i, rfl, hi, hgi, HF⟩ := hrel
  by_cases hlt : i < p
  ·have hiz : (i : Int) < (p : Int) := by omega
   have hin : (i : Int) < (ps.length : Int) := by omega
   obtain ⟨qi, hqi⟩ : ∃ q, ps[i]? = some q := ⟨_, List.getElem?_eq_getElem (by omega)⟩
   obtain ⟨ci, d', r', c', pv', f', hpc', hri⟩ := unhide RV i qi hqi
   have HQI := hide hqi
   have HCI := hide hpc'
   have HI3 := hide (show (Tryz.prog.info? 46).map (·.size) = some ci.length by rw [hpc'.len]; kernel_rfl)
   have n0 := hri _ (bl_t (unhide HF).bw (Below.refl _ wr).drew) 0 _ hpc'.c0
   have n1 := unhide RP _ (bl_t (unhide HF).bw (Below.refl _ wr).drew) 0 _ (unhide HC).c0
   rw [Nat.add_zero] at n0
   have HRI := hide hri
   have HF1 := hide ((unhide HF).later (Below.refl _ wr).drew)
   have hlb : (twI ps q i).length ≤ 1099511627776 := by
    have := twI_len ps q i
    omega
   clear hqi hpc' hri
   obtain ⟨w5, hw5⟩ : ∃ x, x = wr.drew := ⟨_, rfl⟩
   have HFX := hide (show Fs w3 w5 u5 (twI ps q i) from by rw [hw5]; exact unhide HF1)
   have HW5 := hide hw5
   clear hw5 HF1
   by_cases e : qi.nm = q.nm
   ·have hbe : (ByteArray.toList qi.nm == ByteArray.toList q.nm) = true := by rw [e]; exact beq_self_eq_true _
    have HY := hide (show twI ps q (i + 1) = twI ps q i ++ [⟨1, q.nm, q.vr, (i : Int), qi.nm, qi.vr⟩] from by
     rw [twI_yes (by rw [isN_at (unhide HQI), e]; exact decide_eq_true rfl)]
     unfold twT
     rw [nmA_at (unhide HQI), vrA_at (unhide HQI)])
    have RL := hide (show ∀ X, RowKit.Below w5.heap.size w5 X → X.rangeAt w.heap.size 0 cs from fun X hX => unhide RQ X (bl_t (unhide HFX).bw hX))
    have RI := hide (show ∀ X, RowKit.Below w5.heap.size w5 X → X.rangeAt vb (vo + i * 43) ci from fun X hX => unhide HRI X (bl_t (unhide HFX).bw hX))
    have RL9 := hide (show ∀ X v l, Fs w3 X v l → X.rangeAt w.heap.size 0 cs from fun X v l h => unhide RQ X h.bw)
    have RI9 := hide (show ∀ X v l, Fs w3 X v l → X.rangeAt vb (vo + i * 43) ci from fun X v l h => unhide HRI X h.bw)
    have E0 := hide ((Below.refl w5.heap.size w5).drew)
    clear e
    go_wp2_with fail
    go_region_held3 (fun w' => w'.cell? ⟨vb, vo + i * 43, none⟩ = some (.string qi.nm) ∧ w'.cell? ⟨w.heap.size, 0, none⟩ = some (.string q.nm)) (exact ⟨n0, n1⟩) (fail)
    rw [← unhide HW5]
    clear n0 n1
    go_wp2_with fail
    refine wp_region_held_drew (S := fun w' => w'.rangeAt w.heap.size 0 cs ∧ w'.rangeAt vb (vo + i * 43) ci) (by kernel_rfl) ?_ (fun hHeld => ?_)
    ·exact ⟨unhide RL _ (unhide E0), unhide RI _ (unhide E0)⟩
    refine tk2 0 (⟨some 32, .move (.tmp 5), 24, "ref.go:72", #[], none⟩) ?_
    refine tkH 1 ⟨some 33, .load 46 (.tmp 6), 46, "ref.go:72", #[], none⟩ (v := .agg cs.toArray) (yieldsIf_load_mid (by rfl) 46 (.tmp 6) rfl w.heap.size (0) (by rfl) cs _ (fun _ h => h.1) Tryz.underlying46 rfl (unhide HI2)) ?_
    try simp only [Act.put, sqB, sq0, sq1]
    refine tk2 3 (⟨some 35, .move (.tmp 7), 3, "ref.go:72", #[], none⟩) ?_
    refine tk2 4 (⟨some 36, .move (.tmp 0), 22, "ref.go:72", #[], none⟩) ?_
    refine tk2 5 (⟨some 37, .move (.tmp 7), 3, "ref.go:72", #[], none⟩) ?_
    refine tk2 6 (⟨some 38, .indexAddr 22 (.tmp 36) (.tmp 37), 0, "ref.go:72", #[⟨4, .data⟩, ⟨5, .data⟩], none⟩) ?_
    refine tkH 7 ⟨some 39, .load 46 (.tmp 38), 46, "ref.go:72", #[⟨6, .data⟩], none⟩ (v := .agg ci.toArray) (yieldsIf_load_mid (by rfl) 46 (.tmp 38) rfl vb (vo + i * 43) (by rfl) ci _ (fun _ h => h.2) Tryz.underlying46 rfl (unhide HI3)) ?_
    try simp only [Act.put, sqB, sq0, sq1]
    refine wpAnyH_ready (rs := [2]) (by kernel_rfl) (by simp) ?_
    refine AllReadyH.cons (o := ⟨some 34, .call { callee := .value (.func 52), args := #[.tmp 33], argTypes := #[46] }, 29, "ref.go:72", #[⟨1, .data⟩], none⟩) rfl (fun K hK => ?_) AllReadyH.nil
    go_simp
    refine (rKeyOf_any cs q.nm q.vr _ (unhide HC).c0 (unhide HC).c1).mono ?_
    rintro e y1 ⟨rfl, hv1⟩
    have E1 := hide (bl_t (unhide E0) hv1)
    clear hv1
    go_wp2_with fail
    refine hK.out _ _ ⟨unhide RL _ (unhide E1), unhide RI _ (unhide E1)⟩ (fun hHeld => ?_)
    clear hK K
    try simp only [Act.put, sqB, sq0, sq1]
    refine wpAnyH_ready (rs := [8]) (by kernel_rfl) (by simp) ?_
    refine AllReadyH.cons (o := ⟨some 40, .call { callee := .value (.func 52), args := #[.tmp 39], argTypes := #[46] }, 29, "ref.go:72", #[⟨7, .data⟩, ⟨2, .chain⟩], none⟩) rfl (fun K hK => ?_) AllReadyH.nil
    go_simp
    refine (rKeyOf_any ci qi.nm qi.vr _ (unhide HCI).c0 (unhide HCI).c1).mono ?_
    rintro e y2 ⟨rfl, hv2⟩
    have E2 := hide (bl_t (unhide E1) hv2)
    clear hv2
    go_wp2_with fail
    refine hK.out _ _ ⟨unhide RL _ (unhide E2), unhide RI _ (unhide E2)⟩ (fun hHeld => ?_)
    clear hK K
    try simp only [Act.put, sqB, sq0, sq1]
    refine tk2 9 (⟨some 41, .build 31 #[(0, .const (Value.int IntKind.i64 1)), (1, .tmp 34), (2, .tmp 35), (3, .tmp 40)], 31, "ref.go:72", #[⟨2, .data⟩, ⟨3, .data⟩, ⟨8, .data⟩], none⟩) ?_
    obtain ⟨v9, w9, hr9, hf9⟩ := ((unhide HFX).later (unhide E2)).put ⟨1, q.nm, q.vr, (i : Int), qi.nm, qi.vr⟩ hlb 24
    have E3 := hide (bl_t (unhide E2) ((Below.refl _ y2).alloc (Nat.le_refl _) (.cells (Ft.cs ⟨1, q.nm, q.vr, (i : Int), qi.nm, qi.vr⟩).toArray 31)))
    have HF9 := hide hf9
    clear hf9
    refine wpAnyH_ready (rs := [10]) (by kernel_rfl) (by simp) ?_
    refine AllReadyH.cons (o := ⟨some 42, .buildSlice 24 1 #[(0, .tmp 41)], 24, "ref.go:72", #[⟨9, .data⟩], none⟩) rfl (fun K hK => ?_) AllReadyH.nil
    go_simp
    refine hK.out _ _ ⟨unhide RL _ (unhide E3), unhide RI _ (unhide E3)⟩ (fun hHeld => ?_)
    clear hK K
    try simp only [Act.put, sqB, sq0, sq1]
    refine wpAnyH_ready (rs := [11]) (by kernel_rfl) (by simp) ?_
    refine AllReadyH.cons (o := ⟨some 43, .call { callee := .builtin Builtin.append, args := #[.tmp 32, .tmp 42], argTypes := #[24, 24] }, 24, "ref.go:72", #[⟨0, .data⟩, ⟨10, .data⟩, ⟨8, .chain⟩], none⟩) rfl (fun K hK => ?_) AllReadyH.nil
    refine wp_append_run _ _ 24 rfl _ _ rfl rfl hr9 ?_
    refine hK.out _ _ ⟨unhide RL9 _ _ _ (unhide HF9), unhide RI9 _ _ _ (unhide HF9)⟩ (fun hHeld => ?_)
    clear hK K
    try simp only [Act.put, sqB, sq0, sq1]
    refine tk2 12 (⟨some 5, .assign (.tmp 43), 24, "ref.go:72", #[⟨11, .data⟩, ⟨11, .chain⟩, ⟨0, .phase⟩, ⟨1, .phase⟩, ⟨2, .phase⟩, ⟨3, .phase⟩, ⟨4, .phase⟩, ⟨5, .phase⟩, ⟨6, .phase⟩, ⟨7, .phase⟩, ⟨8, .phase⟩, ⟨9, .phase⟩, ⟨10, .phase⟩, ⟨11, .phase⟩], none⟩) ?_
    refine wpAnyH_done (by kernel_rfl) ?_ _
    go_wp2_with fail
    go_roundg (p - (i + 1))
    case measure => omega
    case rel => exact ⟨i + 1, by go_num, by omega, by omega, hide (by rw [unhide HY]; exact unhide HF9)⟩
   ·have hbe : (ByteArray.toList qi.nm == ByteArray.toList q.nm) = false := by
     rw [beq_eq_false_iff_ne]
     exact fun h => e (bl_eqK h)
    have HF2 := hide (show Fs w3 w5 u5 (twI ps q (i + 1)) from by
     rw [twI_no (by rw [isN_at (unhide HQI)]; exact decide_eq_false e)]
     exact unhide HFX)
    clear e
    go_wp2_with fail
    go_region_held3 (fun w' => w'.cell? ⟨vb, vo + i * 43, none⟩ = some (.string qi.nm) ∧ w'.cell? ⟨w.heap.size, 0, none⟩ = some (.string q.nm)) (exact ⟨n0, n1⟩) (fail)
    rw [← unhide HW5]
    clear n0 n1
    go_wp2_with fail
    go_roundg (p - (i + 1))
    case measure => omega
    case rel => exact ⟨i + 1, by go_num, by omega, by omega, HF2⟩
  ·obtain rfl : p = i := by omega
   obtain ⟨wA, rfl⟩ : ∃ x, x = wr := ⟨_, rfl⟩
   have HT := hide (show Fs w3 wA u5 (twF ps p q ++ unI ps q 2 q.dp (-1) 0) from by
    have e : unI ps q 2 q.dp (-1) 0 = [] := rfl
    rw [e, List.append_nil]
    exact unhide HF)
   have htl : (twF ps p q).length ≤ 262144 := by
    have := twF_len ps p q
    omega
   clear HF
   go_wp2_with fail
   go_loopg [5, 8] q.dp.length (fun gq lv kv wr => ∃ k : Nat, kv = .int .i64 k ∧ k ≤ q.dp.length ∧ q.dp.length - k ≤ gq ∧ Hid (Fs w3 wr lv (twF ps p q ++ unI ps q 2 q.dp (-1) k)))
   case atStart => exact ⟨0, by go_num, by omega, by omega, HT⟩
   case round =>
    clear HT
    obtain ⟨k, rfl, hk, hgk, HF⟩ := hrel
    have cc3 := unhide RP wr (unhide HF).bw 3 _ (unhide HC).c3
    by_cases hlk : k < q.dp.length
    ·have hkz : (k : Int) < (q.dp.length : Int) := by omega
     obtain ⟨b, o, rfl, cm, hcall⟩ := unhide HMD wr (bl_t (unhide K3) (unhide HF).bw) k hlk
     have CM := hide hcall
     have hlb : (twF ps p q ++ unI ps q 2 q.dp (-1) k).length ≤ 1099511627776 := by
      rw [List.length_append]
      have := unI_len ps q 2 q.dp (-1) k
      omega
     have HU := hide (unI_succ ps q 2 q.dp (-1) k)
     clear hcall
     cases hm : imP ps (fun _ => true) (-1) (q.dp.getD k []) with
     | true =>
       rw [hm] at CM
       have HE := hide (show twF ps p q ++ unI ps q 2 q.dp (-1) (k + 1) = twF ps p q ++ unI ps q 2 q.dp (-1) k from by
        rw [unhide HU]
        unfold unE
        rw [hm]
        simp)
       clear hm
       go_wp2_with (go_at_call 33; refine (unhide CM).mono ?_; rintro e w5 ⟨rfl, hb5⟩; have HF5 := hide ((unhide HF).later hb5); clear hb5 CM cc3 cm)
       go_roundg (q.dp.length - (k + 1))
       case measure => omega
       case rel => exact ⟨k + 1, by go_num, by omega, by omega, hide (by rw [unhide HE]; exact unhide HF5)⟩
     | false =>
       rw [hm] at CM
       have HE := hide (show twF ps p q ++ unI ps q 2 q.dp (-1) (k + 1) = (twF ps p q ++ unI ps q 2 q.dp (-1) k) ++ [⟨2, q.nm, q.vr, (k : Int), ⟨#[]⟩, ⟨#[]⟩⟩] from by
        rw [unhide HU, ← List.append_assoc]
        unfold unE
        rw [hm]
        rfl)
       clear hm
       go_wp2_with (first
        | (go_at_call 33; refine (unhide CM).mono ?_; rintro e w5 ⟨rfl, hb5⟩; have HF5 := hide ((unhide HF).later hb5); clear hb5 CM cc3 cm)
        | (with_reducible refine p_load _ rfl rfl w.heap.size rfl cs (unhide RB w5 (unhide HF5).bw) ?_)
        | (go_at_call 52; refine (rKeyOf_any cs q.nm q.vr _ (unhide HC).c0 (unhide HC).c1).mono ?_; rintro e w6 ⟨rfl, hb6⟩; have HF6 := hide ((unhide HF5).later hb6); obtain ⟨v9, w9, hr9, hf9⟩ := (unhide HF6).put ⟨2, q.nm, q.vr, (k : Int), ⟨#[]⟩, ⟨#[]⟩⟩ hlb 24; have HF9 := hide hf9; clear hb6 hf9)
        | (at_builtin; refine wpl_append_run rfl _ _ 24 rfl _ _ rfl rfl hr9 ?_))
       go_roundg (q.dp.length - (k + 1))
       case measure => omega
       case rel => exact ⟨k + 1, by go_num, by omega, by omega, hide (by rw [unhide HE]; exact unhide HF9)⟩
    ·obtain rfl : k = q.dp.length := by omega
     obtain ⟨wB, rfl⟩ : ∃ x, x = wr := ⟨_, rfl⟩
     have HT := hide (show Fs w3 wB u5 ((twF ps p q ++ unI ps q 2 q.dp (-1) q.dp.length) ++ unI ps q 3 q.pr (p : Int) 0) from by
      have e : unI ps q 3 q.pr (p : Int) 0 = [] := rfl
      rw [e, List.append_nil]
      exact unhide HF)
     have htl2 : (twF ps p q ++ unI ps q 2 q.dp (-1) q.dp.length).length ≤ 2097152 := by
      rw [List.length_append]
      have := unI_len ps q 2 q.dp (-1) q.dp.length
      omega
     clear HF
     go_wp2_with fail
     clear cc3
     go_loopg [5, 10] q.pr.length (fun gq lv kv wr => ∃ k : Nat, kv = .int .i64 k ∧ k ≤ q.pr.length ∧ q.pr.length - k ≤ gq ∧ Hid (Fs w3 wr lv ((twF ps p q ++ unI ps q 2 q.dp (-1) q.dp.length) ++ unI ps q 3 q.pr (p : Int) k)))
     case atStart => exact ⟨0, by go_num, by omega, by omega, HT⟩
     case round =>
      clear HT
      obtain ⟨k, rfl, hk, hgk, HF⟩ := hrel
      have cc3 := unhide RP wr (unhide HF).bw 4 _ (unhide HC).c4
      by_cases hlk : k < q.pr.length
      ·have hkz : (k : Int) < (q.pr.length : Int) := by omega
       obtain ⟨b, o, rfl, cm, hcall⟩ := unhide HMR wr (bl_t (unhide K3) (unhide HF).bw) k hlk
       have CM := hide hcall
       have hlb : ((twF ps p q ++ unI ps q 2 q.dp (-1) q.dp.length) ++ unI ps q 3 q.pr (p : Int) k).length ≤ 1099511627776 := by
        rw [List.length_append]
        have := unI_len ps q 3 q.pr (p : Int) k
        omega
       have HU := hide (unI_succ ps q 3 q.pr (p : Int) k)
       clear hcall
       cases hm : imP ps (fun _ => true) (p : Int) (q.pr.getD k []) with
       | true =>
         rw [hm] at CM
         have HE := hide (show (twF ps p q ++ unI ps q 2 q.dp (-1) q.dp.length) ++ unI ps q 3 q.pr (p : Int) (k + 1) = (twF ps p q ++ unI ps q 2 q.dp (-1) q.dp.length) ++ unI ps q 3 q.pr (p : Int) k from by
          rw [unhide HU]
          unfold unE
          rw [hm]
          simp)
         clear hm
         go_wp2_with (go_at_call 33; refine (unhide CM).mono ?_; rintro e w5 ⟨rfl, hb5⟩; have HF5 := hide ((unhide HF).later hb5); clear hb5 CM cc3 cm)
         go_roundg (q.pr.length - (k + 1))
         case measure => omega
         case rel => exact ⟨k + 1, by go_num, by omega, by omega, hide (by rw [unhide HE]; exact unhide HF5)⟩
       | false =>
         rw [hm] at CM
         have HE := hide (show (twF ps p q ++ unI ps q 2 q.dp (-1) q.dp.length) ++ unI ps q 3 q.pr (p : Int) (k + 1) = ((twF ps p q ++ unI ps q 2 q.dp (-1) q.dp.length) ++ unI ps q 3 q.pr (p : Int) k) ++ [⟨3, q.nm, q.vr, (k : Int), ⟨#[]⟩, ⟨#[]⟩⟩] from by
          rw [unhide HU, ← List.append_assoc]
          unfold unE
          rw [hm]
          rfl)
         clear hm
         go_wp2_with (first
          | (go_at_call 33; refine (unhide CM).mono ?_; rintro e w5 ⟨rfl, hb5⟩; have HF5 := hide ((unhide HF).later hb5); clear hb5 CM cc3 cm)
          | (with_reducible refine p_load _ rfl rfl w.heap.size rfl cs (unhide RB w5 (unhide HF5).bw) ?_)
          | (go_at_call 52; refine (rKeyOf_any cs q.nm q.vr _ (unhide HC).c0 (unhide HC).c1).mono ?_; rintro e w6 ⟨rfl, hb6⟩; have HF6 := hide ((unhide HF5).later hb6); obtain ⟨v9, w9, hr9, hf9⟩ := (unhide HF6).put ⟨3, q.nm, q.vr, (k : Int), ⟨#[]⟩, ⟨#[]⟩⟩ hlb 24; have HF9 := hide hf9; clear hb6 hf9)
          | (at_builtin; refine wpl_append_run rfl _ _ 24 rfl _ _ rfl rfl hr9 ?_))
         go_roundg (q.pr.length - (k + 1))
         case measure => omega
         case rel => exact ⟨k + 1, by go_num, by omega, by omega, hide (by rw [unhide HE]; exact unhide HF9)⟩
      ·obtain rfl : k = q.pr.length := by omega
       obtain ⟨wC, rfl⟩ : ∃ x, x = wr := ⟨_, rfl⟩
       have HT := hide (show Fs w3 wC u5 (twF ps p q ++ unF ps p q) from by
        have h := unhide HF
        rw [List.append_assoc] at h
        exact h)
       have huf : (twF ps p q ++ unF ps p q).length ≤ 4194304 := by
        rw [List.length_append]
        have := unF_len ps p q
        omega
       have hlc : (twF ps p q ++ unF ps p q).length + (cfJ ps p q q.cf.length).length ≤ 549755813888 := by omega
       have CC := hide (unhide HCF wC (bl_t (unhide K3) (unhide HF).bw))
       clear HF
       go_wp2_with (first
        | (go_at_call 55; refine (unhide CC).mono ?_; rintro e w6 ⟨r, rfl, hrow, hb6⟩; obtain ⟨v9, w9, hr9, hf9⟩ := ((unhide HT).later hb6).cat hrow hlc 24; have HF9 := hide hf9; clear hrow hb6 hf9 CC cc3)
        | (at_builtin; refine wpl_append_run rfl _ _ 24 rfl _ _ rfl rfl hr9 ?_))
       have HT2 := hide (show Fs w3 w9 v9 ((twF ps p q ++ unF ps p q ++ cfJ ps p q q.cf.length) ++ paJ ps p q 0) from by
        have e : paJ ps p q 0 = [] := rfl
        rw [e, List.append_nil]
        exact unhide HF9)
       clear HT HF9 hr9
       go_loopg [5, 13] q.fs.length (fun gq lv nv wr => ∃ n : Nat, nv = .int .i64 n ∧ n ≤ q.fs.length ∧ q.fs.length - n ≤ gq ∧ Hid (Fs w3 wr lv ((twF ps p q ++ unF ps p q ++ cfJ ps p q q.cf.length) ++ paJ ps p q n)))
       case atStart => exact ⟨0, by go_num, by omega, by omega, HT2⟩
       case round =>
        clear HT2
        obtain ⟨n, rfl, hn, hgn, HF⟩ := hrel
        have c7 := unhide RP wr (unhide HF).bw 7 _ (unhide HC).c7
        by_cases hlk : n < q.fs.length
        ·have hkz : (n : Int) < (q.fs.length : Int) := by omega
         obtain ⟨x, hx⟩ : ∃ x, q.fs[n]? = some x := ⟨_, List.getElem?_eq_getElem hlk⟩
         have CA := hide (unhide HAH wr (bl_t (unhide K3) (unhide HF).bw) n x hx)
         have HU := hide (show paJ ps p q (n + 1) = paJ ps p q n ++ paO ps p q n x from by
          show paJ ps p q n ++ _ = _
          rw [hx])
         have hlb : ((twF ps p q ++ unF ps p q ++ cfJ ps p q q.cf.length) ++ paJ ps p q n).length ≤ 1099511627776 := by
          rw [List.length_append, List.length_append]
          have := paJ_len ps p q n
          omega
         clear hx
         rcases paO_ahd ps p q n x with ⟨h1, h2⟩ | ⟨j, h1, hj, h2⟩
         ·rw [h1] at CA
          have HE := hide (show (twF ps p q ++ unF ps p q ++ cfJ ps p q q.cf.length) ++ paJ ps p q (n + 1) = (twF ps p q ++ unF ps p q ++ cfJ ps p q q.cf.length) ++ paJ ps p q n from by rw [unhide HU, h2, List.append_nil])
          clear h1 h2
          go_wp2_with (go_at_call 56; refine (unhide CA).mono ?_; rintro e w5 ⟨rfl, hb5⟩; have HF5 := hide ((unhide HF).later hb5); clear hb5 CA c7)
          go_roundg (q.fs.length - (n + 1))
          case measure => omega
          case rel => exact ⟨n + 1, by go_num, by omega, by omega, hide (by rw [unhide HE]; exact unhide HF5)⟩
         ·rw [h1] at CA
          obtain ⟨qi, hqi⟩ : ∃ q, ps[j]? = some q := ⟨_, List.getElem?_eq_getElem hj⟩
          obtain ⟨ci, d', r', c', pv', f', hpc', hri⟩ := unhide RV j qi hqi
          have HCI := hide hpc'
          have HI3 := hide (show (Tryz.prog.info? 46).map (·.size) = some ci.length by rw [hpc'.len]; kernel_rfl)
          have HRI := hide hri
          have HY := hide (show (twF ps p q ++ unF ps p q ++ cfJ ps p q q.cf.length) ++ paJ ps p q (n + 1) = ((twF ps p q ++ unF ps p q ++ cfJ ps p q q.cf.length) ++ paJ ps p q n) ++ [⟨5, q.nm, q.vr, (n : Int), qi.nm, qi.vr⟩] from by
           rw [unhide HU, h2, nmA_at hqi, vrA_at hqi, ← List.append_assoc])
          have hj0 : (0 : Int) ≤ (j : Int) := by omega
          have hjn : (j : Int) < (ps.length : Int) := by omega
          clear h1 h2 hqi hpc' hri
          go_wp2_with (go_at_call 56; refine (unhide CA).mono ?_; rintro e w5 ⟨rfl, hb5⟩; have HFX := hide ((unhide HF).later hb5); clear hb5 CA c7)
          have RL := hide (show ∀ X, RowKit.Below w5.heap.size w5 X → X.rangeAt w.heap.size 0 cs from fun X hX => unhide RQ X (bl_t (unhide HFX).bw hX))
          have RI := hide (show ∀ X, RowKit.Below w5.heap.size w5 X → X.rangeAt vb (vo + j * 43) ci from fun X hX => unhide HRI X (bl_t (unhide HFX).bw hX))
          have RL9 := hide (show ∀ X v l, Fs w3 X v l → X.rangeAt w.heap.size 0 cs from fun X v l h => unhide RQ X h.bw)
          have RI9 := hide (show ∀ X v l, Fs w3 X v l → X.rangeAt vb (vo + j * 43) ci from fun X v l h => unhide HRI X h.bw)
          have E0 := hide ((Below.refl w5.heap.size w5).drew)
          refine wp_region_held_drew (S := fun w' => w'.rangeAt w.heap.size 0 cs ∧ w'.rangeAt vb (vo + j * 43) ci) (by kernel_rfl) ?_ (fun hHeld => ?_)
          ·exact ⟨unhide RL _ (unhide E0), unhide RI _ (unhide E0)⟩
          refine tk2 0 (⟨some 111, .move (.tmp 5), 24, "ref.go:92", #[], none⟩) ?_
          refine tkH 1 ⟨some 112, .load 46 (.tmp 6), 46, "ref.go:92", #[], none⟩ (v := .agg cs.toArray) (yieldsIf_load_mid (by rfl) 46 (.tmp 6) rfl w.heap.size (0) (by rfl) cs _ (fun _ h => h.1) Tryz.underlying46 rfl (unhide HI2)) ?_
          try simp only [Act.put, sqB, sq0, sq1]
          refine tk2 3 (⟨some 114, .move (.tmp 13), 3, "ref.go:92", #[], none⟩) ?_
          refine tk2 4 (⟨some 115, .move (.tmp 0), 22, "ref.go:92", #[], none⟩) ?_
          refine tk2 5 (⟨some 116, .move (.tmp 14), 3, "ref.go:92", #[], none⟩) ?_
          refine tk2 6 (⟨some 117, .indexAddr 22 (.tmp 115) (.tmp 116), 0, "ref.go:92", #[⟨4, .data⟩, ⟨5, .data⟩], none⟩) ?_
          refine tkH 7 ⟨some 118, .load 46 (.tmp 117), 46, "ref.go:92", #[⟨6, .data⟩], none⟩ (v := .agg ci.toArray) (yieldsIf_load_mid (by rfl) 46 (.tmp 117) rfl vb (vo + j * 43) (by rfl) ci _ (fun _ h => h.2) Tryz.underlying46 rfl (unhide HI3)) ?_
          try simp only [Act.put, sqB, sq0, sq1]
          refine wpAnyH_ready (rs := [2]) (by kernel_rfl) (by simp) ?_
          refine AllReadyH.cons (o := ⟨some 113, .call { callee := .value (.func 52), args := #[.tmp 112], argTypes := #[46] }, 29, "ref.go:92", #[⟨1, .data⟩], none⟩) rfl (fun K hK => ?_) AllReadyH.nil
          go_simp
          refine (rKeyOf_any cs q.nm q.vr _ (unhide HC).c0 (unhide HC).c1).mono ?_
          rintro e y1 ⟨rfl, hv1⟩
          have E1 := hide (bl_t (unhide E0) hv1)
          clear hv1
          go_wp2_with fail
          refine hK.out _ _ ⟨unhide RL _ (unhide E1), unhide RI _ (unhide E1)⟩ (fun hHeld => ?_)
          clear hK K
          try simp only [Act.put, sqB, sq0, sq1]
          refine wpAnyH_ready (rs := [8]) (by kernel_rfl) (by simp) ?_
          refine AllReadyH.cons (o := ⟨some 119, .call { callee := .value (.func 52), args := #[.tmp 118], argTypes := #[46] }, 29, "ref.go:92", #[⟨7, .data⟩, ⟨2, .chain⟩], none⟩) rfl (fun K hK => ?_) AllReadyH.nil
          go_simp
          refine (rKeyOf_any ci qi.nm qi.vr _ (unhide HCI).c0 (unhide HCI).c1).mono ?_
          rintro e y2 ⟨rfl, hv2⟩
          have E2 := hide (bl_t (unhide E1) hv2)
          clear hv2
          go_wp2_with fail
          refine hK.out _ _ ⟨unhide RL _ (unhide E2), unhide RI _ (unhide E2)⟩ (fun hHeld => ?_)
          clear hK K
          try simp only [Act.put, sqB, sq0, sq1]
          refine tk2 9 (⟨some 120, .build 31 #[(0, .const (Value.int IntKind.i64 5)), (1, .tmp 113), (2, .tmp 114), (3, .tmp 119)], 31, "ref.go:92", #[⟨2, .data⟩, ⟨3, .data⟩, ⟨8, .data⟩], none⟩) ?_
          obtain ⟨v9, w9, hr9, hf9⟩ := ((unhide HFX).later (unhide E2)).put ⟨5, q.nm, q.vr, (n : Int), qi.nm, qi.vr⟩ hlb 24
          have E3 := hide (bl_t (unhide E2) ((Below.refl _ y2).alloc (Nat.le_refl _) (.cells (Ft.cs ⟨5, q.nm, q.vr, (n : Int), qi.nm, qi.vr⟩).toArray 31)))
          have HF9 := hide hf9
          clear hf9
          refine wpAnyH_ready (rs := [10]) (by kernel_rfl) (by simp) ?_
          refine AllReadyH.cons (o := ⟨some 121, .buildSlice 24 1 #[(0, .tmp 120)], 24, "ref.go:92", #[⟨9, .data⟩], none⟩) rfl (fun K hK => ?_) AllReadyH.nil
          go_simp
          refine hK.out _ _ ⟨unhide RL _ (unhide E3), unhide RI _ (unhide E3)⟩ (fun hHeld => ?_)
          clear hK K
          try simp only [Act.put, sqB, sq0, sq1]
          refine wpAnyH_ready (rs := [11]) (by kernel_rfl) (by simp) ?_
          refine AllReadyH.cons (o := ⟨some 122, .call { callee := .builtin Builtin.append, args := #[.tmp 111, .tmp 121], argTypes := #[24, 24] }, 24, "ref.go:92", #[⟨0, .data⟩, ⟨10, .data⟩, ⟨8, .chain⟩], none⟩) rfl (fun K hK => ?_) AllReadyH.nil
          refine wp_append_run _ _ 24 rfl _ _ rfl rfl hr9 ?_
          refine hK.out _ _ ⟨unhide RL9 _ _ _ (unhide HF9), unhide RI9 _ _ _ (unhide HF9)⟩ (fun hHeld => ?_)
          clear hK K
          try simp only [Act.put, sqB, sq0, sq1]
          refine tk2 12 (⟨some 5, .assign (.tmp 122), 24, "ref.go:92", #[⟨11, .data⟩, ⟨11, .chain⟩, ⟨0, .phase⟩, ⟨1, .phase⟩, ⟨2, .phase⟩, ⟨3, .phase⟩, ⟨4, .phase⟩, ⟨5, .phase⟩, ⟨6, .phase⟩, ⟨7, .phase⟩, ⟨8, .phase⟩, ⟨9, .phase⟩, ⟨10, .phase⟩, ⟨11, .phase⟩], none⟩) ?_
          refine wpAnyH_done (by kernel_rfl) ?_ _
          go_wp2_with fail
          go_roundg (q.fs.length - (n + 1))
          case measure => omega
          case rel => exact ⟨n + 1, by go_num, by omega, by omega, hide (by rw [unhide HY]; exact unhide HF9)⟩
        ·obtain rfl : n = q.fs.length := by omega
         go_wp2_with fail
         go_ret
         exact ⟨u5, rfl, row_lo2 (unhide HF).row (unhide K3).size, bl_t (unhide K3) (unhide HF).bw⟩
end Go.Proofs.YtdkpglmdncjnbaaGreatDoor
