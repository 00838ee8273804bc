import Derived.Test.YtdkpglmdncjnbaaGreatDoorZf32
import Derived.Test.YtdkpglmdncjnbaaGreatDoorZf34
namespace Go.Proofs.YtdkpglmdncjnbaaGreatDoor
open Go.RowKit Go.Maps
abbrev y35_1 : Oper := ⟨some 26, .move (.tmp 8), 3, "ref.go:41", #[], none⟩
abbrev y35_2 : Oper := ⟨some 27, .move (.tmp 1), 3, "ref.go:41", #[], none⟩
abbrev y35_3 : Oper := ⟨some 28, .binOp .neq 3 (.tmp 26) (.tmp 27) 3, 4, "ref.go:41", #[⟨0, .data⟩, ⟨1, .data⟩], none⟩
abbrev y35_4 : Oper := ⟨some 29, .move (.tmp 28), 4, "ref.go:41", #[⟨2, .data⟩], none⟩
abbrev y35_5 : Oper := ⟨some 30, .fieldAddr 46 (.tmp 6) 5, 0, "ref.go:41", #[⟨3, .guard⟩], some (3, true)⟩
abbrev y35_6 : Oper := ⟨some 31, .load 41 (.tmp 30), 41, "ref.go:41", #[⟨4, .data⟩, ⟨3, .guard⟩], some (3, true)⟩
abbrev y35_7 : Oper := ⟨some 32, .move (.tmp 7), 3, "ref.go:41", #[⟨3, .guard⟩], some (3, true)⟩
abbrev y35_8 : Oper := ⟨some 33, .indexAddr 41 (.tmp 31) (.tmp 32), 0, "ref.go:41", #[⟨5, .data⟩, ⟨6, .data⟩, ⟨3, .guard⟩], some (3, true)⟩
abbrev y35_9 : Oper := ⟨some 34, .load 48 (.tmp 33), 48, "ref.go:41", #[⟨7, .data⟩, ⟨3, .guard⟩], some (3, true)⟩
abbrev y35_10 : Oper := ⟨some 35, .move (.tmp 0), 22, "ref.go:41", #[⟨3, .guard⟩], some (3, true)⟩
abbrev y35_11 : Oper := ⟨some 36, .move (.tmp 8), 3, "ref.go:41", #[⟨3, .guard⟩], some (3, true)⟩
abbrev y35_12 : Oper := ⟨some 37, .indexAddr 22 (.tmp 35) (.tmp 36), 0, "ref.go:41", #[⟨9, .data⟩, ⟨10, .data⟩, ⟨3, .guard⟩], some (3, true)⟩
abbrev y35_13 : Oper := ⟨some 38, .load 46 (.tmp 37), 46, "ref.go:41", #[⟨11, .data⟩, ⟨3, .guard⟩], some (3, true)⟩
abbrev y35_14 : Oper := ⟨some 39, .call { callee := .value (.func 77), args := #[.tmp 34, .tmp 38], argTypes := #[48, 46] }, 4, "ref.go:41", #[⟨8, .data⟩, ⟨12, .data⟩, ⟨3, .chain⟩, ⟨3, .guard⟩], some (3, true)⟩
abbrev y35_15 : Oper := ⟨some 40, .pick (.tmp 29) (.tmp 39) (.const (Value.bool false)), 4, "ref.go:41", #[⟨3, .data⟩, ⟨13, .data⟩], none⟩
theorem Fs.put {W wr : World} {s : Value} {l : List Ft} (h : Fs W wr s l) (f : Ft) (hl : l.length ≤ 1099511627776) (ty : TypeId) : ∃ v' w9, (Builtin.append_ #[24, 24] ty #[s, .slice (some ⟨wr.heap.size, 0, none⟩) 1 1]).run Tryz.prog (wr.alloc (.cells #[.int .i64 f.kd, .string f.wn, .string f.wv, .int .i64 f.ix, .string f.on, .string f.ov] 31)) = .ok v' w9 ∧ Fs W w9 v' (l ++ [f]) := by
 obtain ⟨i0, hi, hz0, hz1, hz2⟩ := info_parts2 infoFt
 have hbz := h.bw.size
 obtain ⟨v', w9, hr, h2, h3, _, _⟩ := run_append_own_at (P := Tryz.prog) (wr.alloc (.cells #[.int .i64 f.kd, .string f.wn, .string f.wv, .int .i64 f.ix, .string f.on, .string f.ov] 31)) W.heap.size 24 ty 31 i0 (.agg #[.int .i64 0, .string ⟨#[]⟩, .string ⟨#[]⟩, .int .i64 0, .string ⟨#[]⟩, .string ⟨#[]⟩]) 6 80 Tryz.underlying24 hi hz0 hz1 hz2 rfl (by decide) s l.length (ftC l) (h.row.alloc _) ⟨wr.heap.size, 0, none⟩ 1 1 f.cs rfl (news_ft wr f 31) (one_ft f) (by unfold maxLen; omega) (by omega) (by simp; omega)
 exact ⟨v', w9, hr, h.grow h2 h3⟩
theorem nmA_at {ps : List Pk} {i : Nat} {q : Pk} (h : ps[i]? = some q) : nmA ps i = q.nm := by unfold nmA; rw [h]
theorem vrA_at {ps : List Pk} {i : Nat} {q : Pk} (h : ps[i]? = some q) : vrA ps i = q.vr := by unfold vrA; rw [h]
def cfI (ps : List Pk) (p : Nat) (q : Pk) (k : Nat) (a : At) (i : Nat) : List Ft := ((List.range i).filter fun j => mP ps a j && !decide (j = p)).map (cfT ps q k)
theorem cfI_no {ps : List Pk} {p : Nat} {q : Pk} {k i : Nat} {a : At} (h : (mP ps a i && !decide (i = p)) = false) : cfI ps p q k a (i + 1) = cfI ps p q k a i := by
 unfold cfI
 rw [List.range_succ, List.filter_append, List.filter_cons, List.filter_nil, h]
 simp
theorem cfI_yes {ps : List Pk} {p : Nat} {q : Pk} {k i : Nat} {a : At} (h : (mP ps a i && !decide (i = p)) = true) : cfI ps p q k a (i + 1) = cfI ps p q k a i ++ [cfT ps q k i] := by
 unfold cfI
 rw [List.range_succ, List.filter_append, List.filter_cons, List.filter_nil, h]
 simp
theorem cfI_len (ps : List Pk) (p : Nat) (q : Pk) (k : Nat) (a : At) (i : Nat) : (cfI ps p q k a i).length ≤ i := by
 unfold cfI
 rw [List.length_map]
 refine Nat.le_trans (List.length_filter_le _ _) ?_
 rw [List.length_range]
 exact Nat.le_refl _
theorem cfI_all {ps : List Pk} {p : Nat} {q : Pk} {k : Nat} {a : At} : cfI ps p q k a ps.length = cfK ps p q k (stP ps a) := by
 unfold cfI cfK stP
 rw [List.filter_filter]
 congr 1
 refine List.filter_congr fun j _ => ?_
 rw [Bool.and_comm]
set_option maxRecDepth 100000 in
set_option maxHeartbeats 8000000 in
theorem rconflicts_any {w : World} {v : Value} {ps : List Pk} {p : Nat} {q : Pk} (sm : SmP ps) (pk : Pkl w v ps) (hq : ps[p]? = some q) :
 Calls Tryz.prog 55 #[v, .int .i64 (p : Int)] w fun e w' => ∃ r, e = .returned r ∧ w'.ownsRow w.heap.size 31 6 r (cfJ ps p q q.cf.length).length (ftC (cfJ ps p q q.cf.length)) ∧ RowKit.Below w.heap.size w w' := by
 have hpl := (List.getElem?_eq_some_iff.1 hq).1
 have hpn : (p : Int) < (ps.length : Int) := by omega
 have hl := sm.l
 have hmem := List.mem_of_getElem? hq
 have hcl : q.cf.length ≤ 1048576 := Nat.le_trans (le_sum (fun p : Pk => p.cf.length) hmem) sm.sc
 obtain ⟨vb, vo, vc, cs, dd, rr, cc, pv, ff, rfl, hvb, hr, hpc, hll⟩ := pk.at2 hq
 obtain ⟨ca, ck, rfl⟩ : ∃ a c, cc = .slice a q.cf.length c := let ⟨a, c, e, _⟩ := hll.cl; ⟨a, c, e⟩
 have HM := hide (show ∀ (i : Nat) (qi : Pk) (X : World) (ci : List Value) (d r c pv f : Value), ps[i]? = some qi → PkC ci qi d r c pv f → PkL X qi d r c pv f → ∀ a ∈ q.cf, Calls Tryz.prog 77 #[.agg #[.string a.n, .int .i64 a.op, .string a.v], .agg ci.toArray] X fun e w' => e = .returned (.bool (mP ps a i)) ∧ RowKit.Below X.heap.size X w' from fun i qi X ci d r c pv f hqi hc hL a haa => by
  rw [mP_at hqi]
  exact rMeets_any a.n a.op a.v qi.nm qi.vr pv qi.pv ci (sm.c q hmem a haa).2 (sm.z qi (List.mem_of_getElem? hqi)).2.1 X hc.pkg hL.vl)
 have HP := hide pk
 have HLC := hide hll.cl
 have HR0 := hide hr
 have HC := hide hpc
 have HI2 := hide (show (Tryz.prog.info? 46).map (·.size) = some cs.length by rw [hpc.len]; kernel_rfl)
 have HQ := hide hq
 clear pk hll hr hpc hq hmem sm
 obtain ⟨N, hN⟩ : ∃ N, ps.length = N := ⟨_, rfl⟩
 obtain ⟨M, hM⟩ : ∃ M, q.cf.length = M := ⟨_, rfl⟩
 rw [hN] at hl hpl hpn HP ⊢
 rw [hM] at hcl HLC HC ⊢
 have HN := hide hN
 have HML := hide hM
 clear hN hM
 go_enter Tryz.func55, Tryz.ntmps55
 go_wp2_with (first
  | (with_reducible refine p_loadm _ rfl rfl vb (vo + p * 43) rfl cs (unhide HR0) (unhide HC).len ?_)
  | (with_reducible refine p_alloc rfl rfl ?_; intro w2 zc b2 k2 z2)
  | ((with_reducible refine p_store _ _ rfl rfl w.heap.size rfl cs rfl (unhide HC).len (unhide HC).one zc b2 ?_); intro w3 b3 o3 k3 z3; obtain ⟨K3, B3⟩ := new_bkK k2 b3 k3; clear b2 k2 b3 o3 k3 z2 z3))
 have HS0 := hide (Fs.start w3)
 have HBL := hide (unhide B3).lt
 have RP := hide (show ∀ X, RowKit.Below w3.heap.size w3 X → X.rangeAt w.heap.size 0 cs ∧ X.cell? ⟨w.heap.size, 5, none⟩ = some (.slice ca M ck) from fun X hX => by
  have key : ∀ (j : Nat) (u : Value), cs[j]? = some u → X.cell? ⟨w.heap.size, j, none⟩ = some u := fun j u hj => by
   rw [hX.cell (p := ⟨w.heap.size, j, none⟩) (unhide HBL), (cell_blk (unhide B3).at_ j).1, List.getElem?_toArray]
   exact hj
  exact ⟨fun j u hj => by rw [Nat.zero_add]; exact key j u hj, key 5 _ (unhide HC).c5⟩)
 clear B3
 go_loopg [5, 7] M (fun gq lv kv wr => ∃ k : Nat, kv = .int .i64 k ∧ k ≤ M ∧ M - k ≤ gq ∧ Hid (Fs w3 wr lv (cfJ ps p q k)))
 case atStart => exact ⟨0, by go_num, by omega, by omega, HS0⟩
 case round =>
  clear HS0
  obtain ⟨k, rfl, hk, hgk, HF⟩ := hrel
  have c5 := (unhide RP wr (unhide HF).bw).2
  by_cases hlk : k < M
  ·have hkz : (k : Int) < (M : Int) := by omega
   obtain ⟨a, ha⟩ : ∃ a, q.cf[k]? = some a := ⟨_, List.getElem?_eq_getElem (by have := unhide HML; omega)⟩
   have HA := hide ha
   have HF0 := hide (show Fs w3 wr u5 (cfJ ps p q k ++ cfI ps p q k a 0) from by
    have e : cfI ps p q k a 0 = [] := rfl
    rw [e, List.append_nil]
    exact unhide HF)
   have HJ := hide (show cfJ ps p q (k + 1) = cfJ ps p q k ++ cfK ps p q k (stP ps a) from by
    show cfJ ps p q k ++ _ = _
    rw [ha])
   have hJL : (cfJ ps p q k).length ≤ 274877906944 := by
    have h1 := cfJ_len ps p q k
    have h2 := unhide HN
    have h3 : k * ps.length ≤ 1048576 * 262144 := Nat.mul_le_mul (by omega) (by omega)
    omega
   clear ha
   go_wp2_with fail
   clear c5
   go_loopg [5, 8] N (fun gq lv iv wr => ∃ i : Nat, iv = .int .i64 i ∧ i ≤ N ∧ N - i ≤ gq ∧ Hid (Fs w3 wr lv (cfJ ps p q k ++ cfI ps p q k a i)))
   case atStart => exact ⟨0, by go_num, by omega, by omega, HF0⟩
   case round =>
    clear HF0
    obtain ⟨i, rfl, hi, hgi, HF⟩ := hrel
    by_cases hlt : i < N
    ·have hiz : (i : Int) < (N : Int) := by omega
     have HBW := hide (bl_t (unhide K3) (unhide HF).bw)
     by_cases hip : i = p
     ·subst hip
      have HF2 := hide (show Fs w3 wr.drew u5 (cfJ ps i q k ++ cfI ps i q k a (i + 1)) from by
       rw [cfI_no (by simp)]
       exact (unhide HF).later (Below.refl _ wr).drew)
      go_wp2_with fail
      refine wp_region_held_drew (S := fun _ => True) (by kernel_rfl) ?_ (fun hHeld => ?_)
      ·exact trivial
      refine tk2 0 y35_1 ?_
      refine tk2 1 y35_2 ?_
      refine tk2 2 y35_3 ?_
      refine tk2 3 y35_4 ?_
      refine tkH 4 y35_5 (v := undef) (Or.inr ⟨by rfl, rfl⟩) ?_
      try simp only [Act.put, sqB, sq0, sq1]
      refine tkH 5 y35_6 (v := undef) (Or.inr ⟨by rfl, rfl⟩) ?_
      try simp only [Act.put, sqB, sq0, sq1]
      refine tkH 6 y35_7 (v := undef) (Or.inr ⟨by rfl, rfl⟩) ?_
      try simp only [Act.put, sqB, sq0, sq1]
      refine tkH 7 y35_8 (v := undef) (Or.inr ⟨by rfl, rfl⟩) ?_
      try simp only [Act.put, sqB, sq0, sq1]
      refine tkH 8 y35_9 (v := undef) (Or.inr ⟨by rfl, rfl⟩) ?_
      try simp only [Act.put, sqB, sq0, sq1]
      refine tkH 9 y35_10 (v := undef) (Or.inr ⟨by rfl, rfl⟩) ?_
      try simp only [Act.put, sqB, sq0, sq1]
      refine tkH 10 y35_11 (v := undef) (Or.inr ⟨by rfl, rfl⟩) ?_
      try simp only [Act.put, sqB, sq0, sq1]
      refine tkH 11 y35_12 (v := undef) (Or.inr ⟨by rfl, rfl⟩) ?_
      try simp only [Act.put, sqB, sq0, sq1]
      refine tkH 12 y35_13 (v := undef) (Or.inr ⟨by rfl, rfl⟩) ?_
      try simp only [Act.put, sqB, sq0, sq1]
      refine tkH 13 y35_14 (v := undef) (Or.inr ⟨by rfl, rfl⟩) ?_
      try simp only [Act.put, sqB, sq0, sq1]
      refine tk2 14 y35_15 ?_
      refine wpAnyH_done (by kernel_rfl) ?_ _
      go_wp2_with fail
      go_roundg (N - (i + 1))
      case measure => omega
      case rel => exact ⟨i + 1, by go_num, by omega, by omega, HF2⟩
     ·have hne : ((i : Int) != (p : Int)) = true := by simp; omega
      have hne2 : ¬ (i : Int) = (p : Int) := by omega
      obtain ⟨qi, hqi⟩ : ∃ q, ps[i]? = some q := ⟨_, List.getElem?_eq_getElem (by have := unhide HN; omega)⟩
      obtain ⟨vb', vo', vc', ci, d', r', c', pv', f', e0, hvb', hr', hpc', hll'⟩ := (unhide HP).at2 hqi
      injection e0 with e1 e2 e3
      injection e1 with e1
      injection e1 with e1 e4 e5
      subst e1 e4
      obtain ⟨ab, ao, rfl, hab, a0, a1, a2⟩ := ((unhide HLC).later (unhide HBW)).at (unhide HA)
      have HMX := hide (unhide HM i qi wr.drew ci d' r' c' pv' f' hqi hpc' (hll'.later (bl_t (unhide HBW) (Below.refl _ wr).drew)) a (List.mem_of_getElem? (unhide HA)))
      have RW := hide (show ∀ X, RowKit.Below w3.heap.size w3 X → X.rangeAt vb (vo + i * 43) ci from fun X hX => range_bel hr' hvb' (bl_t (unhide K3) hX))
      have RI := hide (show ∀ X, RowKit.Below wr.heap.size wr X → X.rangeAt vb (vo + i * 43) ci from fun X hX => unhide RW X (bl_t (unhide HF).bw hX))
      have RA := hide (show ∀ X, RowKit.Below wr.heap.size wr X → X.cell? ⟨ab, ao + k * 3, none⟩ = some (.string a.n) ∧ X.cell? ⟨ab, ao + k * 3 + 1, none⟩ = some (.int .i64 a.op) ∧ X.cell? ⟨ab, ao + k * 3 + 2, none⟩ = some (.string a.v) from fun X hX => ⟨(hX.cell (p := ⟨ab, _, none⟩) hab).trans a0, (hX.cell (p := ⟨ab, _, none⟩) hab).trans a1, (hX.cell (p := ⟨ab, _, none⟩) hab).trans a2⟩)
      have RH := hide (show ∀ X, RowKit.Below wr.heap.size wr X → X.cell? ⟨w.heap.size, 5, none⟩ = some (.slice (some ⟨ab, ao, none⟩) M ck) from fun X hX => (unhide RP X (bl_t (unhide HF).bw hX)).2)
      have RL := hide (show ∀ X, RowKit.Below wr.heap.size wr X → X.rangeAt w.heap.size 0 cs from fun X hX => (unhide RP X (bl_t (unhide HF).bw hX)).1)
      have HQI := hide hqi
      have HCI := hide hpc'
      have HI3 := hide (show (Tryz.prog.info? 46).map (·.size) = some ci.length by rw [hpc'.len]; kernel_rfl)
      have E0 := hide ((Below.refl wr.heap.size wr).drew)
      clear e2 e3 e5 hvb' hr' hpc' hll' hqi hab a0 a1 a2
      go_wp2_with fail
      refine wp_region_held_drew (S := fun w' => w'.cell? ⟨w.heap.size, 5, none⟩ = some (.slice (some ⟨ab, ao, none⟩) M ck) ∧ w'.cell? ⟨ab, ao + k * 3, none⟩ = some (.string a.n) ∧ w'.cell? ⟨ab, ao + k * 3 + 1, none⟩ = some (.int .i64 a.op) ∧ w'.cell? ⟨ab, ao + k * 3 + 2, none⟩ = some (.string a.v) ∧ w'.rangeAt vb (vo + i * 43) ci) (by kernel_rfl) ?_ (fun hHeld => ?_)
      ·exact ⟨unhide RH _ (unhide E0), (unhide RA _ (unhide E0)).1, (unhide RA _ (unhide E0)).2.1, (unhide RA _ (unhide E0)).2.2, unhide RI _ (unhide E0)⟩
      refine tk2 0 y35_1 ?_
      refine tk2 1 y35_2 ?_
      refine tk2 2 y35_3 ?_
      refine tk2 3 y35_4 ?_
      refine tk2 4 y35_5 ?_
      refine tk2 5 y35_6 ?_
      refine tk2 6 y35_7 ?_
      refine tk2 7 y35_8 ?_
      refine tk2 8 y35_9 ?_
      refine tk2 9 y35_10 ?_
      refine tk2 10 y35_11 ?_
      refine tk2 11 y35_12 ?_
      refine tkH 12 y35_13 (v := .agg ci.toArray) (yieldsIf_load_mid (by rfl) 46 (.tmp 37) rfl vb (vo + i * 43) (by rfl) ci _ (fun _ h => h.2.2.2.2) Tryz.underlying46 rfl (unhide HI3)) ?_
      try simp only [Act.put, sqB, sq0, sq1]
      refine wpAnyH_ready (rs := [13]) (by kernel_rfl) (by simp) ?_
      refine AllReadyH.cons (o := y35_14) rfl (fun K hK => ?_) AllReadyH.nil
      go_simp
      refine (unhide HMX).mono ?_
      rintro e w5 ⟨rfl, hb5⟩
      have E5 := hide (bl_t (unhide E0) hb5)
      refine hK.out _ _ ⟨unhide RH _ (unhide E5), (unhide RA _ (unhide E5)).1, (unhide RA _ (unhide E5)).2.1, (unhide RA _ (unhide E5)).2.2, unhide RI _ (unhide E5)⟩ (fun hHeld5 => ?_)
      clear hb5
      clear hK K
      try simp only [Act.put, sqB, sq0, sq1]
      refine tk2 14 y35_15 ?_
      refine wpAnyH_done (by kernel_rfl) ?_ _
      have HFX := hide ((unhide HF).later (unhide E5))
      clear HMX RI RA RH RL E0 E5 HF HBW hHeld5
      cases hm : mP ps a i with
      | false =>
        have HF2 := hide (show Fs w3 w5 u5 (cfJ ps p q k ++ cfI ps p q k a (i + 1)) from by
         rw [cfI_no (by rw [hm]; rfl)]
         exact unhide HFX)
        clear hm
        go_wp2_with fail
        go_roundg (N - (i + 1))
        case measure => omega
        case rel => exact ⟨i + 1, by go_num, by omega, by omega, HF2⟩
      | true =>
        have HY := hide (show cfJ ps p q k ++ cfI ps p q k a (i + 1) = (cfJ ps p q k ++ cfI ps p q k a i) ++ [⟨4, q.nm, q.vr, (k : Int), qi.nm, qi.vr⟩] from by
         rw [cfI_yes (by rw [hm]; simp; exact hip), List.append_assoc]
         unfold cfT
         rw [nmA_at (unhide HQI), vrA_at (unhide HQI)])
        have hlb : (cfJ ps p q k ++ cfI ps p q k a i).length ≤ 1099511627776 := by
         rw [List.length_append]
         have := cfI_len ps p q k a i
         omega
        have RL := hide (show ∀ X, RowKit.Below w5.heap.size w5 X → X.rangeAt w.heap.size 0 cs from fun X hX => (unhide RP X (bl_t (unhide HFX).bw hX)).1)
        have RI := hide (show ∀ X, RowKit.Below w5.heap.size w5 X → X.rangeAt vb (vo + i * 43) ci from fun X hX => unhide RW X (bl_t (unhide HFX).bw hX))
        have RL9 := hide (show ∀ X v l, Fs w3 X v l → X.rangeAt w.heap.size 0 cs from fun X v l h => (unhide RP X h.bw).1)
        have RI9 := hide (show ∀ X v l, Fs w3 X v l → X.rangeAt vb (vo + i * 43) ci from fun X v l h => unhide RW X h.bw)
        have E0 := hide ((Below.refl w5.heap.size w5).drew)
        clear hm
        go_wp2_with fail
        refine wp_region_held_drew (S := fun w' => w'.rangeAt w.heap.size 0 cs ∧ w'.rangeAt vb (vo + i * 43) ci) (by kernel_rfl) ?_ (fun hHeld => ?_)
        ·exact ⟨unhide RL _ (unhide E0), unhide RI _ (unhide E0)⟩
        refine tk2 0 (⟨some 41, .move (.tmp 5), 24, "ref.go:42", #[], none⟩) ?_
        refine tkH 1 ⟨some 42, .load 46 (.tmp 6), 46, "ref.go:42", #[], none⟩ (v := .agg cs.toArray) (yieldsIf_load_mid (by rfl) 46 (.tmp 6) rfl w.heap.size (0) (by rfl) cs _ (fun _ h => h.1) Tryz.underlying46 rfl (unhide HI2)) ?_
        try simp only [Act.put, sqB, sq0, sq1]
        refine tk2 3 (⟨some 44, .move (.tmp 7), 3, "ref.go:42", #[], none⟩) ?_
        refine tk2 4 (⟨some 45, .move (.tmp 0), 22, "ref.go:42", #[], none⟩) ?_
        refine tk2 5 (⟨some 46, .move (.tmp 8), 3, "ref.go:42", #[], none⟩) ?_
        refine tk2 6 (⟨some 47, .indexAddr 22 (.tmp 45) (.tmp 46), 0, "ref.go:42", #[⟨4, .data⟩, ⟨5, .data⟩], none⟩) ?_
        refine tkH 7 ⟨some 48, .load 46 (.tmp 47), 46, "ref.go:42", #[⟨6, .data⟩], none⟩ (v := .agg ci.toArray) (yieldsIf_load_mid (by rfl) 46 (.tmp 47) rfl vb (vo + i * 43) (by rfl) ci _ (fun _ h => h.2) Tryz.underlying46 rfl (unhide HI3)) ?_
        try simp only [Act.put, sqB, sq0, sq1]
        refine wpAnyH_ready (rs := [2]) (by kernel_rfl) (by simp) ?_
        refine AllReadyH.cons (o := ⟨some 43, .call { callee := .value (.func 52), args := #[.tmp 42], argTypes := #[46] }, 29, "ref.go:42", #[⟨1, .data⟩], none⟩) rfl (fun K hK => ?_) AllReadyH.nil
        go_simp
        refine (rKeyOf_any cs q.nm q.vr _ (unhide HC).c0 (unhide HC).c1).mono ?_
        rintro e y1 ⟨rfl, hv1⟩
        have E1 := hide (bl_t (unhide E0) hv1)
        clear hv1
        go_wp2_with fail
        refine hK.out _ _ ⟨unhide RL _ (unhide E1), unhide RI _ (unhide E1)⟩ (fun hHeld => ?_)
        clear hK K
        try simp only [Act.put, sqB, sq0, sq1]
        refine wpAnyH_ready (rs := [8]) (by kernel_rfl) (by simp) ?_
        refine AllReadyH.cons (o := ⟨some 49, .call { callee := .value (.func 52), args := #[.tmp 48], argTypes := #[46] }, 29, "ref.go:42", #[⟨7, .data⟩, ⟨2, .chain⟩], none⟩) rfl (fun K hK => ?_) AllReadyH.nil
        go_simp
        refine (rKeyOf_any ci qi.nm qi.vr _ (unhide HCI).c0 (unhide HCI).c1).mono ?_
        rintro e y2 ⟨rfl, hv2⟩
        have E2 := hide (bl_t (unhide E1) hv2)
        clear hv2
        go_wp2_with fail
        refine hK.out _ _ ⟨unhide RL _ (unhide E2), unhide RI _ (unhide E2)⟩ (fun hHeld => ?_)
        clear hK K
        try simp only [Act.put, sqB, sq0, sq1]
        refine tk2 9 (⟨some 50, .build 31 #[(0, .const (Value.int IntKind.i64 4)), (1, .tmp 43), (2, .tmp 44), (3, .tmp 49)], 31, "ref.go:42", #[⟨2, .data⟩, ⟨3, .data⟩, ⟨8, .data⟩], none⟩) ?_
        obtain ⟨v9, w9, hr9, hf9⟩ := ((unhide HFX).later (unhide E2)).put ⟨4, q.nm, q.vr, (k : Int), qi.nm, qi.vr⟩ hlb 24
        have E3 := hide (bl_t (unhide E2) ((Below.refl _ y2).alloc (Nat.le_refl _) (.cells (Ft.cs ⟨4, q.nm, q.vr, (k : Int), qi.nm, qi.vr⟩).toArray 31)))
        have HF9 := hide hf9
        clear hf9
        refine wpAnyH_ready (rs := [10]) (by kernel_rfl) (by simp) ?_
        refine AllReadyH.cons (o := ⟨some 51, .buildSlice 24 1 #[(0, .tmp 50)], 24, "ref.go:42", #[⟨9, .data⟩], none⟩) rfl (fun K hK => ?_) AllReadyH.nil
        go_simp
        refine hK.out _ _ ⟨unhide RL _ (unhide E3), unhide RI _ (unhide E3)⟩ (fun hHeld => ?_)
        clear hK K
        try simp only [Act.put, sqB, sq0, sq1]
        refine wpAnyH_ready (rs := [11]) (by kernel_rfl) (by simp) ?_
        refine AllReadyH.cons (o := ⟨some 52, .call { callee := .builtin Builtin.append, args := #[.tmp 41, .tmp 51], argTypes := #[24, 24] }, 24, "ref.go:42", #[⟨0, .data⟩, ⟨10, .data⟩, ⟨8, .chain⟩], none⟩) rfl (fun K hK => ?_) AllReadyH.nil
        refine wp_append_run _ _ 24 rfl _ _ rfl rfl hr9 ?_
        refine hK.out _ _ ⟨unhide RL9 _ _ _ (unhide HF9), unhide RI9 _ _ _ (unhide HF9)⟩ (fun hHeld => ?_)
        clear hK K
        try simp only [Act.put, sqB, sq0, sq1]
        refine tk2 12 (⟨some 5, .assign (.tmp 52), 24, "ref.go:42", #[⟨11, .data⟩, ⟨11, .chain⟩, ⟨0, .phase⟩, ⟨1, .phase⟩, ⟨2, .phase⟩, ⟨3, .phase⟩, ⟨4, .phase⟩, ⟨5, .phase⟩, ⟨6, .phase⟩, ⟨7, .phase⟩, ⟨8, .phase⟩, ⟨9, .phase⟩, ⟨10, .phase⟩, ⟨11, .phase⟩], none⟩) ?_
        refine wpAnyH_done (by kernel_rfl) ?_ _
        go_wp2_with fail
        go_roundg (N - (i + 1))
        case measure => omega
        case rel => exact ⟨i + 1, by go_num, by omega, by omega, hide (by rw [unhide HY]; exact unhide HF9)⟩
    ·obtain rfl : i = N := by omega
     have HF2 := hide (show Fs w3 wr u5 (cfJ ps p q (k + 1)) from by
      rw [unhide HJ, ← cfI_all, unhide HN]
      exact unhide HF)
     go_wp2_with fail
     go_roundg (M - (k + 1))
     case measure => omega
     case rel => exact ⟨k + 1, by go_num, by omega, by omega, HF2⟩
  ·obtain rfl : k = M := by omega
   go_wp2_with fail
   go_ret
   exact ⟨u5, rfl, row_lo2 (unhide HF).row (unhide K3).size, bl_t (unhide K3) (unhide HF).bw⟩
end Go.Proofs.YtdkpglmdncjnbaaGreatDoor
