import Derived.Test.YtdkpglmdncjnbaaGreatDoorZf21
import Derived.MapKept
import Derived.Shelf.Spec.SlicesGrow
namespace Go.Proofs.YtdkpglmdncjnbaaGreatDoor
section
open Go.RowKit Go.Maps
abbrev y22_1 : Oper := ⟨some 30, .load 58 (.tmp 29), 58, "check.go:22", #[⟨1, .data⟩], none⟩
theorem zeroE0 (w : World) : (zeroValue 107).run Tryz.prog w = .ok (.agg #[]) w := by kernel_rfl
set_option maxRecDepth 100000 in
theorem lookE {w : World} {b : Nat} (hb : w.heap[b]? = some (.map #[] 0)) (n v : Nm) : (Instr.lookup 110 (.map (some b)) (.agg #[.string n, .string v]) true).run Tryz.prog w = .ok (.tuple #[.agg #[], .bool false]) w := by
 have h1 : (Instr.checkKey true 10000 29 (.agg #[.string n, .string v])).run Tryz.prog w = .ok () w := by
  kernel_rfl
 have h2 : (getObj b).run Tryz.prog w = .ok (.map #[] 0) w := by simp [getObj, Sem.run, hb]
 have h3 : (Instr.findKey 29 (.agg #[.string n, .string v]) []).run Tryz.prog w = .ok none w := by kernel_rfl
 simp [Instr.lookup, go_sem, run_underlying Tryz.underlying110, h2, h1, h3]
theorem infoBo : (Tryz.prog.info? 4).map (fun i => (i.zero, i.size, i.bytes)) = some (some (.bool false), 1, 1) := by kernel_rfl
theorem makeBl (n : Nat) (hn : n ≤ 262144) (u : World) : (Instr.makeSlice 63 (.int .i64 (n : Int)) (.int .i64 (n : Int))).run Tryz.prog u = .ok (.slice (some ⟨u.heap.size, 0, none⟩) n n) (u.alloc (.cells (madeCells #[.bool false] n) 4)) := by
 obtain ⟨i0, hi, hz0, hz1, hz2⟩ := info_parts2 infoBo
 have h := run_make (P := Tryz.prog) u 63 4 i0 (.bool false) Tryz.underlying63 hi hz0 .i64 .i64 (n : Int) (n : Int) (by omega) (Int.le_refl _) (by rw [hz2]; omega) (by omega)
 simpa [hz1, Value.cells] using h
structure Bb (W : World) (g n : Nat) (f : Nat → Bool) : Prop where
 blk : ∃ cur : Array Value, W.heap[g]? = some (.cells cur 4 (0, 0)) ∧ ∀ i, i < n → cur[i]? = some (.bool (f i))
theorem Bb.cell {W : World} {g n : Nat} {f : Nat → Bool} (h : Bb W g n f) {i : Nat} (hi : i < n) : W.cell? ⟨g, i, none⟩ = some (.bool (f i)) ∧ W.frozen? ⟨g, i, none⟩ = false := by
 obtain ⟨cur, h1, h2⟩ := h.blk
 exact ⟨(cell_blk h1 i).1.trans (h2 i hi), (cell_blk h1 i).2⟩
theorem Bb.lt {W : World} {g n : Nat} {f : Nat → Bool} (h : Bb W g n f) : g < W.heap.size := let ⟨_, h1, _⟩ := h.blk; blk_lt h1
theorem Bb.later {W X : World} {g n : Nat} {f : Nat → Bool} (h : Bb W g n f) (hb : RowKit.Below W.heap.size W X) : Bb X g n f := by
 obtain ⟨cur, h1, h2⟩ := h.blk
 exact ⟨cur, (hb.block _ (blk_lt h1)).trans h1, h2⟩
theorem Bb.set {W : World} {g n : Nat} {f : Nat → Bool} (h : Bb W g n f) {j : Nat} (hj : j < n) (b : Bool) : Bb (W.setCell ⟨g, j, none⟩ (.bool b)) g n (fun i => if i = j then b else f i) := by
 obtain ⟨cur, h1, h2⟩ := h.blk
 refine ⟨_, set_blk h1 j (.bool b), fun i hi => ?_⟩
 have hjc : j < cur.size := (Array.getElem?_eq_some_iff.1 (h2 j hj)).1
 by_cases e : i = j
 ·subst e
  rw [if_pos rfl, Array.getElem?_setIfInBounds_self_of_lt hjc]
 ·rw [if_neg e, Array.getElem?_setIfInBounds_ne (fun q => e q.symm)]
  exact h2 i hi
theorem bb_new (u : World) (n : Nat) : Bb (u.alloc (.cells (madeCells #[.bool false] n) 4)) u.heap.size n (fun _ => false) := by
 refine ⟨_, World.alloc_heap_new u _, fun i hi => ?_⟩
 rw [← Array.getElem?_toList, toList_madeCells_one, List.getElem?_replicate, if_pos hi]
theorem makeMk (u : World) : (Instr.makeMap 110 (some (.int .i64 0))).run Tryz.prog u = .ok (.map (some u.heap.size)) (u.alloc (.map #[] 0)) := by
 simp [Instr.makeMap, go_sem]
structure Wo (w wr : World) (n p : Nat) : Prop where
 m : wr.heap[w.heap.size]? = some (.map #[] 0)
 b : Bb wr (w.heap.size + 1) n (fun i => decide (i < p))
 bw : RowKit.Below w.heap.size w wr
theorem Wo.later {w wr X : World} {n p : Nat} (h : Wo w wr n p) (hb : RowKit.Below wr.heap.size wr X) : Wo w X n p := ⟨(hb.block _ (blk_lt h.m)).trans h.m, h.b.later hb, bl_t h.bw hb⟩
theorem Wo.set {w wr : World} {n p : Nat} (h : Wo w wr n p) (hp : p < n) : Wo w (wr.setCell ⟨w.heap.size + 1, p, none⟩ (.bool true)) n (p + 1) := by
 refine ⟨(set_other wr _ p (.bool true) _ (by omega)).trans h.m, ?_, h.bw.setCell (p := ⟨w.heap.size + 1, p, none⟩) (by show w.heap.size ≤ w.heap.size + 1; omega) _⟩
 have := h.b.set hp true
 rw [show (fun i => decide (i < p + 1)) = (fun i => if i = p then true else decide (i < p)) from by
  funext i
  by_cases e : i = p
  ·simp [e]
  ·rw [if_neg e]
   exact decide_eq_decide.2 (by omega)]
 exact this
theorem wo_new (w : World) (n : Nat) : Wo w ((w.alloc (.map #[] 0)).alloc (.cells (madeCells #[.bool false] n) 4)) n 0 := by
 have hz : (w.alloc (.map #[] 0)).heap.size = w.heap.size + 1 := World.size_alloc _ _
 have b1 : RowKit.Below w.heap.size w (w.alloc (.map #[] 0)) := (Below.refl _ w).alloc (Nat.le_refl _) _
 have b2 : RowKit.Below (w.alloc (.map #[] 0)).heap.size (w.alloc (.map #[] 0)) ((w.alloc (.map #[] 0)).alloc (.cells (madeCells #[.bool false] n) 4)) := (Below.refl _ _).alloc (Nat.le_refl _) _
 refine ⟨(b2.block _ (by omega)).trans (World.alloc_heap_new w _), ?_, bl_t b1 b2⟩
 have := bb_new (w.alloc (.map #[] 0)) n
 rw [hz] at this
 rw [show (fun i => decide (i < 0)) = (fun _ : Nat => false) from by funext i; simp]
 exact this
set_option maxRecDepth 100000 in
set_option maxHeartbeats 4000000 in
theorem without_nil {w : World} {v : Value} {ps : List Pk} (sm : SmP ps) (pk : Pkl w v ps) :
 Calls Tryz.prog 45 #[v, .slice none 0 0] w fun e w' => ∃ r, e = .returned r ∧ Bls w' r (fun _ => true) ps.length ∧ RowKit.Below w.heap.size w w' := by
 obtain ⟨va, vc, rfl⟩ : ∃ a c, v = .slice a ps.length c := let ⟨a, c, e, _⟩ := pk; ⟨a, c, e⟩
 have hl := sm.l
 have HPK := hide (show ∀ X, RowKit.Below w.heap.size w X → ∀ (p : Nat), p < ps.length → ∃ (vb vo : Nat) (cs : List Value) (n u : Nm), va = some ⟨vb, vo, none⟩ ∧ vb < X.heap.size ∧ X.rangeAt vb (vo + p * 43) cs ∧ (Tryz.prog.info? 46).map (·.size) = some cs.length ∧ ∀ Y, Calls Tryz.prog 47 #[.agg cs.toArray] Y fun e w' => e = .returned (.agg #[.string n, .string u]) ∧ Below Y.heap.size Y w' from fun X hX p hp => by
  obtain ⟨vb, vo, vc2, cs, d, r, c, pv, f, e, hvb, hr, hpc, _⟩ := (pk.later hX).at2 (List.getElem?_eq_getElem hp)
  injection e with e _ _
  exact ⟨vb, vo, cs, _, _, e, hvb, hr, by rw [hpc.len]; kernel_rfl, fun Y => keyOf_any cs _ _ Y hpc.c0 hpc.c1⟩)
 obtain ⟨N, hN⟩ : ∃ N, N = ps.length := ⟨_, rfl⟩
 rw [← hN] at hl HPK ⊢
 have hmk := makeBl N hl
 have hmm := makeMk
 have HW := hide (wo_new w N)
 clear pk sm hN
 go_enter Tryz.func45, Tryz.ntmps45
 go_wp2_with fail
 refine wp_loop_rounds 1 ?_
 rw [rounds_succ]
 go_wp2_with fail
 clear hmm hmk
 go_loopw [30] (fun iv wr => ∃ i : Nat, iv = .int .i64 i ∧ i ≤ N ∧ Hid (Wo w wr N i)) (fun iv _ => N - (intOf iv).toNat)
 case atStart => exact ⟨0, rfl, Nat.zero_le _, HW⟩
 case round =>
  clear HW
  obtain ⟨i, rfl, hile, HU⟩ := hrel
  have hu := unhide HU
  by_cases hlt : i < N
  ·have hlt2 : (i : Int) < (N : Int) := by omega
   obtain ⟨vb, vo, cs, n, u, rfl, hvb, hr, hinf, hk⟩ := unhide HPK wr hu.bw i hlt
   have HR := hide hr
   have HI2 := hide hinf
   have HK := hide (hk wr)
   clear hr hinf hk
   go_wp2_with (first | ((with_reducible refine wpList_load_p (op := ⟨some 38, .load 46 (.tmp 37), 46, "part.go:24", #[⟨3, .data⟩], none⟩) ?wxa 46 (.tmp 37) ?wxb vb (vo + i * 43) ?wxc cs _ (unhide HR) Tryz.underlying46 ?wxd (unhide HI2) ?wxe); (case wxa => rfl); (case wxb => rfl); (case wxc => rfl); (case wxd => rfl)) | (go_at_call 47; refine (unhide HK).mono ?_; rintro e w5 ⟨rfl, hb5⟩; have HU5 := hide (hu.later hb5); have lk := lookE (unhide HU5).m n u; obtain ⟨c0, f0⟩ := (unhide HU5).b.cell hlt; have hz5 := (unhide HU5).b.lt; clear hb5 HK))
   have HU6 := hide (((unhide HU5).set hlt).later ((Below.refl _ (w5.setCell ⟨w.heap.size + 1, i, none⟩ (.bool true))).alloc (Nat.le_refl _) (.cells #[] 107)))
   go_roundw
   case rel => exact ⟨i + 1, by go_num, by omega, HU6⟩
   case measure => simp [intOf]; omega
  ·obtain rfl : i = N := by omega
   go_wp2_with fail
   go_ret
   refine ⟨_, rfl, ⟨some ⟨w.heap.size + 1, 0, none⟩, i, rfl, fun _ => ⟨_, rfl, hu.b.lt, fun j hj => ?_⟩⟩, hu.bw⟩
   rw [(hu.b.cell hj).1, decide_eq_true hj]
theorem allOf_any {w : World} {v : Value} {ps : List Pk} (sm : SmP ps) (pk : Pkl w v ps) :
 Calls Tryz.prog 41 #[v] w fun e w' => ∃ r, e = .returned r ∧ Bls w' r (fun _ => true) ps.length ∧ RowKit.Below w.heap.size w w' := by
 have C := hide (without_nil sm pk)
 clear sm pk
 go_enter Tryz.func41, Tryz.ntmps41
 go_wp2_with (go_at_call 45; refine (unhide C).mono ?_; rintro e w2 ⟨r, rfl, h1, h2⟩; have H := hide (And.intro h1 h2); clear h1 h2 C)
 go_ret
 exact ⟨_, rfl, unhide H⟩
end
section
open Go.RowKit Go.Maps
theorem Dv.mono {W : World} {b : Nat} {H : Nm → Option Value} {k k2 : Nat} (h : Dv W b H k) (hk : k ≤ k2) : Dv W b H k2 := let ⟨D, o, r⟩ := h; ⟨D, o.mono hk, r⟩
theorem spQ_len (p : Nat) (fs : List (List Value)) : (spQ p fs).length = fs.length := by simp [spQ]
theorem spQ_at {p j : Nat} {fs : List (List Value)} {x : List Value} (h : fs[j]? = some x) : (spQ p fs)[j]? = some (pathC x, p, j) := by
 unfold spQ
 rw [List.getElem?_map, List.getElem?_zipIdx, h]
 simp
theorem spL_len (ps : List Pk) : ∀ n, (spL ps n).length ≤ ((ps.take n).map fun p => p.fs.length).sum
 | 0 => Nat.zero_le _
 | n + 1 => by
   have ih := spL_len ps n
   rw [List.take_add_one, List.map_append, List.sum_append]
   unfold spL
   rw [List.length_append]
   cases e : ps[n]? with
   | none =>
     simp only [List.length_nil, Option.toList_none, List.map_nil, List.sum_nil]
     omega
   | some q =>
     have e3 : ((some q).toList.map fun p : Pk => p.fs.length).sum = q.fs.length := by simp
     simp only
     rw [spQ_len, e3]
     omega
theorem Bls.same {W X : World} {v : Value} {f : Nat → Bool} {n g : Nat} {u : Value} (h : Bls W v f n) (hg : W.cell? ⟨g, 0, none⟩ = some u) (hu : ∀ b, u ≠ .bool b) (hs : W.heap.size ≤ X.heap.size) (hX : ∀ b, b < W.heap.size → b ≠ g → X.heap[b]? = W.heap[b]?) : Bls X v f n := by
 obtain ⟨a, c, h1, h2⟩ := h
 refine ⟨a, c, h1, fun h0 => ?_⟩
 obtain ⟨b, h3, h4, h5⟩ := h2 h0
 have hne : b ≠ g := fun e => by
  have := h5 0 h0
  rw [e, hg] at this
  injection this with this
  exact hu _ this
 refine ⟨b, h3, Nat.lt_of_lt_of_le h4 hs, fun i hi => ?_⟩
 have e := h5 i hi
 unfold World.cell? at e ⊢
 rw [show X.heap[(⟨b, i, none⟩ : Addr).block]? = W.heap[(⟨b, i, none⟩ : Addr).block]? from hX b h4 hne]
 exact e
theorem sum_take_le {α : Type} (g : α → Nat) (l : List α) (n : Nat) : ((l.take n).map g).sum ≤ (l.map g).sum := by
 conv => rhs; rw [← List.take_append_drop n l, List.map_append, List.sum_append]
 omega
theorem five_free {W : World} {g : Nat} {v0 v1 v2 v3 v4 : Value} {t : TypeId} (h : W.heap[g]? = some (.cells #[v0, v1, v2, v3, v4] t (0, 0))) : W.frozen? ⟨g, 0, none⟩ = false ∧ W.frozen? ⟨g, 1, none⟩ = false ∧ W.frozen? ⟨g, 2, none⟩ = false ∧ W.frozen? ⟨g, 3, none⟩ = false ∧ W.frozen? ⟨g, 4, none⟩ = false :=
 ⟨(cell_blk h 0).2, (cell_blk h 1).2, (cell_blk h 2).2, (cell_blk h 3).2, (cell_blk h 4).2⟩
structure Co (wm wr : World) (C : Array Value) (L : List (Nm × Nat × Nat)) : Prop where
 c : wr.heap[wm.heap.size + 1]? = some (.cells C 66 (0, 0))
 m : Dv wr wm.heap.size (fsH L) L.length
 bw : RowKit.Below wm.heap.size wm wr
theorem Co.later {wm wr X : World} {C : Array Value} {L : List (Nm × Nat × Nat)} (h : Co wm wr C L) (hb : RowKit.Below wr.heap.size wr X) : Co wm X C L := ⟨(hb.block _ (blk_lt h.c)).trans h.c, h.m.later hb, bl_t h.bw hb⟩
theorem Co.old {wm wr : World} {C : Array Value} {L : List (Nm × Nat × Nat)} (h : Co wm wr C L) {t : Nm × Nat × Nat} (hk : (fsH L t.1).isSome = true) : Co wm wr C (L ++ [t]) := ⟨h.c, by rw [fsH_old hk]; exact h.m.mono (by simp), h.bw⟩
theorem Co.new {wm wr W5 : World} {C : Array Value} {L : List (Nm × Nat × Nat)} (h : Co wm wr C L) {t : Nm × Nat × Nat} (hk : (fsH L t.1).isSome = false) (hd : Dv W5 wm.heap.size (up (fsH L) t.1 (some (spV t.2))) (L.length + 1)) (hf : Fx (fun c => c = wm.heap.size) wr W5) : Co wm W5 C (L ++ [t]) := by
 refine ⟨(hf.blk _ (blk_lt h.c) (by omega)).trans h.c, by rw [fsH_new hk, List.length_append]; exact hd, ?_⟩
 have := h.bw.size
 exact ⟨hf.bel.os.trans h.bw.os, hf.bel.tape.trans h.bw.tape, hf.bel.output.trans h.bw.output, Nat.le_trans h.bw.size hf.size, fun b hb => (hf.blk b (by omega) (by omega)).trans (h.bw.block b hb)⟩
theorem co_new (wm : World) (C : Array Value) : Co wm ((wm.alloc (.map #[] 0)).alloc (.cells C 66)) C [] := by
 have hz : (wm.alloc (.map #[] 0)).heap.size = wm.heap.size + 1 := World.size_alloc _ _
 have b1 : RowKit.Below wm.heap.size wm (wm.alloc (.map #[] 0)) := (Below.refl _ wm).alloc (Nat.le_refl _) _
 have b2 : RowKit.Below (wm.alloc (.map #[] 0)).heap.size (wm.alloc (.map #[] 0)) ((wm.alloc (.map #[] 0)).alloc (.cells C 66)) := (Below.refl _ _).alloc (Nat.le_refl _) _
 have h := World.alloc_heap_new (wm.alloc (.map #[] 0)) (.cells C 66)
 rw [hz] at h
 exact ⟨h, (Dv.make wm).later b2, bl_t b1 b2⟩
structure Ck (W : World) (v : Value) (b1 b2 b3 : Nat) (av : Value) (ps : List Pk) : Prop where
 pk : Pkl W v ps
 st : ∃ xs base H1 H2 k1 k2, Sim xs ps ∧ Pks W v xs ∧ Mi W base (.map (some b1)) H1 (nmP xs xs.length) k1 ∧ Mi W base (.map (some b2)) H2 (pvP xs xs.length) k2
 al : Bls W av (fun _ => true) ps.length
 fs : ∃ k, Dv W b3 (fsH (spL ps ps.length)) k
theorem Ck.later {W X : World} {v : Value} {b1 b2 b3 : Nat} {av : Value} {ps : List Pk} (h : Ck W v b1 b2 b3 av ps) (hb : RowKit.Below W.heap.size W X) : Ck X v b1 b2 b3 av ps := by
 obtain ⟨xs, base, H1, H2, k1, k2, s1, s2, s3, s4⟩ := h.st
 obtain ⟨k, hk⟩ := h.fs
 exact ⟨h.pk.later hb, ⟨xs, base, H1, H2, k1, k2, s1, s2.later hb, s3.later hb, s4.later hb⟩, h.al.later hb, k, hk.later hb⟩
set_option maxRecDepth 100000 in
set_option maxHeartbeats 8000000 in
theorem checkOf_any {w : World} {v : Value} {ps : List Pk} (sm : SmP ps) (pk : Pkl w v ps) :
 Calls Tryz.prog 27 #[v] w fun e w' => ∃ b1 b2 b3 av, e = .returned (.agg #[v, .map (some b1), .map (some b2), av, .map (some b3)]) ∧ Ck w' v b1 b2 b3 av ps ∧ RowKit.Below w.heap.size w w' := by
 obtain ⟨va, vc, rfl⟩ : ∃ a c, v = .slice a ps.length c := let ⟨a, c, e, _⟩ := pk; ⟨a, c, e⟩
 obtain ⟨xs, hxs, hsim⟩ := sim_of pk fun p hp => (sm.z p hp).2.1
 obtain ⟨W1, hW1⟩ : ∃ W, W = w.alloc (.cells #[.slice none 0 0, .map none, .map none, .slice none 0 0, .map none] 66) := ⟨_, rfl⟩
 have hb1 : RowKit.Below w.heap.size w W1 := by rw [hW1]; exact (Below.refl _ w).alloc (Nat.le_refl _) _
 have hx1 : W1.heap[w.heap.size]? = some (.cells #[.slice none 0 0, .map none, .map none, .slice none 0 0, .map none] 66 (0, 0)) := by rw [hW1]; exact World.alloc_heap_new w _
 have hl := sm.l
 have ht := sm.tot hsim
 have C1 := hide (setOf_any xs (.slice va ps.length vc) W1 (by rw [hsim.1]; omega) (by omega) (sm.sz hsim) (hxs.later hb1))
 have HA := hide (show ∀ X, RowKit.Below w.heap.size w X → Calls Tryz.prog 41 #[.slice va ps.length vc] X fun e w' => ∃ r, e = .returned r ∧ Bls w' r (fun _ => true) ps.length ∧ RowKit.Below X.heap.size X w' from fun X hX => allOf_any sm (pk.later hX))
 have HPK := hide (And.intro pk (And.intro hxs hsim))
 have HSM := hide sm
 have hmm := @run_makeMap Tryz.prog
 have HW1 := hide (And.intro hb1 hx1)
 have hzl : w.heap.size < W1.heap.size := blk_lt hx1
 clear pk sm hxs hsim hb1 hx1 ht
 go_enter Tryz.func27, Tryz.ntmps27
 go_wp2_with (first | (go_at_call 39; rw [← hW1]; refine (unhide C1).mono ?_; rintro e w2 ⟨H1, k1, H2, k2, rfl, m1, m2, hb2⟩; have HM := hide (And.intro m1 (And.intro m2 hb2)); clear m1 m2 hb2 C1 hW1) | (go_at_call 41; refine (unhide HA _ (bl_t (unhide HW1).1 (unhide HM).2.2)).mono ?_; rintro e wm ⟨av, rfl, hal, hbm⟩; have HAL := hide (And.intro hal hbm); obtain ⟨ia, ic, rfl⟩ := (show ∃ a c, av = .slice a ps.length c from let ⟨a, c, e, _⟩ := hal; ⟨a, c, e⟩); clear hal hbm HA))
 have bwm : RowKit.Below w.heap.size w wm := bl_t (bl_t (unhide HW1).1 (unhide HM).2.2) (unhide HAL).2
 have HBW := hide bwm
 have HRM := hide (show wm.heap[w.heap.size]? = some (.cells #[.slice none 0 0, .map none, .map none, .slice none 0 0, .map none] 66 (0, 0)) from ((bl_t (unhide HM).2.2 (unhide HAL).2).block _ hzl).trans (unhide HW1).2)
 have HFL := hide (show ∀ X, RowKit.Below w.heap.size w X → ∀ (i : Nat) (q : Pk), ps[i]? = some q → ∃ (vb vo : Nat) (fa : Option Addr) (fc : Nat), va = some ⟨vb, vo, none⟩ ∧ X.cell? ⟨vb, vo + i * 43 + 7, none⟩ = some (.slice fa q.fs.length fc) ∧ ∀ Y, RowKit.Below w.heap.size w Y → Fls Y (.slice fa q.fs.length fc) q.fs from fun X hX i q hq => by
  obtain ⟨vb, vo, vc2, cs, d, r, c, pv, f, e, hvb, hr, hpc, hll⟩ := (unhide HPK).1.at2 hq
  injection e with e _ _
  obtain ⟨fa, fc, rfl⟩ : ∃ a c, f = .slice a q.fs.length c := let ⟨a, c, e, _⟩ := hll.fl; ⟨a, c, e⟩
  exact ⟨vb, vo, fa, fc, e, (hX.cell (p := ⟨vb, vo + i * 43 + 7, none⟩) hvb).trans (hr 7 _ hpc.c7), fun Y hY => hll.fl.later hY⟩)
 have HPA := hide (show ∀ (i : Nat) (q : Pk), ps[i]? = some q → ∀ x ∈ q.fs, ∃ s : Nm, x[0]? = some (Value.string s) ∧ s.size ≤ maxLen from fun i q hq => (unhide HSM).f q (List.mem_of_getElem? hq))
 have HLE := hide (show ∀ i, (spL ps i).length ≤ 1048576 from fun i => Nat.le_trans (spL_len ps i) (Nat.le_trans (sum_take_le _ _ _) (unhide HSM).sf))
 have HFQ := hide (show ∀ (i : Nat) (q : Pk), ps[i]? = some q → q.fs.length ≤ 1048576 from fun i q hq => Nat.le_trans (le_sum (fun p : Pk => p.fs.length) (List.mem_of_getElem? hq)) (unhide HSM).sf)
 have HIX := hide (show ∀ x : List Value, isF x → (Tryz.prog.info? 58).map (·.size) = some x.length from fun x hx => by rw [hx.1]; exact sizeF)
 have HCO := hide (co_new wm #[.slice va ps.length vc, .map (some (W1.heap.size + 1)), .map (some (W1.heap.size + 2)), .slice ia ps.length ic, .map (some wm.heap.size)])
 obtain ⟨N, hN⟩ : ∃ N, N = ps.length := ⟨_, rfl⟩
 have HN := hide hN
 clear hmm bwm
 go_loopg [17] ps.length (fun gh iv wr => ∃ i : Nat, iv = .int .i64 i ∧ i ≤ ps.length ∧ ps.length - i ≤ gh ∧ Hid (Co wm wr #[.slice va ps.length vc, .map (some (W1.heap.size + 1)), .map (some (W1.heap.size + 2)), .slice ia ps.length ic, .map (some wm.heap.size)] (spL ps i)))
 case atStart => exact ⟨0, by go_num, Nat.zero_le _, by omega, HCO⟩
 case round =>
  clear HCO
  obtain ⟨i, rfl, hile, hgh, HC⟩ := hrel
  have hc0 := unhide HC
  by_cases hlt : i < ps.length
  ·have hlt2 : (i : Int) < (ps.length : Int) := by omega
   obtain ⟨q, hq⟩ : ∃ q, ps[i]? = some q := ⟨_, List.getElem?_eq_getElem hlt⟩
   obtain ⟨vb, vo, fa, fc, rfl, c7, hfl⟩ := unhide HFL wr ((unhide HBW).trans (hc0.bw.mono (unhide HBW).size)) i q hq
   have HFI := hide hfl
   have HQ := hide hq
   obtain ⟨M, hM⟩ : ∃ M, M = q.fs.length := ⟨_, rfl⟩
   rw [← hM] at c7 HFI
   have hMl : M ≤ 1048576 := by rw [hM]; exact unhide HFQ i q hq
   have HM2 := hide hM
   have hLi := unhide HLE i
   have HC0 := hide (show Co wm wr #[.slice (some ⟨vb, vo, none⟩) ps.length vc, .map (some (W1.heap.size + 1)), .map (some (W1.heap.size + 2)), .slice ia ps.length ic, .map (some wm.heap.size)] (spL ps i ++ (spQ i q.fs).take 0) from by rw [List.take_zero, List.append_nil]; exact hc0)
   clear hfl hq hM
   go_wp2_with fail
   clear c7
   clear hc0 HC
   go_loopw [26] (fun jv wq => ∃ j : Nat, jv = .int .i64 j ∧ j ≤ M ∧ Hid (Co wm wq #[.slice (some ⟨vb, vo, none⟩) ps.length vc, .map (some (W1.heap.size + 1)), .map (some (W1.heap.size + 2)), .slice ia ps.length ic, .map (some wm.heap.size)] (spL ps i ++ (spQ i q.fs).take j))) (fun jv _ => M - (intOf jv).toNat)
   case atStart => exact ⟨0, rfl, Nat.zero_le _, HC0⟩
   case round =>
    clear HC0
    obtain ⟨j, rfl, hjM, HC⟩ := hrel
    have hc := unhide HC
    by_cases hlj : j < M
    ·have hlj2 : (j : Int) < (M : Int) := by omega
     have hjp : j < q.fs.length := by have := unhide HM2; omega
     have hx : q.fs[j]? = some q.fs[j] := List.getElem?_eq_getElem hjp
     generalize q.fs[j] = x at *
     obtain ⟨hxF, fb, fo, rfl, hfb, hfr⟩ := (unhide HFI wr ((unhide HBW).trans (hc.bw.mono (unhide HBW).size))).at hx
     obtain ⟨s, hxs, hss⟩ := unhide HPA i q (unhide HQ) x (List.mem_of_getElem? hx)
     have HR := hide hfr
     have HIF := hide (unhide HIX x hxF)
     have HXL := hide (show x.length = 34 from hxF.1)
     have HXO := hide (show ∀ v ∈ x, v.oneCell' = true from hxF.2.2)
     have HE := hide (show spL ps i ++ (spQ i q.fs).take (j + 1) = (spL ps i ++ (spQ i q.fs).take j) ++ [(s, i, j)] from by rw [List.take_add_one, spQ_at hx, pathC_of hxs, List.append_assoc]; rfl)
     have hLl : (spL ps i ++ (spQ i q.fs).take j).length ≤ 2097152 := by rw [List.length_append, List.length_take]; omega
     clear hfr hxF hx hjp hfb
     generalize spL ps i ++ (spQ i q.fs).take j = L at *
     cases hk : fst1 L s with
     | some t0 =>
       have hsome : (fsH L s).isSome = true := by unfold fsH; rw [hk]; rfl
       have HLK := hide (show ∀ X, Dv X wm.heap.size (fsH L) L.length → (Instr.lookup 64 (.map (some wm.heap.size)) (.string s) true).run Tryz.prog X = .ok (.tuple #[.agg #[.int .i64 (t0.1 : Int), .int .i64 (t0.2 : Int)], .bool true]) X from fun X hX => by
        rw [hX.look hss, hsome]
        unfold fsH
        rw [hk]
        rfl)
       have HOLD := hide (fun (X : World) (h : Co wm X #[.slice (some ⟨vb, vo, none⟩) ps.length vc, .map (some (W1.heap.size + 1)), .map (some (W1.heap.size + 2)), .slice ia ps.length ic, .map (some wm.heap.size)] L) => h.old (t := (s, i, j)) hsome)
       clear hk hsome hss
       go_wp2_with (first | ((with_reducible refine wpList_load_p (op := y22_1) ?oxa 58 (.tmp 29) ?oxb fb (fo + j * 34) ?oxc x _ (unhide HR) Tryz.underlying58 ?oxd (unhide HIF) ?oxe); (case oxa => rfl); (case oxb => rfl); (case oxc => rfl); (case oxd => rfl)) | (with_reducible refine f_alloc rfl rfl ?_; intro w2 zc bk2 k2 z2) | ((with_reducible refine f_store _ _ rfl rfl wr.heap.size rfl x rfl (unhide HXL) (unhide HXO) zc bk2 ?_); intro w3 bk3 k3; have hbel := fnew k2 k3; have c0 := bk3.path hxs; have hzg := blk_lt bk3.at_; have HC3 := hide (hc.later hbel); have c4 : w3.cell? ⟨wm.heap.size + 1, 4, none⟩ = some (.map (some wm.heap.size)) := (cell_blk (unhide HC3).c 4).1; have hzm := blk_lt (unhide HC3).c; have lk := unhide HLK w3 (unhide HC3).m; clear k2 k3 bk2 bk3 z2 hbel))
       have HC9 := hide (unhide HOLD _ ((unhide HC3).later ((Below.refl _ w3).alloc (Nat.le_refl _) (.cells #[.int .i64 (t0.1 : Int), .int .i64 (t0.2 : Int)] 96))))
       go_roundw
       case rel => exact ⟨j + 1, by go_num, by omega, by rw [unhide HE]; exact HC9⟩
       case measure => simp [intOf]; omega
     | none =>
       have hnone : (fsH L s).isSome = false := by unfold fsH; rw [hk]; rfl
       have HLK := hide (show ∀ X, Dv X wm.heap.size (fsH L) L.length → (Instr.lookup 64 (.map (some wm.heap.size)) (.string s) true).run Tryz.prog X = .ok (.tuple #[.agg #[.int .i64 0, .int .i64 0], .bool false]) X from fun X hX => by
        rw [hX.look hss, hnone]
        unfold fsH
        rw [hk]
        rfl)
       have HNEW := hide (show ∀ X : World, Co wm X #[.slice (some ⟨vb, vo, none⟩) ps.length vc, .map (some (W1.heap.size + 1)), .map (some (W1.heap.size + 2)), .slice ia ps.length ic, .map (some wm.heap.size)] L → ∃ W5, (Instr.mapUpdate 64 (.map (some wm.heap.size)) (.string s) (.agg #[.int .i64 (i : Int), .int .i64 (j : Int)])).run Tryz.prog X = .ok () W5 ∧ Co wm W5 #[.slice (some ⟨vb, vo, none⟩) ps.length vc, .map (some (W1.heap.size + 1)), .map (some (W1.heap.size + 2)), .slice ia ps.length ic, .map (some wm.heap.size)] (L ++ [(s, i, j)]) from fun X hX => by
        obtain ⟨W5, h1, h2, h3⟩ := hX.m.put (by unfold maxLen; omega) hss (spV (i, j))
        exact ⟨W5, h1, hX.new (t := (s, i, j)) hnone h2 h3⟩)
       clear hk hnone hss
       go_wp2_with (first | ((with_reducible refine wpList_load_p (op := y22_1) ?oya 58 (.tmp 29) ?oyb fb (fo + j * 34) ?oyc x _ (unhide HR) Tryz.underlying58 ?oyd (unhide HIF) ?oye); (case oya => rfl); (case oyb => rfl); (case oyc => rfl); (case oyd => rfl)) | (with_reducible refine f_alloc rfl rfl ?_; intro w2 zc bk2 k2 z2) | ((with_reducible refine f_store _ _ rfl rfl wr.heap.size rfl x rfl (unhide HXL) (unhide HXO) zc bk2 ?_); intro w3 bk3 k3; have hbel := fnew k2 k3; have c0 := bk3.path hxs; have hzg := blk_lt bk3.at_; have HC3 := hide (hc.later hbel); have c4 : w3.cell? ⟨wm.heap.size + 1, 4, none⟩ = some (.map (some wm.heap.size)) := (cell_blk (unhide HC3).c 4).1; have hzm := blk_lt (unhide HC3).c; have lk := unhide HLK w3 (unhide HC3).m; obtain ⟨W5, hup, hco5⟩ := unhide HNEW _ ((unhide HC3).later ((Below.refl _ w3).alloc (Nat.le_refl _) (.cells #[.int .i64 0, .int .i64 0] 96))); have HC9 := hide hco5; clear hco5; clear k2 k3 bk2 bk3 z2 hbel))
       go_roundw
       case rel => exact ⟨j + 1, by go_num, by omega, by rw [unhide HE]; exact HC9⟩
       case measure => simp [intOf]; omega
    ·obtain rfl : j = M := by omega
     have HC9 := hide (show Co wm wr #[.slice (some ⟨vb, vo, none⟩) ps.length vc, .map (some (W1.heap.size + 1)), .map (some (W1.heap.size + 2)), .slice ia ps.length ic, .map (some wm.heap.size)] (spL ps (i + 1)) from by
      rw [unhide HM2, ← spQ_len i q.fs, List.take_length] at hc
      rw [spL, unhide HQ]
      exact hc)
     go_wp2_with fail
     go_roundg (ps.length - (i + 1))
     case measure => omega
     case rel => exact ⟨i + 1, by go_num, by omega, by omega, HC9⟩
  ·obtain rfl : i = ps.length := by omega
   have r0 := (hc0.bw.block _ (blk_lt (unhide HRM))).trans (unhide HRM)
   obtain ⟨z0, z1, z2, z3, z4⟩ := five r0
   obtain ⟨f0, f1, f2, f3, f4⟩ := five_free r0
   obtain ⟨c0, c1, c2, c3, c4⟩ := five hc0.c
   have hzw := blk_lt r0
   have hzc := blk_lt hc0.c
   have hne : w.heap.size ≠ wm.heap.size + 1 := by have := (unhide HBW).size; omega
   have R0 := hide r0
   have HC9 := hide hc0
   clear r0
   go_wp2_with fail
   refine bodyPost_ret (v := .agg #[.slice va ps.length vc, .map (some (W1.heap.size + 1)), .map (some (W1.heap.size + 2)), .slice ia ps.length ic, .map (some wm.heap.size)]) (by simp [results, Tryz.results27, go_sem, z0, z1, z2, z3, z4]) rfl ?_
   obtain ⟨pk, hxs, hsim⟩ := unhide HPK
   obtain ⟨m1, m2, hb2⟩ := unhide HM
   obtain ⟨hal, hbm⟩ := unhide HAL
   have co := unhide HC9
   have hbw := unhide HBW
   have hz2 := hb2.size
   have hzm2 := hbm.size
   have hzz := co.bw.size
   have bf0 : RowKit.Below w.heap.size w wr := hbw.trans (co.bw.mono hbw.size)
   obtain ⟨F, hF⟩ : ∃ F, F = (((((wr.setCell ⟨w.heap.size, 0, none⟩ (.slice va ps.length vc)).setCell ⟨w.heap.size, 1, none⟩ (.map (some (W1.heap.size + 1)))).setCell ⟨w.heap.size, 2, none⟩ (.map (some (W1.heap.size + 2)))).setCell ⟨w.heap.size, 3, none⟩ (.slice ia ps.length ic)).setCell ⟨w.heap.size, 4, none⟩ (.map (some wm.heap.size))) := ⟨_, rfl⟩
   have bF : RowKit.Below w.heap.size w F := by
    rw [hF]
    exact ((((bf0.setCell (p := ⟨w.heap.size, 0, none⟩) (Nat.le_refl _) _).setCell (p := ⟨w.heap.size, 1, none⟩) (Nat.le_refl _) _).setCell (p := ⟨w.heap.size, 2, none⟩) (Nat.le_refl _) _).setCell (p := ⟨w.heap.size, 3, none⟩) (Nat.le_refl _) _).setCell (p := ⟨w.heap.size, 4, none⟩) (Nat.le_refl _) _
   have kF : ∀ b, b ≠ w.heap.size → F.heap[b]? = wr.heap[b]? := fun b hb => by
    rw [hF]
    exact (set_other _ _ 4 _ b hb).trans ((set_other _ _ 3 _ b hb).trans ((set_other _ _ 2 _ b hb).trans ((set_other _ _ 1 _ b hb).trans (set_other _ _ 0 _ b hb))))
   have sF : F.heap.size = wr.heap.size := by rw [hF, set_size, set_size, set_size, set_size, set_size]
   rw [← hF]
   have k2F : ∀ b, w.heap.size < b → b < w2.heap.size → F.heap[b]? = w2.heap[b]? := fun b h1 h2 => (kF b (by omega)).trans ((co.bw.block b (by omega)).trans (hbm.block b h2))
   refine ⟨_, _, _, _, rfl, ⟨pk.later bF, ⟨xs, _, _, _, _, _, hsim, hxs.later bF, m1.same (fun b e => ?_) (fun x h b e eb => ?_), m2.same (fun b e => ?_) (fun x h b e eb => ?_)⟩, ?_, ⟨_, co.m.same (kF _ ?_)⟩⟩, bF⟩
   ·exact k2F b (by cases e; omega) (m1.dm.lt e)
   ·have := m1.lt e eb
    exact k2F b (by omega) this.2
   ·exact k2F b (by cases e; omega) (m2.dm.lt e)
   ·have := m2.lt e eb
    exact k2F b (by omega) this.2
   ·exact hal.same (g := w.heap.size) (u := .slice none 0 0) (cell_blk (unhide HRM) 0).1 (fun b e => by cases e) (by omega) (fun b h1 h2 => (kF b h2).trans (co.bw.block b h1))
   ·have := hbw.size
    have := blk_lt (unhide HRM)
    omega
end
end Go.Proofs.YtdkpglmdncjnbaaGreatDoor
namespace Go.Proofs
open Go.Shelf
def Tryz.growF_ren : Go.Shelf.Ren := ⟨fun | 4 => 78 | n => n, fun | 22 => 24 | 25 => 31 | 3 => 3 | 4 => 4 | 9 => 9 | 20 => 20 | 0 => 0 | n => n, fun | n => n⟩
theorem Tryz.growF : Go.Proofs.Lays8.n4 Tryz.prog Tryz.growF_ren := {
 mixed := by kernel_rfl
 f4 := ⟨Tryz.f78.name, by decide, Tryz.func78.trans (congrArg some (by kernel_rfl))⟩
 t0 := Tryz.underlying0
 a0 := Tryz.isAgg0
 z0 := Tryz.sizeOf0
 v0 := Tryz.zeroValue0
 t3 := Tryz.underlying3
 a3 := Tryz.isAgg3
 z3 := Tryz.sizeOf3
 v3 := Tryz.zeroValue3
 t4 := Tryz.underlying4
 a4 := Tryz.isAgg4
 z4 := Tryz.sizeOf4
 v4 := Tryz.zeroValue4
 t9 := Tryz.underlying9
 a9 := Tryz.isAgg9
 z9 := Tryz.sizeOf9
 v9 := Tryz.zeroValue9
 t20 := Tryz.underlying20
 a20 := Tryz.isAgg20
 z20 := Tryz.sizeOf20
 v20 := Tryz.zeroValue20
 t22 := Tryz.underlying24
 a22 := Tryz.isAgg24
 z22 := Tryz.sizeOf24
 v22 := Tryz.zeroValue24 }
end Go.Proofs
