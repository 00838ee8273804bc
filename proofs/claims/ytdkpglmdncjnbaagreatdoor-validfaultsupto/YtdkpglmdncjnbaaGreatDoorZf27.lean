import Derived.Test.YtdkpglmdncjnbaaGreatDoorZf26
namespace Go.Proofs.YtdkpglmdncjnbaaGreatDoor
section
open Go.RowKit Go.Maps
abbrev y27_1 : Oper := ⟨some 49, .lookup 60 (.tmp 46) (.tmp 48) false, 34, "part.go:60", #[⟨3, .data⟩, ⟨5, .data⟩], none⟩
abbrev y27_2 : Oper := ⟨some 51, .buildSlice 34 1 #[(0, .tmp 50)], 34, "part.go:60", #[⟨7, .data⟩], none⟩
abbrev y27_3 : Oper := ⟨some 52, .call { callee := .builtin Builtin.append, args := #[.tmp 49, .tmp 51], argTypes := #[34, 34] }, 34, "part.go:60", #[⟨6, .data⟩, ⟨8, .data⟩], none⟩
abbrev y27_4 : Oper := ⟨none, .mapUpdate 60 (.tmp 43) (.tmp 45) (.tmp 52), 0, "part.go:60", #[⟨0, .data⟩, ⟨2, .data⟩, ⟨9, .data⟩, ⟨9, .chain⟩, ⟨0, .phase⟩, ⟨1, .phase⟩, ⟨2, .phase⟩, ⟨3, .phase⟩, ⟨4, .phase⟩, ⟨5, .phase⟩, ⟨6, .phase⟩, ⟨7, .phase⟩, ⟨8, .phase⟩, ⟨9, .phase⟩], none⟩
def fo (F : Nm → List Nat) (p : Nat) (l : List Nm) : Nm → List Nat := l.foldl (fun F x => upF F x (F x ++ [p])) F
theorem fo_app (F : Nm → List Nat) (p : Nat) (l m : List Nm) : fo F p (l ++ m) = fo (fo F p l) p m := List.foldl_append
theorem fo_snoc (F : Nm → List Nat) (p : Nat) (l : List Nm) (x : Nm) : fo F p (l ++ [x]) = upF (fo F p l) x (fo F p l x ++ [p]) := by rw [fo_app]; rfl
def clN (cl : List (List At)) : List Nm := (cl.map fun al => al.map (·.n)).flatten
def akN (q : Pk) : List Nm := clN q.dp ++ clN q.pr
def akP (ps : List Pk) : Nat → Nm → List Nat
 | 0 => fun _ => []
 | i + 1 => match ps[i]? with | some q => fo (akP ps i) i (akN q) | none => akP ps i
def akK (ps : List Pk) (i : Nat) : Nat := ((ps.take i).map fun q => (akN q).length).sum
theorem akK_succ {ps : List Pk} {i : Nat} {q : Pk} (h : ps[i]? = some q) : akK ps (i + 1) = akK ps i + (akN q).length := by
 unfold akK
 rw [List.take_add_one, h, List.map_append, List.sum_append]
 simp
theorem akK_all {ps : List Pk} (n : Nat) (h : akK ps ps.length ≤ n) : ∀ i, akK ps i ≤ n := fun i => by
 refine Nat.le_trans ?_ h
 unfold akK
 rw [List.take_length, ← List.take_append_drop i ps, List.map_append, List.sum_append, List.take_append_drop]
 exact Nat.le_add_right _ _
theorem clN_snoc (cl : List (List At)) (i : Nat) (al : List At) (h : cl[i]? = some al) : clN (cl.take (i + 1)) = clN (cl.take i) ++ al.map (·.n) := by
 unfold clN
 rw [List.take_add_one, h, List.map_append, List.flatten_append]
 simp
theorem clN_len (cl : List (List At)) (i : Nat) : (clN (cl.take i)).length ≤ (clN cl).length := by
 conv => rhs; rw [← List.take_append_drop i cl]
 unfold clN
 rw [List.map_append, List.flatten_append, List.length_append]
 exact Nat.le_add_right _ _
structure As (w wr : World) (F : Nm → List Nat) (k : Nat) : Prop where
 mi : ∃ H, Mi wr (w.heap.size + 1) (.map (some w.heap.size)) H F k
 bw : RowKit.Below w.heap.size w wr
 sz : w.heap.size + 1 ≤ wr.heap.size
 ln : ∀ x, (F x).length ≤ k
theorem As.later {w wr w2 : World} {F : Nm → List Nat} {k : Nat} (h : As w wr F k) (b : RowKit.Below wr.heap.size wr w2) : As w w2 F k := by
 obtain ⟨⟨H, m⟩, h2, h3, h4⟩ := h
 exact ⟨⟨H, m.later b⟩, bl_t h2 b, Nat.le_trans h3 b.size, h4⟩
theorem as_start (w : World) : As w (w.alloc (.map #[] 0)) (fun _ => []) 0 := by
 have o := World.ownsMap_made w Tryz.prog 9 raw
 exact ⟨⟨fun _ => none, .inr ⟨_, _, rfl, o, Rep.start⟩, fun _ _ => rfl, fun x h e => (by cases e), fun x y h g c e => (by cases e)⟩, (Below.refl _ w).alloc (Nat.le_refl _) _, by rw [World.size_alloc]; omega, fun _ => Nat.le_refl _⟩
theorem As.add {w X : World} {F : Nm → List Nat} {k : Nat} (h : As w X F k) (hk : k ≤ 1048576) {x : Nm} (hx : x.size ≤ maxLen) (p : Nat) (ty : TypeId) {g : Nat} {cs : Array Value} (hg : X.heap[g]? = some (.cells cs 48 (0, 0))) :
 ∃ (f0 h' : Hd) (W2 W3 : World), (Instr.lookup 60 (.map (some w.heap.size)) (.string x) false).run Tryz.prog X = .ok (.slice f0.a f0.n f0.c) X ∧ (Instr.lookup 60 (.map (some w.heap.size)) (.string x) false).run Tryz.prog (X.alloc (.cells #[.int .i64 (p : Int)] 3)) = .ok (.slice f0.a f0.n f0.c) (X.alloc (.cells #[.int .i64 (p : Int)] 3)) ∧
  (Builtin.append_ #[34, 34] ty #[.slice f0.a f0.n f0.c, .slice (some ⟨X.heap.size, 0, none⟩) 1 1]).run Tryz.prog (X.alloc (.cells #[.int .i64 (p : Int)] 3)) = .ok (.slice h'.a h'.n h'.c) W2 ∧ (Instr.mapUpdate 60 (.map (some w.heap.size)) (.string x) (.slice h'.a h'.n h'.c)).run Tryz.prog W2 = .ok () W3 ∧ As w W3 (upF F x (F x ++ [p])) (k + 1) ∧ W2.heap[g]? = X.heap[g]? ∧ W3.heap[g]? = X.heap[g]? := by
 obtain ⟨⟨H, m⟩, hb, hz, hl⟩ := h
 obtain ⟨h', W2, W3, r1, r2, m3, kp, kb, src, bb⟩ := m.add (Nat.lt_of_le_of_lt hk (by decide)) hz hx p (Nat.le_trans (Nat.le_trans (hl x) hk) (by decide)) ty
 obtain ⟨p1, p2⟩ := m.not_cells hg (by decide)
 have kg := kp g (blk_lt hg) (fun e => p1 _ rfl e.symm) (fun f e1 e2 => p2 x f g e1 e2 rfl)
 have lkX := look1 m.dm hx
 have lkA := look1 ((m.later ((Below.refl _ X).alloc (Nat.le_refl _) (.cells #[.int .i64 (p : Int)] 3))).dm) hx
 obtain ⟨f0, e0⟩ : ∃ f : Hd, hv0 (H x) = .slice f.a f.n f.c := by
  cases H x with
  | none => exact ⟨⟨none, 0, 0⟩, rfl⟩
  | some f => exact ⟨f, rfl⟩
 rw [e0] at lkX lkA r1
 refine ⟨f0, h', W2, W3, lkX, lkA, r1, r2, ⟨⟨_, m3⟩, ?_, Nat.le_trans hz bb.size, upF_len hl x p⟩, kg.2, kg.1⟩
 refine hb.trans ⟨bb.os, bb.tape, bb.output, bb.size, fun c hc => (kp c (by omega) (by omega) fun f e1 e2 => ?_).1⟩
 have := (m.lt e1 e2).1
 omega
theorem box3 (w : World) (v0 v1 v2 : Value) (t : TypeId) : (w.alloc (.cells #[v0, v1, v2] t)).heap[w.heap.size]? = some (.cells #[v0, v1, v2] t (0, 0)) := heap_alloc_new _ _
theorem pick2 (a b : Value) {m : Nat} (hm : m < 2) (w : World) (ha : ∃ x n c, a = .slice x n c) (hb : ∃ x n c, b = .slice x n c) : (Instr.index 104 (.agg #[a, b]) (.int .i64 (m : Int))).run Tryz.prog w = .ok (if m = 0 then a else b) w := by
 obtain ⟨_, _, _, rfl⟩ := ha
 obtain ⟨_, _, _, rfl⟩ := hb
 rcases (show m = 0 ∨ m = 1 by omega) with rfl | rfl
 ·simp [go_sem, Instr.index]
 ·simp [go_sem, Instr.index]
def pf (q : Pk) (m : Nat) : List Nm := if m = 0 then [] else if m = 1 then clN q.dp else akN q
theorem pf_succ (q : Pk) {m : Nat} (hm : m < 2) : pf q (m + 1) = pf q m ++ clN (if m = 0 then q.dp else q.pr) := by
 rcases (show m = 0 ∨ m = 1 by omega) with rfl | rfl <;> simp [pf, akN]
theorem pf_len (q : Pk) (m : Nat) : (pf q m).length ≤ (akN q).length := by
 unfold pf akN
 split
 ·simp
 ·split
  ·simp
  ·simp
set_option maxRecDepth 100000 in
set_option maxHeartbeats 16000000 in
theorem askingOf_any {w : World} {v : Value} {ps : List Pk} (sm : SmP ps) (pk : Pkl w v ps) (ht : akK ps ps.length ≤ 1048576) :
 Calls Tryz.prog 40 #[v] w fun e w' => ∃ H k, e = .returned (.map (some w.heap.size)) ∧ Mi w' (w.heap.size + 1) (.map (some w.heap.size)) H (akP ps ps.length) k ∧ RowKit.Below w.heap.size w w' := by
 obtain ⟨N, hN⟩ : ∃ N, N = ps.length := ⟨_, rfl⟩
 obtain ⟨va, vc, rfl⟩ : ∃ a c, v = .slice a ps.length c := let ⟨a, c, e, _⟩ := pk; ⟨a, c, e⟩
 have HK := hide (akK_all (ps := ps) 1048576 ht)
 have HPK := hide pk
 have HSM := hide sm
 have HST := hide (as_start w)
 have hl := sm.l
 clear sm pk ht
 rw [← hN] at HPK hl ⊢
 have HN := hide hN
 clear hN
 have hmm := @run_makeMap Tryz.prog
 go_enter Tryz.func40, Tryz.ntmps40
 go_wp2_with fail
 clear hmm
 go_loopg [4, 6, 8, 10, 14] N (fun g1 _ _ _ _ vi wr => ∃ i : Nat, vi = .int .i64 i ∧ i ≤ N ∧ N - i ≤ g1 ∧ Hid (As w wr (akP ps i) (akK ps i)))
 case atStart => exact ⟨0, by go_num, by omega, by omega, HST⟩
 case round =>
  clear HST
  obtain ⟨i, rfl, hile, hg, HAS⟩ := hrel
  by_cases hlt : i < N
  ·have hlt2 : (i : Int) < (N : Int) := by omega
   obtain ⟨q, hq⟩ : ∃ q, ps[i]? = some q := ⟨_, List.getElem?_eq_getElem (by have := unhide HN; omega)⟩
   have pk2 := unhide HPK
   rw [unhide HN] at pk2
   obtain ⟨vb, vo, vc2, cs, dd, rr, cc, pv, ff, e, hvb, hr, hpc, hll⟩ := pk2.at2 hq
   injection e with e1 _ e3
   subst e1 e3
   have hmem := List.mem_of_getElem? hq
   have hkk : akK ps i + (akN q).length ≤ 1048576 := by rw [← akK_succ hq]; exact unhide HK (i + 1)
   have HPS := hide (show akP ps (i + 1) = fo (akP ps i) i (akN q) ∧ akK ps (i + 1) = akK ps i + (akN q).length from ⟨by rw [akP, hq], akK_succ hq⟩)
   have hdz := (unhide HSM).d q hmem
   have hrz := (unhide HSM).r q hmem
   have hdl : q.dp.length ≤ 1048576 := Nat.le_trans (le_sum (fun p : Pk => p.dp.length) hmem) (unhide HSM).sd
   have hrl : q.pr.length ≤ 1048576 := Nat.le_trans (le_sum (fun p : Pk => p.pr.length) hmem) (unhide HSM).sr
   obtain ⟨da, dc, df, rfl, hcd⟩ := cv_of hll.dl
   obtain ⟨ra, rc, rf, rfl, hcr⟩ := cv_of hll.rl
   have hc3 : wr.cell? ⟨vb, vo + i * 43 + 3, none⟩ = some (.slice da q.dp.length dc) := ((unhide HAS).bw.cell (p := ⟨vb, vo + i * 43 + 3, none⟩) hvb).trans (hr 3 _ hpc.c3)
   have hc4 : wr.cell? ⟨vb, vo + i * 43 + 4, none⟩ = some (.slice ra q.pr.length rc) := ((unhide HAS).bw.cell (p := ⟨vb, vo + i * 43 + 4, none⟩) hvb).trans (hr 4 _ hpc.c4)
   have HAQ := hide (show ∀ n, As w (wr.drewN n) (fo (akP ps i) i (pf q 0)) (akK ps i + (pf q 0).length) from fun n => (unhide HAS).later (bl_drewN wr n))
   have HIX := hide (fun (m : Nat) (hm : m < 2) (W : World) => pick2 (.slice da q.dp.length dc) (.slice ra q.pr.length rc) hm W ⟨_, _, _, rfl⟩ ⟨_, _, _, rfl⟩)
   have HCV := hide (show ∀ m : Nat, ∃ (ca : Option Addr) (cn ck : Nat) (f : Nat → Hd), (if m = 0 then Value.slice da q.dp.length dc else .slice ra q.pr.length rc) = .slice ca cn ck ∧ cn = (if m = 0 then q.dp else q.pr).length ∧ cn ≤ 1048576 ∧ Cv w ca (if m = 0 then q.dp else q.pr) f ∧ ∀ al ∈ (if m = 0 then q.dp else q.pr), al.length ≤ 1048576 ∧ ∀ a ∈ al, a.n.size ≤ maxLen ∧ a.v.size ≤ maxLen from fun m => by
    by_cases h : m = 0
    ·subst h; exact ⟨_, _, _, df, rfl, rfl, hdl, hcd, hdz⟩
    ·rw [if_neg h, if_neg h]; exact ⟨_, _, _, rf, rfl, rfl, hrl, hcr, hrz⟩)
   clear hr hpc hll hmem hq hdz hrz hdl hrl hcd hcr HAS pk2
   have hvbl := hide hvb
   clear hvb
   go_wp2_with fail
   go_quiet (fail)
   clear hc3 hc4
   go_wp2_with fail
   go_loopg [6, 8, 10, 28] 2 (fun g2 _ _ _ vm wx => ∃ m : Nat, vm = .int .i64 m ∧ m ≤ 2 ∧ 2 - m ≤ g2 ∧ Hid (As w wx (fo (akP ps i) i (pf q m)) (akK ps i + (pf q m).length)))
   case atStart => exact ⟨0, by go_num, by omega, by omega, hide (unhide HAQ _)⟩
   case round =>
    clear HAQ
    obtain ⟨m, rfl, hmle, hg2, HAM⟩ := hrel
    by_cases hmt : m < 2
    ·have hmt2 : (m : Int) < 2 := by omega
     obtain ⟨ca, cn, ck, cf, ecv, hcn, hcnb, hcv, hsz⟩ := unhide HCV m
     have hix := unhide HIX m hmt
     rw [ecv] at hix
     have hpl : (pf q (m + 1)).length ≤ (akN q).length := pf_len q (m + 1)
     have hps := pf_succ q hmt
     rw [hps, List.length_append] at hpl
     have HPP := hide hps
     generalize (if m = 0 then q.dp else q.pr) = cl at *
     have HCL := hide (And.intro hcv (And.intro hsz hcn))
     have HM0 := hide (show As w wr (fo (akP ps i) i (pf q m ++ clN (cl.take 0))) (akK ps i + (pf q m ++ clN (cl.take 0)).length) from by
      have e : pf q m ++ clN (cl.take 0) = pf q m := by simp [clN]
      rw [e]; exact unhide HAM)
     clear ecv hcv hsz hcn hps HAM
     go_wp2_with fail
     clear hix
     go_loopg [8, 10, 33] cn (fun g3 _ _ vj wx => ∃ j : Nat, vj = .int .i64 j ∧ j ≤ cn ∧ cn - j ≤ g3 ∧ Hid (As w wx (fo (akP ps i) i (pf q m ++ clN (cl.take j))) (akK ps i + (pf q m ++ clN (cl.take j)).length)))
     case atStart => exact ⟨0, by go_num, by omega, by omega, HM0⟩
     case round =>
      clear HM0
      obtain ⟨j, rfl, hjle, hg3, HAJ⟩ := hrel
      by_cases hjt : j < cn
      ·have hjt2 : (j : Int) < (cn : Int) := by omega
       obtain ⟨hcv, hsz, hcn⟩ := unhide HCL
       obtain ⟨cb, co, rfl, hcb, hcc, hats⟩ := hcv.at_ j (by omega)
       have hal : cl[j]? = some (cl.getD j []) := by rw [List.getD_eq_getElem?_getD, List.getElem?_eq_getElem (by omega)]; rfl
       have hz2 := hsz _ (List.mem_of_getElem? hal)
       have hcl := clN_snoc cl j _ hal
       have hln := clN_len cl (j + 1)
       generalize cl.getD j [] = al at *
       obtain ⟨la, lc, e4, _, hat⟩ := hats
       have hj1 : wr.cell? ⟨cb, co + j, none⟩ = some (.slice la al.length lc) := by
        rw [← e4]; exact ((unhide HAJ).bw.cell (p := ⟨cb, co + j, none⟩) hcb).trans hcc
       have hl2 : (pf q m).length + (clN (cl.take j)).length + al.length ≤ (akN q).length := by
        rw [hcl, List.length_append, List.length_map] at hln; omega
       have HJ0 := hide (show As w wr (fo (akP ps i) i (pf q m ++ clN (cl.take j) ++ (al.take 0).map (·.n))) (akK ps i + (pf q m ++ clN (cl.take j) ++ (al.take 0).map (·.n)).length) from by
        have e : pf q m ++ clN (cl.take j) ++ (al.take 0).map (·.n) = pf q m ++ clN (cl.take j) := by simp
        rw [e]; exact unhide HAJ)
       have HCJ := hide hcl
       obtain ⟨L, hL⟩ : ∃ L, L = al.length := ⟨_, rfl⟩
       have hz3 := hz2.1
       have HAT := hide (And.intro hat hz2.2)
       rw [← hL] at hj1 hz3 hl2
       have HL := hide hL
       clear hcv hsz hcn hcc e4 hal hcl hln hat hz2 hL HAJ
       have hcbb := hide hcb
       clear hcb
       go_wp2_with fail
       clear hj1
       go_loopg [10, 39] L (fun g4 _ vt wx => ∃ t : Nat, vt = .int .i64 t ∧ t ≤ L ∧ L - t ≤ g4 ∧ Hid (As w wx (fo (akP ps i) i (pf q m ++ clN (cl.take j) ++ (al.take t).map (·.n))) (akK ps i + (pf q m ++ clN (cl.take j) ++ (al.take t).map (·.n)).length)))
       case atStart => exact ⟨0, by go_num, by omega, by omega, HJ0⟩
       case round =>
        clear HJ0
        obtain ⟨t, rfl, htle, hg4, HAT4⟩ := hrel
        by_cases htt : t < L
        ·have htt2 : (t : Int) < (L : Int) := by omega
         have htl : t < al.length := by have := unhide HL; omega
         obtain ⟨ab, ao, rfl, hab, a0, a1, a2⟩ := (unhide HAT).1 t htl
         have hxs := ((unhide HAT).2 al[t] (List.getElem_mem htl)).1
         have bw := (unhide HAT4).bw
         have k0 := (bw.cell (p := ⟨ab, ao + t * 3, none⟩) hab).trans a0
         have k1 := (bw.cell (p := ⟨ab, ao + t * 3 + 1, none⟩) hab).trans a1
         have k2 := (bw.cell (p := ⟨ab, ao + t * 3 + 2, none⟩) hab).trans a2
         have ets : (al.take (t + 1)).map (·.n) = (al.take t).map (·.n) ++ [al[t].n] := by
          rw [List.take_add_one, List.getElem?_eq_getElem htl, List.map_append]; rfl
         have hlt4 : ((al.take t).map (·.n)).length ≤ t := by rw [List.length_map, List.length_take]; omega
         generalize al[t] = x at *
         obtain ⟨xn, xo, xv⟩ := x
         simp only at hxs k0 k1 k2 ets a0 a1 a2
         have HETS := hide (show pf q m ++ clN (cl.take j) ++ (al.take (t + 1)).map (·.n) = (pf q m ++ clN (cl.take j) ++ (al.take t).map (·.n)) ++ [xn] from by rw [ets, ← List.append_assoc])
         have hkb : akK ps i + (pf q m ++ clN (cl.take j) ++ (al.take t).map (·.n)).length ≤ 1048576 := by
          rw [List.length_append, List.length_append]; omega
         generalize pf q m ++ clN (cl.take j) ++ (al.take t).map (·.n) = lx at *
         obtain ⟨Y, hY⟩ : ∃ Y, Y = wr.alloc (.cells #[.string xn, .int .i64 xo, .string xv] 48) := ⟨_, rfl⟩
         have bX : RowKit.Below wr.heap.size wr Y.drew := by rw [hY]; exact ((Below.refl _ wr).alloc (Nat.le_refl _) _).drew
         have gX : Y.drew.heap[wr.heap.size]? = some (.cells #[.string xn, .int .i64 xo, .string xv] 48 (0, 0)) := by rw [hY]; exact box3 _ _ _ _ _
         obtain ⟨f0, h', W2, W3, lk1, lk2, r1, r2, as3, kg2, kg3⟩ := ((unhide HAT4).later bX).add hkb hxs i 34 gX
         have cb : ∀ Z : World, Z.heap[wr.heap.size]? = Y.drew.heap[wr.heap.size]? → Z.cell? ⟨wr.heap.size, 0, none⟩ = some (.string xn) := fun Z e => (cell_blk (e.trans gX) 0).1.trans rfl
         have HSX := hide (cb Y.drew rfl)
         have HSA := hide (cb (Y.drew.alloc (.cells #[.int .i64 (i : Int)] 3)) (((Below.refl _ Y.drew).alloc (Nat.le_refl _) (.cells #[.int .i64 (i : Int)] 3)).block _ (blk_lt gX)))
         have HS2 := hide (cb W2 kg2)
         have HS3 := hide (cb W3 kg3)
         have HLX := hide lk1
         have HLA := hide lk2
         have R1 := hide r1
         have R2 := hide r2
         rw [← fo_snoc, ← unhide HETS] at as3
         have HSE3 := hide (show As w W3 (fo (akP ps i) i (pf q m ++ clN (cl.take j) ++ (al.take (t + 1)).map (·.n))) (akK ps i + (pf q m ++ clN (cl.take j) ++ (al.take (t + 1)).map (·.n)).length) from by
          have e := unhide HETS
          rw [e] at as3 ⊢
          rw [List.length_append]
          exact as3)
         clear bw a0 a1 a2 ets hlt4 HETS hkb bX gX lk1 lk2 r1 r2 as3 kg2 kg3 cb HAT4
         have HY := hide hY
         clear hY
         go_upto_region 14 with fail
         rw [← unhide HY]
         clear HY k0 k1 k2
         refine merge (T := ?T14) ?h14 ?k14
         case h14 =>
          intro KEY
          refine wp_region_held_drew (S := fun w' => w'.cell? ⟨wr.heap.size, 0, none⟩ = some (.string xn)) (by kernel_rfl) ?_ (fun hHeld => ?_)
          ·exact unhide HSX
          refine tk2 0 (⟨some 43, .move (.tmp 3), 60, "part.go:60", #[], none⟩) ?_
          refine tk2 1 (⟨some 44, .fieldAddr 48 (.tmp 10) 0, 0, "part.go:60", #[], none⟩) ?_
          refine tk2 2 (⟨some 45, .load 9 (.tmp 44), 9, "part.go:60", #[⟨1, .data⟩], none⟩) ?_
          refine tk2 3 (⟨some 46, .move (.tmp 3), 60, "part.go:60", #[], none⟩) ?_
          refine tk2 4 (⟨some 47, .fieldAddr 48 (.tmp 10) 0, 0, "part.go:60", #[], none⟩) ?_
          refine tk2 5 (⟨some 48, .load 9 (.tmp 47), 9, "part.go:60", #[⟨4, .data⟩], none⟩) ?_
          refine tk2 7 (⟨some 50, .move (.tmp 4), 3, "part.go:60", #[], none⟩) ?_
          refine wpAnyH_ready (rs := [6, 8]) (by kernel_rfl) (by simp) ?_
          refine AllReadyH.cons (o := y27_1) rfl (fun K hK => ?_) (AllReadyH.cons (o := y27_2) rfl (fun K hK => ?_) AllReadyH.nil)
          ·refine wp_look_run _ _ 60 rfl _ _ rfl rfl (unhide HLX) ?_
           refine hK.out _ _ ?_ (fun hHeld => ?_)
           ·exact unhide HSX
           clear hK K
           try simp only [Act.put, sqB, sq0, sq1]
           refine wpAnyH_ready (rs := [8]) (by kernel_rfl) (by simp) ?_
           refine AllReadyH.cons (o := y27_2) rfl (fun K hK => ?_) AllReadyH.nil
           go_simp
           refine hK.out _ _ ?_ (fun hHeld => ?_)
           ·exact unhide HSA
           clear hK K
           try simp only [Act.put, sqB, sq0, sq1]
           refine wpAnyH_ready (rs := [9]) (by kernel_rfl) (by simp) ?_
           refine AllReadyH.cons (o := y27_3) rfl (fun K hK => ?_) AllReadyH.nil
           refine wp_append_run _ _ 34 rfl _ _ rfl rfl (unhide R1) ?_
           refine hK.out _ _ ?_ (fun hHeld => ?_)
           ·exact unhide HS2
           clear hK K
           try simp only [Act.put, sqB, sq0, sq1]
           refine wpAnyH_ready (rs := [10]) (by kernel_rfl) (by simp) ?_
           refine AllReadyH.cons (o := y27_4) rfl (fun K hK => ?_) AllReadyH.nil
           refine wp_upd_run _ _ _ 60 rfl _ _ _ rfl rfl rfl (unhide R2) ?_
           refine hK.out _ _ ?_ (fun hHeld => ?_)
           ·exact unhide HS3
           clear hK K
           try simp only [Act.put]
           refine wpAnyH_done (by kernel_rfl) ?_ _
           exact KEY.out
          ·go_simp
           refine hK.out _ _ ?_ (fun hHeld => ?_)
           ·exact unhide HSA
           clear hK K
           try simp only [Act.put, sqB, sq0, sq1]
           refine wpAnyH_ready (rs := [6]) (by kernel_rfl) (by simp) ?_
           refine AllReadyH.cons (o := y27_1) rfl (fun K hK => ?_) AllReadyH.nil
           refine wp_look_run _ _ 60 rfl _ _ rfl rfl (unhide HLA) ?_
           refine hK.out _ _ ?_ (fun hHeld => ?_)
           ·exact unhide HSA
           clear hK K
           try simp only [Act.put, sqB, sq0, sq1]
           refine wpAnyH_ready (rs := [9]) (by kernel_rfl) (by simp) ?_
           refine AllReadyH.cons (o := y27_3) rfl (fun K hK => ?_) AllReadyH.nil
           refine wp_append_run _ _ 34 rfl _ _ rfl rfl (unhide R1) ?_
           refine hK.out _ _ ?_ (fun hHeld => ?_)
           ·exact unhide HS2
           clear hK K
           try simp only [Act.put, sqB, sq0, sq1]
           refine wpAnyH_ready (rs := [10]) (by kernel_rfl) (by simp) ?_
           refine AllReadyH.cons (o := y27_4) rfl (fun K hK => ?_) AllReadyH.nil
           refine wp_upd_run _ _ _ 60 rfl _ _ _ rfl rfl rfl (unhide R2) ?_
           refine hK.out _ _ ?_ (fun hHeld => ?_)
           ·exact unhide HS3
           clear hK K
           try simp only [Act.put]
           refine wpAnyH_done (by kernel_rfl) ?_ _
           exact KEY.out
         case k14 =>
          clear HLX HLA R1 R2 HSX HSA HS2 HS3
          go_wp2_with fail
          go_roundg (L - (t + 1))
          case measure => omega
          case rel => exact ⟨t + 1, by go_num, by omega, by omega, HSE3⟩
        ·obtain rfl : t = L := by omega
         have HF := hide (show As w wr (fo (akP ps i) i (pf q m ++ clN (cl.take (j + 1)))) (akK ps i + (pf q m ++ clN (cl.take (j + 1))).length) from by
          rw [unhide HCJ, ← List.append_assoc]
          have e : al.take t = al := by rw [unhide HL]; exact List.take_length
          have := unhide HAT4
          rw [e] at this
          exact this)
         go_wp2_with fail
         go_roundg (cn - (j + 1))
         case measure => omega
         case rel => exact ⟨j + 1, by go_num, by omega, by omega, HF⟩
      ·obtain rfl : j = cn := by omega
       have HF := hide (show As w wr (fo (akP ps i) i (pf q (m + 1))) (akK ps i + (pf q (m + 1)).length) from by
        rw [unhide HPP]
        have e : cl.take j = cl := by rw [(unhide HCL).2.2]; exact List.take_length
        have := unhide HAJ
        rw [e] at this
        exact this)
       go_wp2_with fail
       go_roundg (2 - (m + 1))
       case measure => omega
       case rel => exact ⟨m + 1, by go_num, by omega, by omega, HF⟩
    ·obtain rfl : m = 2 := by omega
     have HF := hide (show As w wr (akP ps (i + 1)) (akK ps (i + 1)) from by
      rw [(unhide HPS).1, (unhide HPS).2]; exact unhide HAM)
     go_wp2_with fail
     go_roundg (N - (i + 1))
     case measure => omega
     case rel => exact ⟨i + 1, by go_num, by omega, by omega, HF⟩
  ·obtain rfl : i = N := by omega
   go_wp2_with fail
   go_ret
   obtain ⟨⟨H, hm⟩, hb, _, _⟩ := unhide HAS
   exact ⟨H, _, rfl, hm, hb⟩
end
section
open Go.RowKit Go.Maps
theorem imP_iff {ps : List Pk} {but : Int} {al : List At} : imP ps (fun _ => true) but al = true ↔ ∃ a ∈ al, ∃ p, mP ps a p = true ∧ (p : Int) ≠ but := by
 constructor
 ·intro h
  unfold imP at h
  rw [List.any_eq_true] at h
  obtain ⟨a, ha, h⟩ := h
  rw [List.any_eq_true] at h
  obtain ⟨p, _, h⟩ := h
  rw [Bool.and_eq_true] at h
  exact ⟨a, ha, p, h.1, by have := h.2; unfold hitP at this; simpa using this⟩
 ·rintro ⟨a, ha, p, hm, hp⟩
  exact imP_yes ha hm (by unfold hitP; rw [decide_eq_false hp]; rfl)
end
section
open Go.RowKit Go.Maps
theorem SmP.of_sub {ps qs : List Pk} (sm : SmP ps) (hl : qs.length ≤ ps.length) (hs : ∀ g : Pk → Nat, (qs.map g).sum ≤ (ps.map g).sum) (hm : ∀ q ∈ qs, q ∈ ps) : SmP qs :=
 ⟨Nat.le_trans hl sm.l, Nat.le_trans (hs _) sm.t, Nat.le_trans (hs _) sm.sd, Nat.le_trans (hs _) sm.sr, Nat.le_trans (hs _) sm.sc, Nat.le_trans (hs _) sm.sf, fun q hq => sm.z q (hm q hq), fun q hq => sm.d q (hm q hq), fun q hq => sm.r q (hm q hq), fun q hq => sm.c q (hm q hq), fun q hq => sm.f q (hm q hq)⟩
theorem sum_sub {a b : List Pk} (h : a.Sublist b) (g : Pk → Nat) : (a.map g).sum ≤ (b.map g).sum := by
 induction h with
 | slnil => exact Nat.le_refl _
 | cons x _ ih => rw [List.map_cons, List.sum_cons]; omega
 | cons_cons x _ ih => rw [List.map_cons, List.map_cons, List.sum_cons, List.sum_cons]; omega
theorem all_at (ps : List Pk) : (List.range ps.length).map (pAt ps) = ps := by
 refine List.ext_getElem? fun i => ?_
 by_cases h : i < ps.length
 ·rw [List.getElem?_map, List.getElem?_range h]
  exact (pAt_at h).symm
 ·rw [List.getElem?_eq_none (by simp; omega), List.getElem?_eq_none (by omega)]
theorem part_sub (ps : List Pk) (fl : List Bool) : ((flP ps.length fl).map (pAt ps)).Sublist ps := by
 have h : (flP ps.length fl).Sublist (List.range ps.length) := List.filter_sublist
 have := h.map (pAt ps)
 rwa [all_at] at this
theorem SmP.part {ps : List Pk} (sm : SmP ps) (fl : List Bool) : SmP ((flP ps.length fl).map (pAt ps)) :=
 sm.of_sub (part_sub ps fl).length_le (sum_sub (part_sub ps fl)) fun _ hq => (part_sub ps fl).subset hq
end
end Go.Proofs.YtdkpglmdncjnbaaGreatDoor
