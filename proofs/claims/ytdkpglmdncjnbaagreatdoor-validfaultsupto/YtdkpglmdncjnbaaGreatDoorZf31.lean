import Derived.Test.YtdkpglmdncjnbaaGreatDoorZf30
import Derived.DeepKeys4
namespace Go.Proofs.YtdkpglmdncjnbaaGreatDoor
section
open Go.RowKit Go.Maps Go.Shelf
attribute [local go_sem] Oper.semAt_some
attribute [local simp] wide_fn
attribute [local go_sem] wide_fn
structure Jz (w wr : World) (s : Array Value) (av bv : Value) (r : Bool) : Prop where
 b0 : wr.heap[w.heap.size]? = some (.cells s 62 (0, 0))
 b1 : wr.heap[w.heap.size + 1]? = some (.cells #[av] 63 (0, 0))
 b2 : wr.heap[w.heap.size + 2]? = some (.cells #[bv] 63 (0, 0))
 b3 : wr.heap[w.heap.size + 3]? = some (.cells #[.bool r] 4 (0, 0))
 bw : RowKit.Below w.heap.size w wr
theorem Jz.lt {w wr : World} {s : Array Value} {av bv : Value} {r : Bool} (h : Jz w wr s av bv r) : w.heap.size + 4 ≤ wr.heap.size := blk_lt h.b3
theorem Jz.turn {w X Y : World} {s : Array Value} {av bv : Value} {r : Bool} {C : Nat} {row : Option Nat} (h : Jz w X s av bv r) (hg : X.grownBy Y row) (hr : ∀ k, row = some k → C ≤ k) (hC : w.heap.size + 4 ≤ C) : Jz w Y s av bv r := by
 have ne : ∀ j, j < C → some j ≠ row := fun j hj e => by have := hr j e.symm; omega
 have k : ∀ j o, j < C → X.heap[j]? = some o → Y.heap[j]? = some o := fun j o hj e => (hg.block j (blk_lt e) (ne j hj)).trans e
 refine ⟨k _ _ (by omega) h.b0, k _ _ (by omega) h.b1, k _ _ (by omega) h.b2, k _ _ (by omega) h.b3, hg.os.trans h.bw.os, hg.tape.trans h.bw.tape, hg.output.trans h.bw.output, Nat.le_trans h.bw.size hg.size, fun j hj => ?_⟩
 have := h.bw.size
 exact (hg.block j (by omega) (ne j (by omega))).trans (h.bw.block j hj)
theorem Jz.later {w X Y : World} {s : Array Value} {av bv : Value} {r : Bool} (h : Jz w X s av bv r) (hb : RowKit.Below X.heap.size X Y) : Jz w Y s av bv r := h.turn (C := X.heap.size) (grown_below hb) (fun k e => by cases e) h.lt
theorem Jz.set {w X : World} {s : Array Value} {av bv : Value} {r : Bool} (h : Jz w X s av bv r) (q : Bool) : Jz w (X.setCell ⟨w.heap.size + 3, 0, none⟩ (.bool q)) s av bv q := by
 have k : ∀ j o, j ≠ w.heap.size + 3 → X.heap[j]? = some o → (X.setCell ⟨w.heap.size + 3, 0, none⟩ (.bool q)).heap[j]? = some o := fun j o hj e => (set_other X _ 0 (.bool q) j hj).trans e
 exact ⟨k _ _ (by omega) h.b0, k _ _ (by omega) h.b1, k _ _ (by omega) h.b2, set_blk h.b3 0 (.bool q), h.bw.setCell (p := ⟨w.heap.size + 3, 0, none⟩) (by show w.heap.size ≤ w.heap.size + 3; omega) _⟩
theorem jz_new (w : World) (s : Array Value) (av bv : Value) : Jz w ((((w.alloc (.cells s 62)).alloc (.cells #[av] 63)).alloc (.cells #[bv] 63)).alloc (.cells #[.bool false] 4)) s av bv false := by
 obtain ⟨A, hA⟩ : ∃ x, x = w.alloc (.cells s 62) := ⟨_, rfl⟩
 obtain ⟨B, hB⟩ : ∃ x, x = A.alloc (.cells #[av] 63) := ⟨_, rfl⟩
 obtain ⟨C, hC⟩ : ∃ x, x = B.alloc (.cells #[bv] 63) := ⟨_, rfl⟩
 rw [← hA, ← hB, ← hC]
 have zA : A.heap.size = w.heap.size + 1 := by rw [hA]; exact World.size_alloc _ _
 have zB : B.heap.size = w.heap.size + 2 := by rw [hB, World.size_alloc]; omega
 have zC : C.heap.size = w.heap.size + 3 := by rw [hC, World.size_alloc]; omega
 have bA : RowKit.Below w.heap.size w A := by rw [hA]; exact (Below.refl _ w).alloc (Nat.le_refl _) _
 have bB : RowKit.Below A.heap.size A B := by rw [hB]; exact (Below.refl _ A).alloc (Nat.le_refl _) _
 have bC : RowKit.Below B.heap.size B C := by rw [hC]; exact (Below.refl _ B).alloc (Nat.le_refl _) _
 have bD : RowKit.Below C.heap.size C (C.alloc (.cells #[.bool false] 4)) := (Below.refl _ C).alloc (Nat.le_refl _) _
 have h0 : A.heap[w.heap.size]? = some (.cells s 62 (0, 0)) := by rw [hA]; exact heap_alloc_new _ _
 have h1 : B.heap[w.heap.size + 1]? = some (.cells #[av] 63 (0, 0)) := by rw [← zA, hB]; exact heap_alloc_new _ _
 have h2 : C.heap[w.heap.size + 2]? = some (.cells #[bv] 63 (0, 0)) := by rw [← zB, hC]; exact heap_alloc_new _ _
 have h3 : (C.alloc (.cells #[.bool false] 4)).heap[w.heap.size + 3]? = some (.cells #[.bool false] 4 (0, 0)) := by rw [← zC]; exact heap_alloc_new _ _
 exact ⟨(bD.block _ (by omega)).trans ((bC.block _ (by omega)).trans ((bB.block _ (by omega)).trans h0)), (bD.block _ (by omega)).trans ((bC.block _ (by omega)).trans h1), (bD.block _ (by omega)).trans h2, h3, bl_t (bl_t (bl_t bA bB) bC) bD⟩
def Lo (ps : List Pk) (i1 i2 : Nat → Bool) (p : Nat) (q : Pk) : Prop := (∃ al ∈ q.dp, imP ps i1 (-1) al = true ∧ imP ps i2 (-1) al = false) ∨ (∃ al ∈ q.pr, imP ps i1 (p : Int) al = true ∧ imP ps i2 (p : Int) al = false)
theorem lo_all (ps : List Pk) (i1 i2 : Nat → Bool) (p : Nat) (q : Pk) (f g : Nat → Hd) : (∃ x ∈ nvL p q.dp q.pr f g, imP ps i1 x.bt x.al = true ∧ imP ps i2 x.bt x.al = false) ↔ Lo ps i1 i2 p q := by
 unfold Lo nvL
 constructor
 ·rintro ⟨x, hx, h1, h2⟩
  rcases List.mem_append.1 hx with hx | hx
  ·obtain ⟨i, hi, rfl⟩ := List.mem_map.1 hx
   exact .inl ⟨_, getD_mem (List.mem_range.1 hi), h1, h2⟩
  ·obtain ⟨i, hi, rfl⟩ := List.mem_map.1 hx
   exact .inr ⟨_, getD_mem (List.mem_range.1 hi), h1, h2⟩
 ·rintro (⟨al, hal, h1, h2⟩ | ⟨al, hal, h1, h2⟩)
  ·obtain ⟨i, hi, rfl⟩ := List.getElem_of_mem hal
   have e : q.dp.getD i [] = q.dp[i] := by rw [List.getD_eq_getElem?_getD, List.getElem?_eq_getElem hi]; rfl
   exact ⟨nvD q.dp f i, List.mem_append.2 (.inl (List.mem_map.2 ⟨i, List.mem_range.2 hi, rfl⟩)), by unfold nvD; rw [e]; exact h1, by unfold nvD; rw [e]; exact h2⟩
  ·obtain ⟨i, hi, rfl⟩ := List.getElem_of_mem hal
   have e : q.pr.getD i [] = q.pr[i] := by rw [List.getD_eq_getElem?_getD, List.getElem?_eq_getElem hi]; rfl
   exact ⟨nvR p q.pr g i, List.mem_append.2 (.inr (List.mem_map.2 ⟨i, List.mem_range.2 hi, rfl⟩)), by unfold nvR; rw [e]; exact h1, by unfold nvR; rw [e]; exact h2⟩
set_option maxRecDepth 100000 in
set_option maxHeartbeats 8000000 in
theorem loses_any {w : World} {b1 b2 : Nat} {v av bv : Value} {xs : List Pd} {ps : List Pk} {base : Nat} {H1 H2 : Nm → Option Hd} {k1 k2 p : Nat} {q : Pk} (i1 i2 : Nat → Bool) (m1 : Mi w base (.map (some b1)) H1 (nmP xs xs.length) k1) (m2 : Mi w base (.map (some b2)) H2 (pvP xs xs.length) k2) (pks : Pks w v xs) (hs : Sim xs ps) (sm : SmP ps) (pk : Pkl w v ps) (hin : Bls w av i1 ps.length) (hin2 : Bls w bv i2 ps.length) (hq : ps[p]? = some q) :
 Calls Tryz.prog 46 #[.agg #[v, .map (some b1), .map (some b2)], .int .i64 (p : Int), av, bv] w fun e w' => ∃ b : Bool, e = .returned (.bool b) ∧ (b = true ↔ Lo ps i1 i2 p q) ∧ RowKit.Below w.heap.size w w' := by
 have hpl := (List.getElem?_eq_some_iff.1 hq).1
 have hpn : (p : Int) < (ps.length : Int) := by omega
 have hmem := List.mem_of_getElem? hq
 have hdl : q.dp.length ≤ 1048576 := Nat.le_trans (le_sum (fun p : Pk => p.dp.length) hmem) sm.sd
 have hrl : q.pr.length ≤ 1048576 := Nat.le_trans (le_sum (fun p : Pk => p.pr.length) hmem) sm.sr
 obtain ⟨vb, vo, vc, cs, dd, rr, cc, pv, ff, rfl, hvb, hr, hpc, hll⟩ := pk.at2 hq
 obtain ⟨da, dc, f, rfl, hcd⟩ := cv_of hll.dl
 obtain ⟨ra, rc, g, rfl, hcr⟩ := cv_of hll.rl
 have hc3 : w.cell? ⟨vb, vo + p * 43 + 3, none⟩ = some (.slice da q.dp.length dc) := hr 3 _ hpc.c3
 have hc4 : w.cell? ⟨vb, vo + p * 43 + 4, none⟩ = some (.slice ra q.pr.length rc) := hr 4 _ hpc.c4
 obtain ⟨ia, ic, rfl⟩ : ∃ a c, av = .slice a ps.length c := let ⟨a, c, e, _⟩ := hin; ⟨a, c, e⟩
 obtain ⟨ja, jc, rfl⟩ : ∃ a c, bv = .slice a ps.length c := let ⟨a, c, e, _⟩ := hin2; ⟨a, c, e⟩
 have HNA := hide (show ∀ (X : World) (B : Nat), RowKit.Below w.heap.size w X → X.heap[B]? = some (.cells #[.slice (some ⟨vb, vo, none⟩) ps.length vc, .map (some b1), .map (some b2)] 62 (0, 0)) → X.heap[B + 1]? = some (.cells #[.int .i64 (p : Int)] 3 (0, 0)) → SeqB Fence.wide 8 Tryz.prog 87 #[.pointer (some ⟨B, 0, none⟩), .pointer (some ⟨B + 1, 0, none⟩)] encN (Kb w.heap.size B (B + 1)) (fun l => l = nvL p q.dp q.pr f g) (fun pre => pre <+: nvL p q.dp q.pr f g) ((nvL p q.dp q.pr f g).length + 1) X from fun X B hX h1 h2 =>
  need_b 8 ⟨⟨hX, h1, h2⟩, ⟨vb, vo, ps.length, vc, rfl, hvb, hpn, hc3, hc4⟩, hcd, hcr⟩ (by omega) (by omega))
 have HME := hide (show ∀ x ∈ nvL p q.dp q.pr f g, ∀ X, RowKit.Below w.heap.size w X → Calls Tryz.prog 71 #[.agg #[.slice (some ⟨vb, vo, none⟩) ps.length vc, .map (some b1), .map (some b2)], .agg #[.int .i64 x.kd, .int .i64 (x.ix : Int), .slice x.cv.a x.cv.n x.cv.c, .int .i64 x.bt], .slice ia ps.length ic] X fun e w' => e = .returned (.bool (imP ps i1 x.bt x.al)) ∧ RowKit.Below X.heap.size X w' from fun x hx X hX => by
  unfold nvL at hx
  rcases List.mem_append.1 hx with hx | hx
  ·obtain ⟨i, hi, rfl⟩ := List.mem_map.1 hx
   rw [List.mem_range] at hi
   obtain ⟨_, _, _, _, _, ha⟩ := (hcd.later hX).at_ i hi
   have hb := sm.d q hmem _ (getD_mem hi)
   exact isMet_any 2 i (-1) (q.dp.getD i []) i1 (m1.later hX) (m2.later hX) (pks.later hX) hs sm ha (by omega) hb.2 (hin.later hX)
  ·obtain ⟨i, hi, rfl⟩ := List.mem_map.1 hx
   rw [List.mem_range] at hi
   obtain ⟨_, _, _, _, _, ha⟩ := (hcr.later hX).at_ i hi
   have hb := sm.r q hmem _ (getD_mem hi)
   exact isMet_any 3 i p (q.pr.getD i []) i1 (m1.later hX) (m2.later hX) (pks.later hX) hs sm ha (by omega) hb.2 (hin.later hX))
 have HMF := hide (show ∀ x ∈ nvL p q.dp q.pr f g, ∀ X, RowKit.Below w.heap.size w X → Calls Tryz.prog 71 #[.agg #[.slice (some ⟨vb, vo, none⟩) ps.length vc, .map (some b1), .map (some b2)], .agg #[.int .i64 x.kd, .int .i64 (x.ix : Int), .slice x.cv.a x.cv.n x.cv.c, .int .i64 x.bt], .slice ja ps.length jc] X fun e w' => e = .returned (.bool (imP ps i2 x.bt x.al)) ∧ RowKit.Below X.heap.size X w' from fun x hx X hX => by
  unfold nvL at hx
  rcases List.mem_append.1 hx with hx | hx
  ·obtain ⟨i, hi, rfl⟩ := List.mem_map.1 hx
   rw [List.mem_range] at hi
   obtain ⟨_, _, _, _, _, ha⟩ := (hcd.later hX).at_ i hi
   have hb := sm.d q hmem _ (getD_mem hi)
   exact isMet_any 2 i (-1) (q.dp.getD i []) i2 (m1.later hX) (m2.later hX) (pks.later hX) hs sm ha (by omega) hb.2 (hin2.later hX)
  ·obtain ⟨i, hi, rfl⟩ := List.mem_map.1 hx
   rw [List.mem_range] at hi
   obtain ⟨_, _, _, _, _, ha⟩ := (hcr.later hX).at_ i hi
   have hb := sm.r q hmem _ (getD_mem hi)
   exact isMet_any 3 i p (q.pr.getD i []) i2 (m1.later hX) (m2.later hX) (pks.later hX) hs sm ha (by omega) hb.2 (hin2.later hX))
 have HUN := hide (jz_new w #[.slice (some ⟨vb, vo, none⟩) ps.length vc, .map (some b1), .map (some b2)] (.slice ia ps.length ic) (.slice ja ps.length jc))
 have HWH := hide (lo_all ps i1 i2 p q f g)
 generalize nvL p q.dp q.pr f g = L at *
 clear m1 m2 pks hs sm pk hin hin2 hq hr hpc hll hcd hcr hc3 hc4 hmem hdl hrl hpl hvb
 obtain ⟨W3, hW3⟩ : ∃ x, x = ((((w.alloc (.cells #[.slice (some ⟨vb, vo, none⟩) ps.length vc, .map (some b1), .map (some b2)] 62)).alloc (.cells #[.slice ia ps.length ic] 63)).alloc (.cells #[.slice ja ps.length jc] 63)).alloc (.cells #[.bool false] 4)) := ⟨_, rfl⟩
 rw [← hW3] at HUN
 refine (callsIn_wide (n := 9)).1 ?_
 refine callsIn_of_wp_marks Tryz.func46 rfl trivial ?_ rfl
 simp only [Tryz.ntmps46, List.size_toArray, List.length_cons, List.length_nil, Nat.reduceAdd, Nat.reduceSub, Array.replicate_succ, Array.replicate_zero, List.push_toArray, List.append_toArray, List.nil_append, List.cons_append]
 gi_wp2_with (gi_at_call 70; rw [← hW3]; refine (callsIn_wide.2 (needs_any (.slice (some ⟨vb, vo, none⟩) ps.length vc) (.map (some b1)) (.map (some b2)) (p : Int) W3)).mono ?_; rintro e w5 ⟨rfl, hs5, ha5, hb5⟩; have HS5 := hide (And.intro hs5 (And.intro ha5 hb5)); clear hs5 ha5 hb5 hW3)
 obtain ⟨s1, s2, hb5⟩ := unhide HS5
 have un5 := (unhide HUN).later hb5
 have hW3z := (unhide HUN).lt
 have hzs := blk_lt s1
 have hza := blk_lt s2
 have iw5 : Iw w W3.heap.size (W3.heap.size + 1) (.cells #[.slice (some ⟨vb, vo, none⟩) ps.length vc, .map (some b1), .map (some b2)] 62 (0, 0)) (.cells #[.int .i64 (p : Int)] 3 (0, 0)) w5 := ⟨un5.bw, s1, s2⟩
 have hsq := unhide HNA w5 W3.heap.size un5.bw s1 s2
 have hlt5 := un5.lt
 clear HS5 s1 s2 hb5 HNA HUN
 refine rangeFunc_2h rfl (by decide) (gf := 87) (lb := #[.pointer (some ⟨W3.heap.size, 0, none⟩), .pointer (some ⟨W3.heap.size + 1, 0, none⟩)]) rfl trivial (enters_of Tryz.func87 (by kernel_rfl) rfl)
  hsq Kb.trans (Kb.put un5.bw.size hzs hza) (fun W o h => Kb.alloc W o (Nat.le_trans un5.bw.size h) (by omega) (by omega)) (Below.refl _ _) (fun _ => rfl) (fun pre Z => (Jz w Z #[.slice (some ⟨vb, vo, none⟩) ps.length vc, .map (some b1), .map (some b2)] (.slice ia ps.length ic) (.slice ja ps.length jc) false ∧ Iw w W3.heap.size (W3.heap.size + 1) (.cells #[.slice (some ⟨vb, vo, none⟩) ps.length vc, .map (some b1), .map (some b2)] 62 (0, 0)) (.cells #[.int .i64 (p : Int)] 3 (0, 0)) Z) ∧ ∀ x ∈ pre, ¬ (imP ps i1 x.bt x.al = true ∧ imP ps i2 x.bt x.al = false)) (fun c pre Z => c = .ret ∧ Jz w Z #[.slice (some ⟨vb, vo, none⟩) ps.length vc, .map (some b1), .map (some b2)] (.slice ia ps.length ic) (.slice ja ps.length jc) true ∧ ∃ x ∈ pre, imP ps i1 x.bt x.al = true ∧ imP ps i2 x.bt x.al = false) (fun s X Y row ⟨⟨h, hi⟩, h2⟩ hg hr => ⟨⟨h.turn hg (fun k e => (hr k e).1) hlt5, hi.turn hg (fun r e => (hr r e).1) un5.bw.size hzs hza⟩, h2⟩) (fun c s X Y row h hg hr => ⟨h.1, h.2.1.turn hg (fun k e => (hr k e).1) hlt5, h.2.2⟩) ⟨⟨un5, iw5⟩, fun x h => by cases h⟩ (fun x => .cells #[.int .i64 x.kd, .int .i64 (x.ix : Int), .slice x.cv.a x.cv.n x.cv.c, .int .i64 x.bt] 116) (fun (x : Nv) (g : Nat) => { tmps := #[.agg #[.slice (some ⟨vb, vo, none⟩) ps.length vc, .map (some b1), .map (some b2)], .int .i64 (p : Int), .slice ia ps.length ic, .slice ja ps.length jc, .pointer (some ⟨w.heap.size, 0, none⟩), undef, .pointer (some ⟨w.heap.size + 1, 0, none⟩), .pointer (some ⟨w.heap.size + 1 + 1, 0, none⟩), .pointer (some ⟨w.heap.size + 1 + 1 + 1, 0, none⟩), .pointer (some ⟨g, 0, none⟩), .agg #[.slice (some ⟨vb, vo, none⟩) ps.length vc, .map (some b1), .map (some b2)], .int .i64 (p : Int), .func (.func 87) #[] #[.pointer (some ⟨W3.heap.size, 0, none⟩), .pointer (some ⟨W3.heap.size + 1, 0, none⟩)], .agg #[.int .i64 x.kd, .int .i64 (x.ix : Int), .slice x.cv.a x.cv.n x.cv.c, .int .i64 x.bt], undef, undef, undef, undef, undef, undef, undef, undef, undef, undef, undef], defers := [] }) ?as0 ?bo0 ?do0 ?st0
 case as0 =>
  intro l x W K hK
  gi_wp2
  exact hK
 case st0 =>
  intro D c pre Z hD hS hI hK
  obtain ⟨rfl, iz, x, hx, hf⟩ := hI
  have HYES := hide (show Lo ps i1 i2 p q from (unhide HWH).1 ⟨x, hS.subset hx, hf⟩)
  have HM := hide (show Mks Z (w.heap.size + 4) [D] from ⟨by simp, fun E he => by simp at he; subst he; exact ⟨by rw [hD]; exact hlt5, hK⟩⟩)
  have HIZ := hide iz
  clear hD hS iz hx hf hK hsq un5 iw5
  gi_wp2
  have iz := unhide HIZ
  refine leaves_marks (lo := w.heap.size + 4) [D] Z (unhide HM) fun W2 hsh => ?_
  have c7 := (cell_blk (hsh.cel _ _ _ _ iz.b3) 0).1.trans (show #[Value.bool true][0]? = some (.bool true) from rfl)
  exact ⟨_, results_u1 (show Tryz.f46.results = #[.cell 8 4] from Tryz.results46) _ _ _ ⟨w.heap.size + 1 + 1 + 1, 0, none⟩ (.bool true) rfl (by simp [loadVar, go_sem, c7]), true, rfl, ⟨fun _ => unhide HYES, fun _ => rfl⟩, iz.bw.trans (hsh.bel.mono (by omega))⟩
 case do0 =>
  intro D L2 Z hD hS hI hK
  obtain ⟨⟨iz, _⟩, hall⟩ := hI
  have HNO := hide (show ¬ Lo ps i1 i2 p q from fun h => by
   obtain ⟨x, hx, hf⟩ := (unhide HWH).2 h
   rw [← hS] at hx
   exact hall x hx hf)
  have r0 := (cell_blk iz.b3 0).1.trans (show #[Value.bool false][0]? = some (.bool false) from rfl)
  have f0 := (cell_blk iz.b3 0).2
  have HM := hide (show Mks (Z.setCell ⟨w.heap.size + 3, 0, none⟩ (.bool false)) (w.heap.size + 4) [D] from ⟨by simp, fun E he => by simp at he; subst he; exact ⟨by rw [hD]; exact hlt5, (set_other Z _ 0 (.bool false) _ (by rw [hD]; omega)).trans hK⟩⟩)
  have HIZ := hide (iz.set false)
  clear hD hS iz hall hK hsq un5 iw5
  gi_wp2
  have iz := unhide HIZ
  refine leaves_marks (lo := w.heap.size + 4) [D] _ (unhide HM) fun W2 hsh => ?_
  have c7 := (cell_blk (hsh.cel _ _ _ _ iz.b3) 0).1.trans (show #[Value.bool false][0]? = some (.bool false) from rfl)
  exact ⟨_, results_u1 (show Tryz.f46.results = #[.cell 8 4] from Tryz.results46) _ _ _ ⟨w.heap.size + 1 + 1 + 1, 0, none⟩ (.bool false) rfl (by simp [loadVar, go_sem, c7]), false, rfl, ⟨fun h => (by cases h), fun h => absurd h (unhide HNO)⟩, iz.bw.trans (hsh.bel.mono (by omega))⟩
 case bo0 =>
  intro l pre x g W hg hgx hD hLp hI hlen hpre
  obtain ⟨⟨iz, iw⟩, hall⟩ := hI
  obtain ⟨lr, hLr⟩ := hLp
  have hxL : x ∈ L := hpre.subset (by simp)
  have hW5 : w5.heap.size ≤ W.heap.size := by have := blk_lt hD; omega
  have cc0 : ∀ X, Jz w X #[.slice (some ⟨vb, vo, none⟩) ps.length vc, .map (some b1), .map (some b2)] (.slice ia ps.length ic) (.slice ja ps.length jc) false → X.cell? ⟨w.heap.size, 0, none⟩ = some (.slice (some ⟨vb, vo, none⟩) ps.length vc) ∧ X.cell? ⟨w.heap.size, 1, none⟩ = some (.map (some b1)) ∧ X.cell? ⟨w.heap.size, 2, none⟩ = some (.map (some b2)) ∧ X.cell? ⟨w.heap.size + 1, 0, none⟩ = some (.slice ia ps.length ic) ∧ X.cell? ⟨w.heap.size + 1 + 1, 0, none⟩ = some (.slice ja ps.length jc) := fun X h => ⟨(cell_blk h.b0 0).1.trans rfl, (cell_blk h.b0 1).1.trans rfl, (cell_blk h.b0 2).1.trans rfl, (cell_blk h.b1 0).1.trans rfl, (cell_blk h.b2 0).1.trans rfl⟩
  obtain ⟨c0, c1, c2, c3, _⟩ := cc0 W iz
  obtain ⟨n0, n1, n2, n3⟩ := four hgx
  have C := hide (unhide HME x hxL W iz.bw)
  have HCC := hide cc0
  have HGX := hide hgx
  have HXL := hide hxL
  have HDD := hide (And.intro hD hLr)
  have HIZ := hide iz
  have HIW := hide iw
  have HALL := hide hall
  clear cc0 hgx hD hLr hlen hpre iz iw hall hsq HME un5 iw5
  cases hb : imP ps i1 x.bt x.al with
  | false =>
    rw [hb] at C
    gi_wp2_with fail
    refine (CallsIn.inRound l (callsIn_wide.2 (unhide C))).mono ?_
    rintro e w6 ⟨rfl, hb6⟩
    have HP := hide (show post2 w5.heap.size (Kb w.heap.size W3.heap.size (W3.heap.size + 1)) (fun pre Z => (Jz w Z #[.slice (some ⟨vb, vo, none⟩) ps.length vc, .map (some b1), .map (some b2)] (.slice ia ps.length ic) (.slice ja ps.length jc) false ∧ Iw w W3.heap.size (W3.heap.size + 1) (.cells #[.slice (some ⟨vb, vo, none⟩) ps.length vc, .map (some b1), .map (some b2)] 62 (0, 0)) (.cells #[.int .i64 (p : Int)] 3 (0, 0)) Z) ∧ ∀ x ∈ pre, ¬ (imP ps i1 x.bt x.al = true ∧ imP ps i2 x.bt x.al = false)) (fun c pre Z => c = .ret ∧ Jz w Z #[.slice (some ⟨vb, vo, none⟩) ps.length vc, .map (some b1), .map (some b2)] (.slice ia ps.length ic) (.slice ja ps.length jc) true ∧ ∃ x ∈ pre, imP ps i1 x.bt x.al = true ∧ imP ps i2 x.bt x.al = false) (pre ++ [x]) W .normal ⟨#[], []⟩ w6 from ⟨⟨hb6.block _ (blk_lt (unhide HDD).1), hb6.block _ (blk_lt (unhide HDD).2)⟩, Kb.of hb6 (unhide HIZ).bw.size (by omega) (by omega), ⟨(unhide HIZ).later hb6, (unhide HIW).later hb6⟩, fun y hy => by
     rcases List.mem_append.1 hy with hy | hy
     ·exact unhide HALL y hy
     ·rw [List.mem_singleton] at hy; rw [hy]; exact fun h => (by rw [hb] at h; cases h.1)⟩)
    clear hb6 c0 c1 c2 c3 n0 n1 n2 n3 C
    gi_wp2_with fail
    exact unhide HP
  | true =>
    rw [hb] at C
    gi_wp2_with fail
    refine (CallsIn.inRound l (callsIn_wide.2 (unhide C))).mono ?_
    rintro e w6 ⟨rfl, hb6⟩
    have iz6 := (unhide HIZ).later hb6
    obtain ⟨c0, c1, c2, _, c4⟩ := unhide HCC w6 iz6
    obtain ⟨n0, n1, n2, n3⟩ := four ((hb6.block _ (blk_lt (unhide HGX))).trans (unhide HGX))
    have C2 := hide (unhide HMF x (unhide HXL) w6 iz6.bw)
    have H6 := hide (And.intro hb6 iz6)
    clear hb6 iz6 C
    cases hb2 : imP ps i2 x.bt x.al with
    | true =>
      rw [hb2] at C2
      gi_wp2_with fail
      refine (CallsIn.inRound l (callsIn_wide.2 (unhide C2))).mono ?_
      rintro e w7 ⟨rfl, hb7⟩
      have hb67 := bl_t (unhide H6).1 hb7
      have HP := hide (show post2 w5.heap.size (Kb w.heap.size W3.heap.size (W3.heap.size + 1)) (fun pre Z => (Jz w Z #[.slice (some ⟨vb, vo, none⟩) ps.length vc, .map (some b1), .map (some b2)] (.slice ia ps.length ic) (.slice ja ps.length jc) false ∧ Iw w W3.heap.size (W3.heap.size + 1) (.cells #[.slice (some ⟨vb, vo, none⟩) ps.length vc, .map (some b1), .map (some b2)] 62 (0, 0)) (.cells #[.int .i64 (p : Int)] 3 (0, 0)) Z) ∧ ∀ x ∈ pre, ¬ (imP ps i1 x.bt x.al = true ∧ imP ps i2 x.bt x.al = false)) (fun c pre Z => c = .ret ∧ Jz w Z #[.slice (some ⟨vb, vo, none⟩) ps.length vc, .map (some b1), .map (some b2)] (.slice ia ps.length ic) (.slice ja ps.length jc) true ∧ ∃ x ∈ pre, imP ps i1 x.bt x.al = true ∧ imP ps i2 x.bt x.al = false) (pre ++ [x]) W .normal ⟨#[], []⟩ w7 from ⟨⟨hb67.block _ (blk_lt (unhide HDD).1), hb67.block _ (blk_lt (unhide HDD).2)⟩, Kb.of hb67 (unhide HIZ).bw.size (by omega) (by omega), ⟨(unhide HIZ).later hb67, (unhide HIW).later hb67⟩, fun y hy => by
       rcases List.mem_append.1 hy with hy | hy
       ·exact unhide HALL y hy
       ·rw [List.mem_singleton] at hy; rw [hy]; exact fun h => (by rw [hb2] at h; cases h.2)⟩)
      clear hb67 hb7 c0 c1 c2 c3 c4 n0 n1 n2 n3 C2
      gi_wp2_with fail
      exact unhide HP
    | false =>
      rw [hb2] at C2
      gi_wp2_with fail
      refine (CallsIn.inRound l (callsIn_wide.2 (unhide C2))).mono ?_
      rintro e w7 ⟨rfl, hb7⟩
      have hb67 := bl_t (unhide H6).1 hb7
      have iz7 := (unhide HIZ).later hb67
      have r0 := (cell_blk iz7.b3 0).1.trans (show #[Value.bool false][0]? = some (.bool false) from rfl)
      have f0 := (cell_blk iz7.b3 0).2
      have H7 := hide (And.intro hb67 iz7)
      clear hb67 hb7 iz7 c0 c1 c2 c3 c4 n0 n1 n2 n3 C2
      gi_wp2_with fail
      obtain ⟨hb7, iz7⟩ := unhide H7
      exact ⟨⟨(set_other w7 _ 0 (.bool true) _ (by omega)).trans (hb7.block _ (blk_lt (unhide HDD).1)), (set_other w7 _ 0 (.bool true) _ (by omega)).trans (hb7.block _ (blk_lt (unhide HDD).2))⟩, rfl, iz7.set true, x, by simp, hb, hb2⟩
end
section
open Go.RowKit Go.Maps
theorem laidB : laidOutB Tryz.prog = true := by kernel_rfl
theorem wideKY : (match Tryz.prog.underlying 29 with | some (.array _ _) | some (.struct _) => true | _ => false) = true := by kernel_rfl
set_option maxRecDepth 100000 in
theorem lawK : Keyed Tryz.prog 29 := Keyed.of_law (deep_law_laid laidB (m := 2) (by omega) (of_decide_eq_true (by kernel_rfl)) (by kernel_rfl) wideKY)
def klK (n v : Nm) : Lit := .string (keyBytes [.string n.data.toList, .string v.data.toList])
theorem keyK {n v : Nm} (hn : n.size ≤ maxLen) (hv : v.size ≤ maxLen) : keyOf Tryz.prog 29 (.agg #[.string n, .string v]) = some (klK n v) := by
 have hK : Tryz.prog.keyType 29 = true := by kernel_rfl
 have hF : (Value.agg #[.string n, .string v]).formed Tryz.prog 29 = true := by kernel_rfl
 have c9 : Tryz.prog.cellsOf 9 = 1 := by kernel_rfl
 have cK : Tryz.prog.cellsOf 29 = 2 := by kernel_rfl
 obtain ⟨d, hd⟩ : ∃ d, Tryz.prog.types.size + 1 = d + 1 + 1 := ⟨Tryz.prog.types.size - 1, by have : 1 ≤ Tryz.prog.types.size := of_decide_eq_true (by kernel_rfl); omega⟩
 unfold keyOf
 rw [Tryz.underlying29]
 simp only [hK, hF, hd, Bool.and_self, if_true]
 have hl : Tryz.prog.keyLits (d + 1 + 1) 29 (Value.agg #[.string n, .string v]).cells.toList = some [.string n.data.toList, .string v.data.toList] := by
  have k9 : ∀ s : Nm, s.size ≤ maxLen → Tryz.prog.keyLits (d + 1) 9 [.string s] = some [.string s.data.toList] := fun s hs => by
   unfold Program.keyLits
   rw [Tryz.underlying9]
   simp [hs]
  unfold Program.keyLits
  rw [Tryz.underlying29]
  simp [Value.cells, cK, c9, k9 n hn, k9 v hv]
 rw [hl]
 rfl
theorem klK_inj {n v n2 v2 : Nm} (hn : n.size ≤ maxLen) (hv : v.size ≤ maxLen) (hn2 : n2.size ≤ maxLen) (hv2 : v2.size ≤ maxLen) (e : klK n v = klK n2 v2) : n = n2 ∧ v = v2 := by
 have h1 := keyK hn hv
 have h2 := keyK hn2 hv2
 rw [← e] at h2
 have := lawK.inj h1 h2
 injection this with this
 simp at this
 exact this
end
section
open Go.RowKit Go.Maps
def mK (l : List (Nm × Nm)) (n v : Nm) : Bool := l.any fun y => decide (y.1 = n) && decide (y.2 = v)
theorem mK_iff {l : List (Nm × Nm)} {n v : Nm} : mK l n v = true ↔ (n, v) ∈ l := by
 unfold mK
 rw [List.any_eq_true]
 constructor
 ·rintro ⟨⟨a, b⟩, hy, h⟩
  rw [Bool.and_eq_true] at h
  have h1 := of_decide_eq_true h.1
  have h2 := of_decide_eq_true h.2
  simp only at h1 h2
  subst h1 h2
  exact hy
 ·intro h
  exact ⟨(n, v), h, by simp⟩
theorem mK_snoc_same (l : List (Nm × Nm)) (n v : Nm) : mK (l ++ [(n, v)]) n v = true := mK_iff.2 (by simp)
theorem mK_snoc_other (l : List (Nm × Nm)) {n v n2 v2 : Nm} (h : ¬ (n2 = n ∧ v2 = v)) : mK (l ++ [(n, v)]) n2 v2 = mK l n2 v2 := by
 rw [Bool.eq_iff_iff, mK_iff, mK_iff, List.mem_append, List.mem_singleton]
 constructor
 ·rintro (h1 | h1)
  ·exact h1
  ·injection h1 with h1 h2; exact absurd ⟨h1, h2⟩ h
 ·exact .inl
structure RepK (D : DataW Value) (l : List (Nm × Nm)) : Prop where
 has : ∀ n v : Nm, n.size ≤ maxLen → v.size ≤ maxLen → Maps.has D (klK n v) = mK l n v
 at_ : ∀ n v : Nm, n.size ≤ maxLen → v.size ≤ maxLen → D.atKey (klK n v) (.held (.agg #[])) = .held (.agg #[])
theorem RepK.start : RepK (.map []) [] := ⟨fun _ _ _ _ => rfl, fun _ _ _ _ => rfl⟩
theorem RepK.put {D : DataW Value} {l : List (Nm × Nm)} (r : RepK D l) (hD : IsMap D) {n v : Nm} (hn : n.size ≤ maxLen) (hv : v.size ≤ maxLen) : RepK (D.put (klK n v) (.held (.agg #[]))) (l ++ [(n, v)]) := by
 refine ⟨fun a b ha hb => ?_, fun a b ha hb => ?_⟩
 ·by_cases e : a = n ∧ b = v
  ·obtain ⟨rfl, rfl⟩ := e
   rw [has_put_same hD (show WideAt.IsKeyLit (klK a b) from trivial), mK_snoc_same]
  ·rw [has_put_other (fun q => e (klK_inj ha hb hn hv q)), r.has a b ha hb, mK_snoc_other l e]
 ·by_cases e : a = n ∧ b = v
  ·obtain ⟨rfl, rfl⟩ := e
   rw [atKey_put_same hD (show WideAt.IsKeyLit (klK a b) from trivial)]
  ·rw [atKey_put_other (fun q => e (klK_inj ha hb hn hv q)), r.at_ a b ha hb]
def Dk (W : World) (b : Nat) (l : List (Nm × Nm)) (k : Nat) : Prop := ∃ D, W.ownsMap Tryz.prog 29 raw b k D ∧ RepK D l
theorem Dk.lt {W : World} {b : Nat} {l : List (Nm × Nm)} {k : Nat} (h : Dk W b l k) : b < W.heap.size := let ⟨_, o, _⟩ := h; o.lt
theorem Dk.same {W W2 : World} {b : Nat} {l : List (Nm × Nm)} {k : Nat} (h : Dk W b l k) (hb : W2.heap[b]? = W.heap[b]?) : Dk W2 b l k := by
 obtain ⟨D, ⟨es, clock, h1, h2⟩, r⟩ := h
 exact ⟨D, ⟨es, clock, hb.trans h1, h2⟩, r⟩
theorem Dk.later {W W2 : World} {b : Nat} {l : List (Nm × Nm)} {k : Nat} (h : Dk W b l k) (hb : Below W.heap.size W W2) : Dk W2 b l k := h.same (hb.block b h.lt)
theorem Dk.make (W : World) : Dk (W.alloc (.map #[] 0)) W.heap.size [] 0 := ⟨_, World.ownsMap_made W Tryz.prog 29 raw, RepK.start⟩
theorem Dk.look {W : World} {b : Nat} {l : List (Nm × Nm)} {k : Nat} (h : Dk W b l k) {n v : Nm} (hn : n.size ≤ maxLen) (hv : v.size ≤ maxLen) : (Instr.lookup 110 (.map (some b)) (.agg #[.string n, .string v]) true).run Tryz.prog W = .ok (.tuple #[.agg #[], .bool (mK l n v)]) W := by
 obtain ⟨D, ho, r⟩ := h
 obtain ⟨x, ps, hr, hv2⟩ := ho.look_ok lawK Tryz.underlying110 (zeroE0 W) (zd := .held (.agg #[])) (zp := []) rfl (keyK hn hv)
 rw [hr, r.has n v hn hv]
 have e := raw_inv hv2
 rw [r.at_ n v hn hv] at e
 cases e
 rfl
theorem Dk.put {W : World} {b k : Nat} {l : List (Nm × Nm)} (h : Dk W b l k) (hk : k < maxLen) {n v : Nm} (hn : n.size ≤ maxLen) (hv : v.size ≤ maxLen) :
 ∃ W2, (Instr.mapUpdate 110 (.map (some b)) (.agg #[.string n, .string v]) (.agg #[])).run Tryz.prog W = .ok () W2 ∧ Dk W2 b (l ++ [(n, v)]) (k + 1) ∧ Fx (fun c => c = b) W W2 := by
 obtain ⟨D, ho, r⟩ := h
 obtain ⟨W2, hr, ho2, ht⟩ := ho.store lawK Tryz.underlying110 hk (keyK hn hv) (val := .agg #[]) (d := .held (.agg #[])) (ps := []) rfl
 have hg := ht.grown
 exact ⟨W2, hr, ⟨_, ho2, r.put ho.isMap hn hv⟩, ⟨hg.1, hg.2, hg.3, hg.size, fun _ h => absurd h (Nat.not_lt_zero _)⟩, fun c hc hn => hg.block c hc (by intro q; cases q; exact hn rfl)⟩
theorem makeMn (n : Nat) (u : World) : (Instr.makeMap 110 (some (.int .i64 (n : Int)))).run Tryz.prog u = .ok (.map (some u.heap.size)) (u.alloc (.map #[] 0)) := by
 simp [Instr.makeMap, go_sem]
def Kyl (w : World) (u : Value) (ks : List (Nm × Nm)) : Prop := ∃ a c, u = .slice a ks.length c ∧ ∀ (i : Nat) (x : Nm × Nm), ks[i]? = some x → ∃ b o, a = some ⟨b, o, none⟩ ∧ b < w.heap.size ∧ w.cell? ⟨b, o + i * 2, none⟩ = some (.string x.1) ∧ w.cell? ⟨b, o + i * 2 + 1, none⟩ = some (.string x.2)
theorem Kyl.later {w w2 : World} {u : Value} {ks : List (Nm × Nm)} (h : Kyl w u ks) (hb : RowKit.Below w.heap.size w w2) : Kyl w2 u ks := by
 obtain ⟨a, c, h1, h2⟩ := h
 refine ⟨a, c, h1, fun i x hx => ?_⟩
 obtain ⟨b, o, q1, q2, q3, q4⟩ := h2 i x hx
 exact ⟨b, o, q1, Nat.lt_of_lt_of_le q2 hb.size, (hb.cell (p := ⟨b, o + i * 2, none⟩) q2).trans q3, (hb.cell (p := ⟨b, o + i * 2 + 1, none⟩) q2).trans q4⟩
def kyP (p : Pk) : Nm × Nm := (p.nm, p.vr)
def lef (ps : List Pk) (ks : List (Nm × Nm)) (i : Nat) : Bool := match ps[i]? with | some q => !mK ks q.nm q.vr | none => false
structure Wq (w wr : World) (g : Nat) (ps : List Pk) (ks : List (Nm × Nm)) (p : Nat) : Prop where
 m : Dk wr w.heap.size ks ks.length
 b : Bb wr g ps.length (fun i => decide (i < p) && lef ps ks i)
 bw : RowKit.Below w.heap.size w wr
 lo : w.heap.size < g
theorem Wq.later {w wr X : World} {g p : Nat} {ps : List Pk} {ks : List (Nm × Nm)} (h : Wq w wr g ps ks p) (hb : RowKit.Below wr.heap.size wr X) : Wq w X g ps ks p := ⟨h.m.later hb, h.b.later hb, bl_t h.bw hb, h.lo⟩
theorem Wq.set {w wr : World} {g p : Nat} {ps : List Pk} {ks : List (Nm × Nm)} (h : Wq w wr g ps ks p) {q : Pk} (hq : ps[p]? = some q) : Wq w (wr.setCell ⟨g, p, none⟩ (.bool (!mK ks q.nm q.vr))) g ps ks (p + 1) := by
 have hp := (List.getElem?_eq_some_iff.1 hq).1
 refine ⟨h.m.same (set_other wr g p _ _ (by have := h.lo; omega)), ?_, h.bw.setCell (p := ⟨g, p, none⟩) (Nat.le_of_lt h.lo) _, h.lo⟩
 have := h.b.set hp (!mK ks q.nm q.vr)
 rw [show (fun i => decide (i < p + 1) && lef ps ks i) = (fun i => if i = p then !mK ks q.nm q.vr else (decide (i < p) && lef ps ks i)) from by
  funext i
  by_cases e : i = p
  ·subst e
   rw [if_pos rfl, decide_eq_true (by omega : i < i + 1), Bool.true_and]
   unfold lef
   rw [hq]
  ·rw [if_neg e]
   congr 1
   exact decide_eq_decide.2 (by omega)]
 exact this
set_option maxRecDepth 100000 in
set_option maxHeartbeats 4000000 in
theorem without_any {w : World} {v u : Value} {ps : List Pk} {ks : List (Nm × Nm)} (sm : SmP ps) (pk : Pkl w v ps) (hk : Kyl w u ks) (hkl : ks.length ≤ 1048576) (hkz : ∀ x ∈ ks, x.1.size ≤ maxLen ∧ x.2.size ≤ maxLen) :
 Calls Tryz.prog 45 #[v, u] w fun e w' => ∃ gi, e = .returned (.slice (some ⟨gi, 0, none⟩) ps.length ps.length) ∧ w.heap.size ≤ gi ∧ Bb w' gi ps.length (fun i => decide (i < ps.length) && lef ps ks i) ∧ RowKit.Below w.heap.size w w' := by
 obtain ⟨va, vc, rfl⟩ : ∃ a c, v = .slice a ps.length c := let ⟨a, c, e, _⟩ := pk; ⟨a, c, e⟩
 obtain ⟨ua, uc, rfl⟩ : ∃ a c, u = .slice a ks.length c := let ⟨a, c, e, _⟩ := hk; ⟨a, c, e⟩
 have hl := sm.l
 have HPK := hide (show ∀ X, RowKit.Below w.heap.size w X → ∀ (p : Nat) (q : Pk), ps[p]? = some q → ∃ (vb vo : Nat) (cs : List Value), va = some ⟨vb, vo, none⟩ ∧ vb < X.heap.size ∧ X.rangeAt vb (vo + p * 43) cs ∧ (Tryz.prog.info? 46).map (·.size) = some cs.length ∧ (q.nm.size ≤ maxLen ∧ q.vr.size ≤ maxLen) ∧ ∀ Y, Calls Tryz.prog 47 #[.agg cs.toArray] Y fun e w' => e = .returned (.agg #[.string q.nm, .string q.vr]) ∧ Below Y.heap.size Y w' from fun X hX p q hq => by
  obtain ⟨vb, vo, vc2, cs, d, r, c, pv, f, e, hvb, hr, hpc, _⟩ := (pk.later hX).at2 hq
  injection e with e _ _
  have hz := sm.z q (List.mem_of_getElem? hq)
  exact ⟨vb, vo, cs, e, hvb, hr, by rw [hpc.len]; kernel_rfl, ⟨hz.1, hz.2.1⟩, fun Y => keyOf_any cs _ _ Y hpc.c0 hpc.c1⟩)
 have HKY := hide (show ∀ X, RowKit.Below w.heap.size w X → ∀ (i : Nat) (hi : i < ks.length), ∃ b o, ua = some ⟨b, o, none⟩ ∧ X.cell? ⟨b, o + i * 2, none⟩ = some (.string ks[i].1) ∧ X.cell? ⟨b, o + i * 2 + 1, none⟩ = some (.string ks[i].2) from fun X hX i hi => by
  obtain ⟨a, c, e, h2⟩ := hk.later hX
  injection e with e _ _
  obtain ⟨b, o, q1, _, q3, q4⟩ := h2 i ks[i] (List.getElem?_eq_getElem hi)
  exact ⟨b, o, e.trans q1, q3, q4⟩)
 have HKZ := hide hkz
 have hmm := makeMn ks.length
 have HST := hide (show Dk (w.alloc (.map #[] 0)) w.heap.size (ks.take 0) 0 ∧ RowKit.Below w.heap.size w (w.alloc (.map #[] 0)) from ⟨Dk.make w, (Below.refl _ w).alloc (Nat.le_refl _) _⟩)
 obtain ⟨K, hK⟩ : ∃ K, K = ks.length := ⟨_, rfl⟩
 have HK := hide hK
 rw [← hK] at hkl hmm ⊢
 clear pk sm hk hkz hK
 have hmk := makeBl ps.length hl
 go_enter Tryz.func45, Tryz.ntmps45
 go_wp2_with fail
 clear hmm
 go_loopg [7, 17] K (fun gq _ iv wr => ∃ i : Nat, iv = .int .i64 i ∧ i ≤ K ∧ K - i ≤ gq ∧ Hid (Dk wr w.heap.size (ks.take i) i ∧ RowKit.Below w.heap.size w wr))
 case atStart => exact ⟨0, by go_num, by omega, by omega, HST⟩
 case round =>
  clear HST
  obtain ⟨i, rfl, hi, hgi, HD⟩ := hrel
  by_cases hlt : i < K
  ·have hin : (i : Int) < (K : Int) := by omega
   have hil : i < ks.length := by have := unhide HK; omega
   obtain ⟨b, o, rfl, k0, k1⟩ := unhide HKY wr (unhide HD).2 i hil
   have hz := unhide HKZ ks[i] (List.getElem_mem hil)
   have HT := hide (show ks.take (i + 1) = ks.take i ++ [(ks[i].1, ks[i].2)] from by rw [List.take_add_one, List.getElem?_eq_getElem hil]; rfl)
   generalize ks[i] = x at *
   obtain ⟨n, y⟩ := x
   simp only at k0 k1 hz HT
   obtain ⟨Y, hY⟩ : ∃ Y, Y = wr.alloc (.cells #[.string n, .string y] 29) := ⟨_, rfl⟩
   have bY : RowKit.Below wr.heap.size wr Y := by rw [hY]; exact (Below.refl _ wr).alloc (Nat.le_refl _) _
   have hdk := (unhide HD).1.later bY
   obtain ⟨W2, hup, d2, f2⟩ := hdk.put (Nat.lt_of_le_of_lt (show i ≤ 1048576 by omega) (by decide)) hz.1 hz.2
   have HF := hide (show Dk W2 w.heap.size (ks.take (i + 1)) (i + 1) ∧ RowKit.Below w.heap.size w W2 from by
    refine ⟨by rw [unhide HT]; exact d2, ?_⟩
    have h1 := bl_t (unhide HD).2 bY
    exact ⟨f2.bel.os.trans h1.os, f2.bel.tape.trans h1.tape, f2.bel.output.trans h1.output, Nat.le_trans h1.size f2.bel.size, fun c hc => (f2.blk c (Nat.lt_of_lt_of_le hc h1.size) (by omega)).trans (h1.block c hc)⟩)
   rw [hY] at hup
   clear hdk d2 f2 bY hY hz
   go_wp2_with fail
   go_roundg (K - (i + 1))
   case measure => omega
   case rel => exact ⟨i + 1, by go_num, by omega, by omega, HF⟩
  ·obtain rfl : i = K := by omega
   rename World => Wm
   have hd := unhide HD
   rw [unhide HK, List.take_length] at hd
   have HW := hide (show Wq w (Wm.alloc (.cells (madeCells #[.bool false] ps.length) 4)) Wm.heap.size ps ks 0 from by
    have bA : RowKit.Below Wm.heap.size Wm (Wm.alloc (.cells (madeCells #[.bool false] ps.length) 4)) := (Below.refl _ Wm).alloc (Nat.le_refl _) _
    refine ⟨hd.1.later bA, ?_, bl_t hd.2 bA, hd.1.lt⟩
    have := bb_new Wm ps.length
    rw [show (fun j => decide (j < 0) && lef ps ks j) = (fun _ : Nat => false) from by funext j; simp]
    exact this)
   clear hd HD HKY HKZ HK
   go_wp2_with fail
   clear hmk
   go_loopg [9, 10, 11, 30] ps.length (fun gq _ _ _ iv wr => ∃ p : Nat, iv = .int .i64 p ∧ p ≤ ps.length ∧ ps.length - p ≤ gq ∧ Hid (Wq w wr Wm.heap.size ps ks p))
   case atStart => exact ⟨0, by go_num, by omega, by omega, HW⟩
   case round =>
    clear HW
    obtain ⟨p, rfl, hp, hgp, HU⟩ := hrel
    have hu := unhide HU
    by_cases hlt2 : p < ps.length
    ·have hlt3 : (p : Int) < (ps.length : Int) := by omega
     obtain ⟨q, hq⟩ : ∃ q, ps[p]? = some q := ⟨_, List.getElem?_eq_getElem hlt2⟩
     obtain ⟨vb, vo, cs, rfl, hvb, hr, hinf, hz, hk⟩ := unhide HPK wr hu.bw p q hq
     have HR := hide hr
     have HI2 := hide hinf
     have HKO := hide (hk wr)
     have HQ := hide hq
     clear hr hinf hk hq
     go_wp2_with (first | ((with_reducible refine wpList_load_p (op := ⟨some 38, .load 46 (.tmp 37), 46, "part.go:24", #[⟨3, .data⟩], none⟩) ?wxa 46 (.tmp 37) ?wxb vb (vo + p * 43) ?wxc cs _ (unhide HR) Tryz.underlying46 ?wxd (unhide HI2) ?wxe); (case wxa => rfl); (case wxb => rfl); (case wxc => rfl); (case wxd => rfl)) | (go_at_call 47; refine (unhide HKO).mono ?_; rintro e w5 ⟨rfl, hb5⟩; have HU5 := hide (hu.later hb5); have lk := (unhide HU5).m.look hz.1 hz.2; obtain ⟨c0, f0⟩ := (unhide HU5).b.cell hlt2; have hz5 := (unhide HU5).b.lt; clear hb5 HKO))
     have HU6 := hide (((unhide HU5).set (unhide HQ)).later ((Below.refl _ (w5.setCell ⟨Wm.heap.size, p, none⟩ (.bool (!mK ks q.nm q.vr)))).alloc (Nat.le_refl _) (.cells #[] 107)))
     go_roundg (ps.length - (p + 1))
     case measure => omega
     case rel => exact ⟨p + 1, by go_num, by omega, by omega, HU6⟩
    ·obtain rfl : p = ps.length := by omega
     go_wp2_with fail
     go_ret
     exact ⟨Wm.heap.size, rfl, Nat.le_of_lt hu.lo, hu.b, hu.bw⟩
end
end Go.Proofs.YtdkpglmdncjnbaaGreatDoor
