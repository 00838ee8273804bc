import Derived.Test.YtdkpglmdncjnbaaGreatDoorZf20
namespace Go.Proofs.YtdkpglmdncjnbaaGreatDoor
section
open Go.RowKit Go.Maps Go.Shelf
attribute [local go_sem] Oper.semAt_some
attribute [local simp] wide_fn
attribute [local go_sem] wide_fn
def unE (ps : List Pk) (q : Pk) (kd : Int) (i : Nat) (al : List At) (bt : Int) : List Ft := if imP ps (fun _ => true) bt al then [] else [⟨kd, q.nm, q.vr, i, ⟨#[]⟩, ⟨#[]⟩⟩]
def unF (ps : List Pk) (p : Nat) (q : Pk) : List Ft := ((List.range q.dp.length).flatMap fun i => unE ps q 2 i (q.dp.getD i []) (-1)) ++ ((List.range q.pr.length).flatMap fun i => unE ps q 3 i (q.pr.getD i []) p)
theorem unF_eq (ps : List Pk) (p : Nat) (q : Pk) (f g : Nat → Hd) : (nvL p q.dp q.pr f g).flatMap (unO ps q) = unF ps p q := by
 unfold nvL unF
 rw [List.flatMap_append, List.flatMap_map, List.flatMap_map]
 rfl
theorem unF_len (ps : List Pk) (p : Nat) (q : Pk) : (unF ps p q).length ≤ q.dp.length + q.pr.length := by
 rw [← unF_eq ps p q (fun _ => ⟨none, 0, 0⟩) (fun _ => ⟨none, 0, 0⟩), ← nvL_len p q.dp q.pr (fun _ => ⟨none, 0, 0⟩) (fun _ => ⟨none, 0, 0⟩)]
 exact unO_len _ _ _
theorem getD_mem {l : List (List At)} {i : Nat} (h : i < l.length) : l.getD i [] ∈ l := by
 rw [List.getD_eq_getElem?_getD, List.getElem?_eq_getElem h]
 exact List.getElem_mem h
theorem four {W : World} {g : Nat} {v0 v1 v2 v3 : Value} {t : TypeId} (h : W.heap[g]? = some (.cells #[v0, v1, v2, v3] t (0, 0))) : W.cell? ⟨g, 0, none⟩ = some v0 ∧ W.cell? ⟨g, 1, none⟩ = some v1 ∧ W.cell? ⟨g, 2, none⟩ = some v2 ∧ W.cell? ⟨g, 3, none⟩ = some v3 :=
 ⟨(cell_blk h 0).1, (cell_blk h 1).1, (cell_blk h 2).1, (cell_blk h 3).1⟩
theorem row_not {w : World} {base e size n : Nat} {v : Value} {xs : List Value} (h : w.ownsRow base e size v n xs) {c : Nat} {o : Obj} (ho : w.heap[c]? = some o) (hn : ∀ cs, o ≠ .cells cs e (0, 0)) : v.ownBlock ≠ some c := fun q => by
 rcases h.2 with ⟨h1, _⟩ | ⟨g, cap, cur, h1, _, h3, _⟩
 ·rw [h1] at q; cases q
 ·rw [h1] at q
  cases q
  rw [ho] at h3
  cases h3
  exact hn _ rfl
set_option maxRecDepth 100000 in
set_option maxHeartbeats 8000000 in
theorem unmet_any {w : World} {b1 b2 : Nat} {v av fv : Value} {xs : List Pd} {ps : List Pk} {base : Nat} {H1 H2 : Nm → Option Hd} {k1 k2 p : Nat} {q : Pk} (m1 : Mi w base (.map (some b1)) H1 (nmP xs xs.length) k1) (m2 : Mi w base (.map (some b2)) H2 (pvP xs xs.length) k2) (pks : Pks w v xs) (hs : Sim xs ps) (sm : SmP ps) (pk : Pkl w v ps) (hin : Bls w av (fun _ => true) ps.length) (hq : ps[p]? = some q) :
 Calls Tryz.prog 59 #[.agg #[v, .map (some b1), .map (some b2), av, fv], .int .i64 (p : Int)] w fun e w' => ∃ r, e = .returned r ∧ w'.ownsRow w.heap.size 31 6 r (unF ps p q).length (ftC (unF ps p q)) ∧ RowKit.Below w.heap.size w w' := by
 have hpl := (List.getElem?_eq_some_iff.1 hq).1
 have hpn : (p : Int) < (ps.length : Int) := by omega
 have hmem := List.mem_of_getElem? hq
 have hdl : q.dp.length ≤ 1048576 := Nat.le_trans (le_sum (fun p : Pk => p.dp.length) hmem) sm.sd
 have hrl : q.pr.length ≤ 1048576 := Nat.le_trans (le_sum (fun p : Pk => p.pr.length) hmem) sm.sr
 obtain ⟨vb, vo, vc, cs, dd, rr, cc, pv, ff, rfl, hvb, hr, hpc, hll⟩ := pk.at2 hq
 obtain ⟨da, dc, f, rfl, hcd⟩ := cv_of hll.dl
 obtain ⟨ra, rc, g, rfl, hcr⟩ := cv_of hll.rl
 have hc3 : w.cell? ⟨vb, vo + p * 43 + 3, none⟩ = some (.slice da q.dp.length dc) := hr 3 _ hpc.c3
 have hc4 : w.cell? ⟨vb, vo + p * 43 + 4, none⟩ = some (.slice ra q.pr.length rc) := hr 4 _ hpc.c4
 obtain ⟨ia, ic, rfl⟩ : ∃ a c, av = .slice a ps.length c := let ⟨a, c, e, _⟩ := hin; ⟨a, c, e⟩
 obtain ⟨va, hva⟩ : ∃ x : Value, x = .slice (some ⟨vb, vo, none⟩) ps.length vc := ⟨_, rfl⟩
 have HNA := hide (show ∀ (X : World) (B : Nat), RowKit.Below w.heap.size w X → X.heap[B]? = some (.cells #[.slice (some ⟨vb, vo, none⟩) ps.length vc, .map (some b1), .map (some b2)] 62 (0, 0)) → X.heap[B + 1]? = some (.cells #[.int .i64 (p : Int)] 3 (0, 0)) → SeqB Fence.wide 8 Tryz.prog 87 #[.pointer (some ⟨B, 0, none⟩), .pointer (some ⟨B + 1, 0, none⟩)] encN (Kb w.heap.size B (B + 1)) (fun l => l = nvL p q.dp q.pr f g) (fun pre => pre <+: nvL p q.dp q.pr f g) ((nvL p q.dp q.pr f g).length + 1) X from fun X B hX h1 h2 =>
  need_b 8 ⟨⟨hX, h1, h2⟩, ⟨vb, vo, ps.length, vc, rfl, hvb, hpn, hc3, hc4⟩, hcd, hcr⟩ (by omega) (by omega))
 have HME := hide (show ∀ x ∈ nvL p q.dp q.pr f g, ∀ X, RowKit.Below w.heap.size w X → Calls Tryz.prog 71 #[.agg #[.slice (some ⟨vb, vo, none⟩) ps.length vc, .map (some b1), .map (some b2)], .agg #[.int .i64 x.kd, .int .i64 (x.ix : Int), .slice x.cv.a x.cv.n x.cv.c, .int .i64 x.bt], .slice ia ps.length ic] X fun e w' => e = .returned (.bool (imP ps (fun _ => true) x.bt x.al)) ∧ RowKit.Below X.heap.size X w' from fun x hx X hX => by
  unfold nvL at hx
  rcases List.mem_append.1 hx with hx | hx
  ·obtain ⟨i, hi, rfl⟩ := List.mem_map.1 hx
   rw [List.mem_range] at hi
   obtain ⟨_, _, _, _, _, ha⟩ := (hcd.later hX).at_ i hi
   have hb := sm.d q hmem _ (getD_mem hi)
   exact isMet_any 2 i (-1) (q.dp.getD i []) (fun _ => true) (m1.later hX) (m2.later hX) (pks.later hX) hs sm ha (by omega) hb.2 (hin.later hX)
  ·obtain ⟨i, hi, rfl⟩ := List.mem_map.1 hx
   rw [List.mem_range] at hi
   obtain ⟨_, _, _, _, _, ha⟩ := (hcr.later hX).at_ i hi
   have hb := sm.r q hmem _ (getD_mem hi)
   exact isMet_any 3 i p (q.pr.getD i []) (fun _ => true) (m1.later hX) (m2.later hX) (pks.later hX) hs sm ha (by omega) hb.2 (hin.later hX))
 have HF := hide (show ∀ (x : Nv) X, RowKit.Below w.heap.size w X → Calls Tryz.prog 79 #[.agg #[.slice (some ⟨vb, vo, none⟩) ps.length vc, .map (some b1), .map (some b2), .slice ia ps.length ic, fv], .int .i64 x.kd, .int .i64 (p : Int), .int .i64 (x.ix : Int), .int .i64 (-1)] X fun e w' => e = .returned (Ft.v ⟨x.kd, q.nm, q.vr, x.ix, ⟨#[]⟩, ⟨#[]⟩⟩) ∧ RowKit.Below X.heap.size X w' from fun x X hX => fault_one x.kd x.ix (pk.later hX) hq)
 have HLL := hide (show (nvL p q.dp q.pr f g).length ≤ 2097152 from by rw [nvL_len]; omega)
 have HUN := hide (un_new w #[.slice (some ⟨vb, vo, none⟩) ps.length vc, .map (some b1), .map (some b2), .slice ia ps.length ic, fv] (p : Int))
 rw [← unF_eq ps p q f g]
 generalize nvL p q.dp q.pr f g = L at *
 clear m1 m2 pks hs sm pk hin hq hr hpc hll hcd hcr hc3 hc4 hmem hdl hrl hva hpl hvb va
 obtain ⟨W3, hW3⟩ : ∃ x, x = (((w.alloc (.cells #[.slice (some ⟨vb, vo, none⟩) ps.length vc, .map (some b1), .map (some b2), .slice ia ps.length ic, fv] 66)).alloc (.cells #[.int .i64 (p : Int)] 3)).alloc (.cells #[.slice none 0 0] 24)) := ⟨_, rfl⟩
 rw [← hW3] at HUN
 refine (callsIn_wide (n := 9)).1 ?_
 refine callsIn_of_wp_marks Tryz.func59 rfl trivial ?_ rfl
 simp only [Tryz.ntmps59, List.size_toArray, List.length_cons, List.length_nil, Nat.reduceAdd, Nat.reduceSub, Array.replicate_succ, Array.replicate_zero, List.push_toArray, List.append_toArray, List.nil_append, List.cons_append]
 gi_wp2_with (gi_at_call 70; rw [← hW3]; refine (callsIn_wide.2 (needs_any (.slice (some ⟨vb, vo, none⟩) ps.length vc) (.map (some b1)) (.map (some b2)) (p : Int) W3)).mono ?_; rintro e w5 ⟨rfl, hs5, ha5, hb5⟩; have HS5 := hide (And.intro hs5 (And.intro ha5 hb5)); clear hs5 ha5 hb5 hW3)
 obtain ⟨s1, s2, hb5⟩ := unhide HS5
 have un5 := (unhide HUN).later hb5
 have hW3z := (unhide HUN).lt
 have hzs := blk_lt s1
 have hza := blk_lt s2
 have iw5 : Iw w W3.heap.size (W3.heap.size + 1) (.cells #[.slice (some ⟨vb, vo, none⟩) ps.length vc, .map (some b1), .map (some b2)] 62 (0, 0)) (.cells #[.int .i64 (p : Int)] 3 (0, 0)) w5 := ⟨un5.bw, s1, s2⟩
 have hsq := unhide HNA w5 W3.heap.size un5.bw s1 s2
 have hlt5 := un5.lt
 clear HS5 s1 s2 hb5 HNA HUN
 refine rangeFunc_2h rfl (by decide) (gf := 87) (lb := #[.pointer (some ⟨W3.heap.size, 0, none⟩), .pointer (some ⟨W3.heap.size + 1, 0, none⟩)]) rfl trivial (enters_of Tryz.func87 (by kernel_rfl) rfl)
  hsq Kb.trans (Kb.put un5.bw.size hzs hza) (fun W o h => Kb.alloc W o (Nat.le_trans un5.bw.size h) (by omega) (by omega)) (Below.refl _ _) (fun _ => rfl) (fun pre Z => (∃ sa sc, Un w Z #[.slice (some ⟨vb, vo, none⟩) ps.length vc, .map (some b1), .map (some b2), .slice ia ps.length ic, fv] (p : Int) (.slice sa (pre.flatMap (unO ps q)).length sc) (pre.flatMap (unO ps q))) ∧ Iw w W3.heap.size (W3.heap.size + 1) (.cells #[.slice (some ⟨vb, vo, none⟩) ps.length vc, .map (some b1), .map (some b2)] 62 (0, 0)) (.cells #[.int .i64 (p : Int)] 3 (0, 0)) Z) (fun _ _ _ => False) (fun s X Y row ⟨⟨sa, sc, h⟩, hi⟩ hg hr => ⟨⟨sa, sc, h.turn hg (fun r e => ⟨(hr r e).1, let ⟨o, h1, h2, _⟩ := (hr r e).2; ⟨o, h1, h2⟩⟩) hlt5⟩, hi.turn hg (fun r e => (hr r e).1) un5.bw.size hzs hza⟩) (fun c s X Y row h hg hr => h) ⟨⟨none, 0, un5⟩, iw5⟩ (fun x => .cells #[.int .i64 x.kd, .int .i64 (x.ix : Int), .slice x.cv.a x.cv.n x.cv.c, .int .i64 x.bt] 116) (fun (x : Nv) (g : Nat) => { tmps := #[.agg #[.slice (some ⟨vb, vo, none⟩) ps.length vc, .map (some b1), .map (some b2), .slice ia ps.length ic, fv], .int .i64 (p : Int), .pointer (some ⟨w.heap.size, 0, none⟩), .pointer (some ⟨w.heap.size + 1, 0, none⟩), .slice none 0 0, .pointer (some ⟨w.heap.size + 1 + 1, 0, none⟩), .pointer (some ⟨g, 0, none⟩), .pointer (some ⟨w.heap.size, 0, none⟩), .agg #[.slice (some ⟨vb, vo, none⟩) ps.length vc, .map (some b1), .map (some b2)], .int .i64 (p : Int), .func (.func 87) #[] #[.pointer (some ⟨W3.heap.size, 0, none⟩), .pointer (some ⟨W3.heap.size + 1, 0, none⟩)], .agg #[.int .i64 x.kd, .int .i64 (x.ix : Int), .slice x.cv.a x.cv.n x.cv.c, .int .i64 x.bt], undef, undef, undef, undef, undef, undef, undef, undef, undef, undef, undef, undef, undef, undef, undef, undef, undef, undef], defers := [] }) ?as0 ?bo0 ?do0 ?st0
 case as0 =>
  intro l x W K hK
  gi_wp2
  exact hK
 case st0 =>
  intro D c pre Z hD hS hI hK
  exact hI.elim
 case do0 =>
  intro D L2 Z hD hS hI hK
  obtain ⟨⟨sa, sc, un⟩, _⟩ := hI
  rw [hS] at un
  have c0 : Z.cell? ⟨w.heap.size + 1 + 1, 0, none⟩ = some (.slice sa (L.flatMap (unO ps q)).length sc) := (cell_blk un.b2 0).1
  obtain ⟨m, hm⟩ : ∃ m, m = (L.flatMap (unO ps q)).length := ⟨_, rfl⟩
  rw [← hm] at c0
  have HMM := hide hm
  clear hm
  have HU := hide un
  have HK := hide (And.intro hD hK)
  clear hS hK hD un hsq un5
  gi_wp2
  obtain ⟨hD, hK⟩ := unhide HK
  have un := unhide HU
  have hsh := sh_put (W := Z) (lo := w.heap.size + 3) (D := D) (.deferred none) (by omega) hK rfl rfl
  refine ⟨by simp, .inl ⟨_, _, rfl, run_takeDeferred hK, ?_⟩⟩
  exact ⟨_, results_tmp (show Tryz.f59.results = #[.tmp 4] from Tryz.results59) _ _ _, _, rfl, by rw [unhide HMM]; exact row_lo2 (lo := w.heap.size + 3) (lo2 := w.heap.size) (hsh.row un.row) (by omega), un.bw.trans (hsh.bel.mono (show w.heap.size ≤ w.heap.size + 3 by omega))⟩
 case bo0 =>
  intro l pre x g W hg hgx hD hLp hI hlen hpre
  obtain ⟨⟨sa, sc, un⟩, iw⟩ := hI
  obtain ⟨lr, hLr⟩ := hLp
  have HIW := hide iw
  clear iw
  have hxL : x ∈ L := hpre.subset (by simp)
  have hW5 : w5.heap.size ≤ W.heap.size := by have := blk_lt hD; omega
  obtain ⟨c0, c1, c2, c3, c4⟩ := five un.b0
  obtain ⟨n0, n1, n2, n3⟩ := four hgx
  have C := hide (unhide HME x hxL W un.bw)
  have hpl : (pre.flatMap (unO ps q)).length ≤ 2097152 := by
   have h1 := unO_len ps q pre
   have h2 := hpre.length_le
   rw [List.length_append] at h2
   have := unhide HLL
   omega
  have HG := hide hgx
  have HDD := hide (And.intro hD hLr)
  have HUN := hide un
  have HFX := hide (unhide HF x)
  clear hgx hD hLr hlen hpre un hsq HME un5 HF
  have HE := hide (show (pre ++ [x]).flatMap (unO ps q) = pre.flatMap (unO ps q) ++ unO ps q x from by simp)
  have HO := hide (show unO ps q x = (if imP ps (fun _ => true) x.bt x.al then [] else [⟨x.kd, q.nm, q.vr, x.ix, ⟨#[]⟩, ⟨#[]⟩⟩]) from rfl)
  cases hb : imP ps (fun _ => true) x.bt x.al with
  | true =>
    rw [hb] at C HO
    clear hb
    gi_wp2_with fail
    refine (CallsIn.inRound l (callsIn_wide.2 (unhide C))).mono ?_
    rintro e w6 ⟨rfl, hb6⟩
    have un6 := (unhide HUN).later hb6
    have HP := hide (show post2 w5.heap.size (Kb w.heap.size W3.heap.size (W3.heap.size + 1)) (fun pre Z => (∃ sa sc, Un w Z #[.slice (some ⟨vb, vo, none⟩) ps.length vc, .map (some b1), .map (some b2), .slice ia ps.length ic, fv] (p : Int) (.slice sa (pre.flatMap (unO ps q)).length sc) (pre.flatMap (unO ps q))) ∧ Iw w W3.heap.size (W3.heap.size + 1) (.cells #[.slice (some ⟨vb, vo, none⟩) ps.length vc, .map (some b1), .map (some b2)] 62 (0, 0)) (.cells #[.int .i64 (p : Int)] 3 (0, 0)) Z) (fun _ _ _ => False) (pre ++ [x]) W .normal ⟨#[], []⟩ w6 from ⟨⟨hb6.block _ (blk_lt (unhide HDD).1), hb6.block _ (blk_lt (unhide HDD).2)⟩, Kb.of hb6 (unhide HUN).bw.size (by omega) (by omega), ⟨sa, sc, by rw [unhide HE, unhide HO]; simpa using un6⟩, (unhide HIW).later hb6⟩)
    clear hb6 un6 c0 c1 c2 c3 c4 n0 n1 n2 n3 C
    gi_wp2_with fail
    exact unhide HP
  | false =>
    rw [hb] at C HO
    clear hb
    gi_wp2_with fail
    refine (CallsIn.inRound l (callsIn_wide.2 (unhide C))).mono ?_
    rintro e w6 ⟨rfl, hb6⟩
    have un6 := (unhide HUN).later hb6
    have hg6 := (hb6.block _ (blk_lt (unhide HG))).trans (unhide HG)
    have hd6 := (hb6.block _ (blk_lt (unhide HDD).1)).trans (unhide HDD).1
    have hl6 := (hb6.block _ (blk_lt (unhide HDD).2)).trans (unhide HDD).2
    have hz6 := hb6.size
    have H6 := hide (And.intro hb6 (And.intro un6 (And.intro hg6 (And.intro hd6 hl6))))
    clear hb6 un6 c0 c1 c2 c3 c4 n0 n1 n2 n3 C hg6 hd6 hl6
    gi_wp2_with fail
    obtain ⟨hb6, un6, hg6, hd6, hl6⟩ := unhide H6
    have iw6 := (unhide HIW).later hb6
    have hzi := un6.lt
    have keep : ∀ (w7 w9 : World) (o9 : Obj), RowKit.Below w6.heap.size w6 w7 → (w7.alloc o9).grownBy w9 (Value.slice sa (pre.flatMap (unO ps q)).length sc).ownBlock → ∀ (j : Nat) (o : Obj), w6.heap[j]? = some o → (∀ cs, o ≠ .cells cs 31 (0, 0)) → w9.heap[j]? = some o := fun w7 w9 o9 hb hg9 j o hj hn => by
     have hl := blk_lt hj
     have hz := hb.size
     exact (hg9.block j (by rw [World.size_alloc]; omega) fun e => row_not un6.row hj hn e.symm).trans ((Below.heap_alloc _ _ _ (by omega)).trans ((hb.block j hl).trans hj))
    refine rgU (B0 := w.heap.size) (B1 := w.heap.size + 1) (B2 := w.heap.size + 1 + 1) (g := g) (lo := w.heap.size + 3) (fl := pre.flatMap (unO ps q)) (f := ⟨x.kd, q.nm, q.vr, x.ix, ⟨#[]⟩, ⟨#[]⟩⟩) (fun ⟨_, _, h⟩ => h) (fun _ _ _ _ h => h) (fun X hX => ?_) (fun X hX => (cell_blk (un6.later hX).b2 0).1) (fun X hX => unhide HFX X (bl_t un6.bw hX)) (by omega) un6.lt (fun X hX => (un6.later hX).row) (fun w7 w9 hb hg9 => ?_) (fun w7 w9 u hb hg9 => ?_) (fun h c w7 w9 hb ho hg9 => ?_)
    ·obtain ⟨c0, c1, c2, c3, c4⟩ := five (un6.later hX).b0
     obtain ⟨n0, n1, _, _⟩ := four ((hX.block _ (blk_lt hg6)).trans hg6)
     exact ⟨c0, c1, c2, c3, c4, (cell_blk (un6.later hX).b1 0).1, n0, n1⟩
    ·obtain ⟨c0, c1, c2, c3, c4⟩ := five (keep w7 w9 _ hb hg9 _ _ un6.b0 (fun cs e => by cases e))
     obtain ⟨n0, n1, _, _⟩ := four (keep w7 w9 _ hb hg9 _ _ hg6 (fun cs e => by cases e))
     have k2 := keep w7 w9 _ hb hg9 _ _ un6.b2 (fun cs e => by cases e)
     exact ⟨⟨c0, c1, c2, c3, c4, (cell_blk (keep w7 w9 _ hb hg9 _ _ un6.b1 (fun cs e => by cases e)) 0).1, n0, n1⟩, (cell_blk k2 0).1, (cell_blk k2 0).2⟩
    ·have st : ∀ (j : Nat) (o : Obj), j ≠ w.heap.size + 2 → w9.heap[j]? = some o → (w9.setCell ⟨w.heap.size + 2, 0, none⟩ u).heap[j]? = some o := fun j o hj e => (set_other w9 _ 0 u j hj).trans e
     obtain ⟨c0, c1, c2, c3, c4⟩ := five (st _ _ (by omega) (keep w7 w9 _ hb hg9 _ _ un6.b0 (fun cs e => by cases e)))
     obtain ⟨n0, n1, _, _⟩ := four (st _ _ (by omega) (keep w7 w9 _ hb hg9 _ _ hg6 (fun cs e => by cases e)))
     exact ⟨c0, c1, c2, c3, c4, (cell_blk (st _ _ (by omega) (keep w7 w9 _ hb hg9 _ _ un6.b1 (fun cs e => by cases e))) 0).1, n0, n1⟩
    ·obtain ⟨g1, g2, g3⟩ := un6.grow hb ho hg9 fun b e => by have := (World.ownsRow.lt ho b e).1; omega
     have bo : ∀ (j : Nat) (o : Obj), w6.heap[j]? = some o → j ≠ w.heap.size + 2 → (∀ cs, o ≠ .cells cs 31 (0, 0)) → (w9.setCell ⟨w.heap.size + 2, 0, none⟩ (.slice (some ⟨h, 0, none⟩) ((pre.flatMap (unO ps q)).length + 1) c)).heap[j]? = w6.heap[j]? := fun j o hc hn ho => g3 j (blk_lt hc) hn (row_not un6.row hc ho)
     have hd7 := bo _ _ hd6 (by omega) (fun cs e => by cases e)
     have hl7 := bo _ _ hl6 (by omega) (fun cs e => by cases e)
     have hs7 := bo _ _ iw6.s (by omega) (fun cs e => by cases e)
     have ha7 := bo _ _ iw6.a (by omega) (fun cs e => by cases e)
     have kb6 := Kb.of (n := w.heap.size) (a := W3.heap.size) (b := W3.heap.size + 1) hb6 (unhide HUN).bw.size (by omega) (by omega)
     have kb7 : Kb w.heap.size W3.heap.size (W3.heap.size + 1) w6 _ := ⟨g2, hs7, ha7⟩
     refine ⟨⟨hd7.trans (hd6.trans (unhide HDD).1.symm), hl7.trans (hl6.trans (unhide HDD).2.symm)⟩, kb6.trans kb7, ⟨some ⟨h, 0, none⟩, c, ?_⟩, iw6.kb kb7⟩
     rw [unhide HE, unhide HO]
     simpa using g1
end
section
open Go.RowKit Go.Maps
def cfT (ps : List Pk) (q : Pk) (i j : Nat) : Ft := ⟨4, q.nm, q.vr, i, nmA ps j, vrA ps j⟩
def stP (ps : List Pk) (a : At) : List Nat := (List.range ps.length).filter (mP ps a)
def cfK (ps : List Pk) (p : Nat) (q : Pk) (i : Nat) (l : List Nat) : List Ft := (l.filter fun j => !decide (j = p)).map (cfT ps q i)
def cfJ (ps : List Pk) (p : Nat) (q : Pk) : Nat → List Ft
 | 0 => []
 | i + 1 => cfJ ps p q i ++ (match q.cf[i]? with | some a => cfK ps p q i (stP ps a) | none => [])
theorem stP_len (ps : List Pk) (a : At) : (stP ps a).length ≤ ps.length := by
 unfold stP
 refine Nat.le_trans (List.length_filter_le _ _) ?_
 rw [List.length_range]; exact Nat.le_refl _
theorem cfK_len (ps : List Pk) (p : Nat) (q : Pk) (i : Nat) (l : List Nat) : (cfK ps p q i l).length ≤ l.length := by
 unfold cfK
 rw [List.length_map]
 exact List.length_filter_le _ _
theorem cfJ_len (ps : List Pk) (p : Nat) (q : Pk) : ∀ i, (cfJ ps p q i).length ≤ i * ps.length
 | 0 => Nat.zero_le _
 | i + 1 => by
   have ih := cfJ_len ps p q i
   unfold cfJ
   rw [List.length_append, Nat.succ_mul]
   cases q.cf[i]? with
   | none => simp; omega
   | some a =>
     have h1 := cfK_len ps p q i (stP ps a)
     have h2 := stP_len ps a
     simp only
     omega
theorem stP_sorted (ps : List Pk) (a : At) : (stP ps a).Pairwise (· < ·) := List.Pairwise.filter _ List.pairwise_lt_range
theorem stP_mem (ps : List Pk) (a : At) (p : Nat) : p ∈ stP ps a ↔ mP ps a p = true := by
 unfold stP
 rw [List.mem_filter, List.mem_range]
 exact ⟨fun h => h.2, fun h => ⟨mP_lt h, h⟩⟩
theorem cfK_snoc (ps : List Pk) (p : Nat) (q : Pk) (i : Nat) {l : List Nat} {k j : Nat} (h : l[k]? = some j) : cfK ps p q i (l.take (k + 1)) = cfK ps p q i (l.take k) ++ (if j = p then [] else [cfT ps q i j]) := by
 unfold cfK
 rw [List.take_add_one, h, List.filter_append, List.map_append]
 by_cases e : j = p <;> simp [e]
structure Ci (W1 w7 wq : World) (lo : Nat) (sv : Value) (l : List Ft) : Prop where
 fs : Fs W1 wq sv l
 kp : ∀ b, lo ≤ b → b < w7.heap.size → wq.heap[b]? = w7.heap[b]?
 sz : w7.heap.size ≤ wq.heap.size
 ob : ∀ b, sv.ownBlock = some b → b < lo ∨ w7.heap.size ≤ b
theorem Ci.later {W1 w7 wq X : World} {lo : Nat} {sv : Value} {l : List Ft} (h : Ci W1 w7 wq lo sv l) (hb : RowKit.Below wq.heap.size wq X) : Ci W1 w7 X lo sv l :=
 ⟨h.fs.later hb, fun b h1 h2 => (hb.block b (Nat.lt_of_lt_of_le h2 h.sz)).trans (h.kp b h1 h2), Nat.le_trans h.sz hb.size, h.ob⟩
theorem Ci.grow {W1 w7 wq w9 : World} {lo : Nat} {sv v' : Value} {l : List Ft} {f : Ft} {o : Obj} (h : Ci W1 w7 wq lo sv l) (hown : w9.ownsRow W1.heap.size 31 6 v' (l.length + 1) (ftC l ++ f.cs)) (hg : (wq.alloc o).grownBy w9 sv.ownBlock) (hat : v'.ownBlock = sv.ownBlock ∨ v'.ownBlock = some (wq.alloc o).heap.size) : Ci W1 w7 w9 lo v' (l ++ [f]) := by
 have hs := hg.size
 rw [World.size_alloc] at hs hat
 refine ⟨h.fs.grow hown hg, fun b h1 h2 => ?_, by have := h.sz; omega, fun b e => ?_⟩
 ·have hb := h.sz
  refine (hg.block b (by rw [World.size_alloc]; omega) fun e => ?_).trans ((Below.heap_alloc _ _ _ (by omega)).trans (h.kp b h1 h2))
  rcases h.ob b e.symm with q | q <;> omega
 ·rcases hat with q | q
  ·rw [q] at e; exact h.ob b e
  ·rw [q] at e
   injection e with e
   have := h.sz
   right
   omega
set_option maxRecDepth 100000 in
set_option maxHeartbeats 8000000 in
theorem conflicts_any {w : World} {b1 b2 : Nat} {v av fv : Value} {xs : List Pd} {ps : List Pk} {base : Nat} {H1 H2 : Nm → Option Hd} {k1 k2 p : Nat} {q : Pk} (m1 : Mi w base (.map (some b1)) H1 (nmP xs xs.length) k1) (m2 : Mi w base (.map (some b2)) H2 (pvP xs xs.length) k2) (pks : Pks w v xs) (hs : Sim xs ps) (sm : SmP ps) (pk : Pkl w v ps) (hq : ps[p]? = some q) :
 Calls Tryz.prog 60 #[.agg #[v, .map (some b1), .map (some b2), av, fv], .int .i64 (p : Int)] w fun e w' => ∃ r, e = .returned r ∧ w'.ownsRow w.heap.size 31 6 r (cfJ ps p q q.cf.length).length (ftC (cfJ ps p q q.cf.length)) ∧ RowKit.Below w.heap.size w w' := by
 obtain ⟨i0, hi, hz0, hz1, hz2⟩ := info_parts2 infoFt
 have hpl := (List.getElem?_eq_some_iff.1 hq).1
 have hpn : (p : Int) < (ps.length : Int) := by omega
 obtain ⟨vb, vo, vc, cs, dd, rr, cc, pv, ff, rfl, hvb, hr, hpc, hll⟩ := pk.at2 hq
 obtain ⟨ca, cap, rfl⟩ : ∃ a c, cc = .slice a q.cf.length c := let ⟨a, c, e, _⟩ := hll.cl; ⟨a, c, e⟩
 have hc5 : w.cell? ⟨vb, vo + p * 43 + 5, none⟩ = some (.slice ca q.cf.length cap) := hr 5 _ hpc.c5
 have hmem := List.mem_of_getElem? hq
 have hNl : q.cf.length ≤ 1048576 := Nat.le_trans (le_sum (fun p : Pk => p.cf.length) hmem) sm.sc
 obtain ⟨W1, hW1⟩ : ∃ W, W = w.alloc (.cells #[.slice (some ⟨vb, vo, none⟩) ps.length vc, .map (some b1), .map (some b2), av, fv] 66) := ⟨_, rfl⟩
 have hb1 : RowKit.Below w.heap.size w W1 := by rw [hW1]; exact (Below.refl _ w).alloc (Nat.le_refl _) _
 have hx1 : W1.heap[w.heap.size]? = some (.cells #[.slice (some ⟨vb, vo, none⟩) ps.length vc, .map (some b1), .map (some b2), av, fv] 66 (0, 0)) := by rw [hW1]; exact World.alloc_heap_new w _
 have HAT := hide (show ∀ X, RowKit.Below w.heap.size w X → Ats X (.slice ca q.cf.length cap) q.cf from fun X hX => hll.cl.later hX)
 have HF := hide (show ∀ X, RowKit.Below w.heap.size w X → ∀ (i j : Nat), j < ps.length → Calls Tryz.prog 79 #[.agg #[.slice (some ⟨vb, vo, none⟩) ps.length vc, .map (some b1), .map (some b2), av, fv], .int .i64 4, .int .i64 (p : Int), .int .i64 (i : Int), .int .i64 (j : Int)] X fun e w' => e = .returned (Ft.v (cfT ps q i j)) ∧ RowKit.Below X.heap.size X w' from fun X hX i j hj => by
  have h2 : ps[j]? = some ps[j] := List.getElem?_eq_getElem hj
  have := fault_two (d1 := .map (some b1)) (d2 := .map (some b2)) (av := av) (fv := fv) 4 (i : Int) (pk.later hX) hq h2
  rw [show cfT ps q i j = ⟨4, q.nm, q.vr, i, ps[j].nm, ps[j].vr⟩ from by unfold cfT nmA vrA; rw [h2]]
  exact this)
 have HSO := hide (show ∀ a ∈ q.cf, ∀ X, RowKit.Below w.heap.size w X → ∀ Y B, RowKit.Below X.heap.size X Y → Y.heap[B]? = some (.cells #[.slice (some ⟨vb, vo, none⟩) ps.length vc, .map (some b1), .map (some b2)] 62 (0, 0)) → Y.heap[B + 1]? = some (.cells #[.string a.n, .int .i64 a.op, .string a.v] 48 (0, 0)) → Calls Tryz.prog 80 #[.func (.func 102) #[] #[.pointer (some ⟨B, 0, none⟩), .pointer (some ⟨B + 1, 0, none⟩)]] Y fun e w2 => ∃ r, e = .returned r ∧ RowKit.Below Y.heap.size Y w2 ∧ Calls Tryz.prog 69 #[r] w2 fun e w' => ∃ r2, e = .returned r2 ∧ RowKit.Below X.heap.size X w' ∧ Pl Y.heap.size w' r2 (stP ps a) from fun a ha X hX Y B hY h1 h2 => by
  have hl1 := nmP_len xs xs.length a.n
  have hl2 := pvP_len xs xs.length a.n
  have ht := sm.tot hs
  have hl := sm.l
  rw [← hs.1] at hl
  have hsz := sm.c q hmem a ha
  have bY := bl_t hX hY
  have hLl : (satL xs a.n a.op a.v (nmP xs xs.length a.n) (pvP xs xs.length a.n)).length ≤ 2097152 := by
   unfold satL
   refine Nat.le_trans (List.length_filter_le _ _) ?_
   rw [List.length_append]
   omega
  have hA := appendSeq_any (w0 := w) (w := Y) ⟨⟨bY, h1, h2⟩, m1, m2, pks, fun p hp => by
   rcases List.mem_append.1 hp with hp | hp
   ·exact ((nmP_mem xs _ _ _).1 hp).1
   ·exact ((pvP_mem xs _ _ _).1 hp).1, hsz.1, hsz.2⟩ (by omega) (by omega)
  refine (sorted_any hLl (collect_any hA fun e w2 h => let ⟨r, e, _⟩ := h; ⟨r, e⟩)).mono ?_
  rintro e w2 ⟨r, rfl, hb2, hso⟩
  refine ⟨r, rfl, hb2, ?_⟩
  refine (compact_any hLl hso (stP_sorted ps a) (fun x => by rw [satL_mem hs, stP_mem]) hb2).mono ?_
  rintro e w3 ⟨r2, rfl, hb3, hp3⟩
  exact ⟨r2, rfl, (hY.trans (hb3.mono hY.size)), hp3⟩)
 have HPL := hide (show ∀ (a : At) (k j : Nat), (stP ps a)[k]? = some j → j < ps.length from fun a k j h => mP_lt ((stP_mem ps a j).1 (List.mem_of_getElem? h)))
 have hsl := sm.l
 obtain ⟨N, hN⟩ : ∃ N, N = q.cf.length := ⟨_, rfl⟩
 rw [← hN] at hc5 hNl HAT ⊢
 have HN := hide hN
 have HST := hide (Fs.start W1)
 have HW1 := hide (And.intro hb1 hx1)
 clear m1 m2 pks hs sm pk hq hr hpc hll hb1 hx1 hN hmem
 go_enter Tryz.func60, Tryz.ntmps60
 go_wp2_with fail
 rw [← hW1]
 clear hW1
 go_loopg [5, 18] N (fun gh sv iv wr => ∃ i : Nat, iv = .int .i64 i ∧ i ≤ N ∧ N - i ≤ gh ∧ Hid (Fs W1 wr sv (cfJ ps p q i)))
 case atStart => exact ⟨0, by go_num, Nat.zero_le _, by omega, HST⟩
 case round =>
  clear HST
  obtain ⟨i, rfl, hile, hgh, HU⟩ := hrel
  have hu := unhide HU
  by_cases hlt : i < N
  ·have hlt2 : (i : Int) < (N : Int) := by omega
   have hip : i < q.cf.length := by have := unhide HN; omega
   have hx : q.cf[i]? = some q.cf[i] := List.getElem?_eq_getElem hip
   generalize q.cf[i] = x at *
   have bwr := bl_t (unhide HW1).1 hu.bw
   obtain ⟨cb, co, rfl, hcb, c0, c1, c2⟩ := (unhide HAT wr bwr).at hx
   have e5 := (hu.bw.block _ (blk_lt (unhide HW1).2)).trans (unhide HW1).2
   obtain ⟨s0, s1, s2, s3, s4⟩ := five e5
   have hzw : w.heap.size < wr.heap.size := blk_lt e5
   have HSX := hide (unhide HSO x (List.mem_of_getElem? hx) wr bwr)
   have HX := hide hx
   clear hx hip e5
   go_wp2_with fail
   obtain ⟨Wa, hWa⟩ : ∃ W, W = wr.alloc (.cells #[.string x.n, .int .i64 x.op, .string x.v] 48) := ⟨_, rfl⟩
   have hba : RowKit.Below wr.heap.size wr Wa := by rw [hWa]; exact (Below.refl _ _).alloc (Nat.le_refl _) _
   rw [← hWa]
   refine (satisfiers_any (.slice (some ⟨vb, vo, none⟩) ps.length vc) (.map (some b1)) (.map (some b2)) x.n x.op x.v Wa).mono ?_
   rintro e w5 ⟨rfl, hs5, ha5, hb5⟩
   have hb5' := bl_t hba hb5
   have CS := hide (unhide HSX w5 Wa.heap.size hb5' hs5 ha5)
   have hz5 := hb5'.size
   clear hs5 ha5 hb5 hba hWa HSX c0 c1 c2 s0 s1 s2 s3 s4 hzw hcb hb5'
   go_wp2_with fail
   refine (unhide CS).mono ?_
   rintro e w6 ⟨r, rfl, hb6, hc6⟩
   have C6 := hide hc6
   clear hc6 hb6 CS
   go_wp2_with fail
   refine (unhide C6).mono ?_
   rintro e w7 ⟨r2, rfl, hb7, hp7⟩
   obtain ⟨ra, rcap, rfl, hrl⟩ := hp7
   have HRL := hide hrl
   obtain ⟨M, hM⟩ : ∃ M, M = (stP ps x).length := ⟨_, rfl⟩
   rw [← hM]
   have HM := hide hM
   have hMl : M ≤ ps.length := by rw [hM]; exact stP_len ps x
   have hle : (cfJ ps p q i).length ≤ 274877906944 := Nat.le_trans (cfJ_len ps p q i) (Nat.le_trans (Nat.mul_le_mul (show i ≤ 1048576 by omega) hsl) (by decide))
   have hz7 := hb7.size
   obtain ⟨lo, hlo⟩ : ∃ lo, lo = wr.heap.size := ⟨_, rfl⟩
   have HS7 := hide (show Ci W1 w7 w7 lo u5 (cfJ ps p q i ++ cfK ps p q i ((stP ps x).take 0)) from ⟨by rw [List.take_zero, show cfK ps p q i [] = [] from rfl, List.append_nil]; exact hu.later hb7, fun _ _ _ => rfl, Nat.le_refl _, fun b e => .inl (by rw [hlo]; exact (World.ownsRow.lt hu.row b e).2)⟩)
   have hlo5 : lo ≤ w5.heap.size := by omega
   have HE := hide (show cfJ ps p q (i + 1) = cfJ ps p q i ++ cfK ps p q i (stP ps x) from by rw [cfJ, unhide HX])
   clear hb7 hrl hM C6 HU hu hlo bwr hz5 hz7
   go_wp2_with fail
   go_loopw [5, 30] (fun sv kv wq => ∃ k : Nat, kv = .int .i64 k ∧ k ≤ M ∧ Hid (Ci W1 w7 wq lo sv (cfJ ps p q i ++ cfK ps p q i ((stP ps x).take k)))) (fun _ kv _ => M - (intOf kv).toNat)
   case atStart => exact ⟨0, rfl, Nat.zero_le _, HS7⟩
   case round =>
    clear HS7
    obtain ⟨k, rfl, hkM, HC⟩ := hrel
    have hc := unhide HC
    by_cases hk : k < M
    ·have hk2 : (k : Int) < (M : Int) := by omega
     have hkp : k < (stP ps x).length := by have := unhide HM; omega
     have hj : (stP ps x)[k]? = some (stP ps x)[k] := List.getElem?_eq_getElem hkp
     generalize (stP ps x)[k] = j at *
     have hjl := unhide HPL x k j hj
     obtain ⟨g, rfl, hg1, hg2, hg3⟩ := unhide HRL k j hj
     have cg : wr.cell? ⟨g, k, none⟩ = some (.int .i64 (j : Int)) := by
      have e := hc.kp g (by omega) hg2
      unfold World.cell? at hg3 ⊢
      rw [show wr.heap[(⟨g, k, none⟩ : Addr).block]? = w7.heap[(⟨g, k, none⟩ : Addr).block]? from e]
      exact hg3
     have HE2 := hide (cfK_snoc ps p q i hj)
     have e5 := (hc.fs.bw.block _ (blk_lt (unhide HW1).2)).trans (unhide HW1).2
     obtain ⟨s0, s1, s2, s3, s4⟩ := five e5
     have hzw : w.heap.size < wr.heap.size := blk_lt e5
     have CF := hide (unhide HF wr (bl_t (unhide HW1).1 hc.fs.bw) i j hjl)
     have hkl : (cfK ps p q i ((stP ps x).take k)).length ≤ ps.length := by
      have h1 := cfK_len ps p q i ((stP ps x).take k)
      rw [List.length_take] at h1
      omega
     have hll : (cfJ ps p q i ++ cfK ps p q i ((stP ps x).take k)).length ≤ 274878169088 := by rw [List.length_append]; omega
     clear hg1 hg2 hg3 e5 hj hkp hkl
     by_cases hjp : j = p
     ·have hne : ((j : Int) != (p : Int)) = false := by simp [hjp]
      have HE3 := hide (show cfJ ps p q i ++ cfK ps p q i ((stP ps x).take (k + 1)) = cfJ ps p q i ++ cfK ps p q i ((stP ps x).take k) from by rw [unhide HE2, if_pos hjp, List.append_nil])
      clear hjp HE2 CF
      go_wp2_with fail
      go_roundw
      case rel => exact ⟨k + 1, by go_num, by omega, by rw [unhide HE3]; exact HC⟩
      case measure => simp [intOf]; omega
     ·have hne : ((j : Int) != (p : Int)) = true := by simp; omega
      have HE3 := hide (show cfJ ps p q i ++ cfK ps p q i ((stP ps x).take (k + 1)) = cfJ ps p q i ++ cfK ps p q i ((stP ps x).take k) ++ [cfT ps q i j] from by rw [unhide HE2, if_neg hjp, List.append_assoc])
      clear hjp HE2
      generalize cfJ ps p q i ++ cfK ps p q i ((stP ps x).take k) = l at *
      go_wp2_with (first | (go_at_call 79; refine (unhide CF).mono ?_; rintro e w8 ⟨rfl, hb8⟩; have HC8 := hide (hc.later hb8); clear hb8 CF; have hbz := (unhide HC8).fs.bw.size) | (at_builtin; go_must (refine wpList_append_own_at _ rfl _ _ 24 rfl W1.heap.size 31 i0 (.agg #[.int .i64 0, .string ⟨#[]⟩, .string ⟨#[]⟩, .int .i64 0, .string ⟨#[]⟩, .string ⟨#[]⟩]) 6 80 Tryz.underlying24 hi hz0 hz1 hz2 rfl (by decide) _ _ _ rfl ((unhide HC8).fs.row.alloc _) ⟨w8.heap.size, 0, none⟩ 1 1 (cfT ps q i j).cs rfl rfl (news_ft w8 (cfT ps q i j) 31) (one_ft _) (by unfold maxLen; omega) (by omega) (by simp; omega) ?_); intro v' w9 hown hgrow _ hat; have HC9 := hide ((unhide HC8).grow hown hgrow hat); clear hown hgrow hat))
      go_roundw
      case rel => exact ⟨k + 1, by go_num, by omega, by rw [unhide HE3]; exact HC9⟩
      case measure => simp [intOf]; omega
    ·obtain rfl : k = M := by omega
     have HU9 := hide (show Fs W1 wr u5 (cfJ ps p q (i + 1)) from by
      have := hc.fs
      rw [unhide HM, List.take_length] at this
      rw [unhide HE]
      exact this)
     go_wp2_with fail
     go_roundg (N - (i + 1))
     case measure => omega
     case rel => exact ⟨i + 1, by go_num, by omega, by omega, HU9⟩
  ·obtain rfl : i = N := by omega
   go_wp2_with fail
   go_ret
   refine ⟨_, rfl, ?_, bl_t (unhide HW1).1 hu.bw⟩
   exact row_lo2 hu.row (unhide HW1).1.size
end
end Go.Proofs.YtdkpglmdncjnbaaGreatDoor
