import Derived.Test.YtjnbnndocinicaaGreatDoorWvX
import Derived.Test.YtjnbnndocinicaaGreatDoorWvD
import Derived.Laws.MakeOwn
import Derived.MapKept
import Derived.Shelf.Spec.SlicesGrow
import Derived.Test.YtjnbnndocinicaaGreatDoorProg
import Derived.Laws.AppendOwnNone
import Derived.Deep.RegionHeld3
namespace Go.Proofs.YtjnbnndocinicaaGreatDoor
open Go.RowKit Go.Maps Go.Shelf
attribute [local go_sem] Oper.semAt_some
attribute [local simp] wide_fn
attribute [local go_sem] wide_fn

def unE (ps : List Pk) (q : Pk) (kd : Int) (i : Nat) (al : List At) (bt : Int) : List Ft := if imP ps (fun _ => true) bt al then [] else [⟨kd, q.nm, q.vr, i, ⟨#[]⟩, ⟨#[]⟩⟩]
def unF (ps : List Pk) (p : Nat) (q : Pk) : List Ft := ((List.range q.dp.length).flatMap fun i => unE ps q 2 i (q.dp.getD i []) (-1)) ++ ((List.range q.pr.length).flatMap fun i => unE ps q 3 i (q.pr.getD i []) p)
theorem unF_eq (ps : List Pk) (p : Nat) (q : Pk) (f g : Nat → Hd) : (nvL p q.dp q.pr f g).flatMap (unO ps q) = unF ps p q := by
  unfold nvL unF
  rw [List.flatMap_append, List.flatMap_map, List.flatMap_map]
  rfl
theorem unF_len (ps : List Pk) (p : Nat) (q : Pk) : (unF ps p q).length ≤ q.dp.length + q.pr.length := by
  rw [← unF_eq ps p q (fun _ => ⟨none, 0, 0⟩) (fun _ => ⟨none, 0, 0⟩), ← nvL_len p q.dp q.pr (fun _ => ⟨none, 0, 0⟩) (fun _ => ⟨none, 0, 0⟩)]
  exact unO_len _ _ _
theorem getD_mem {l : List (List At)} {i : Nat} (h : i < l.length) : l.getD i [] ∈ l := by
  rw [List.getD_eq_getElem?_getD, List.getElem?_eq_getElem h]
  exact List.getElem_mem h
theorem four {W : World} {g : Nat} {v0 v1 v2 v3 : Value} {t : TypeId} (h : W.heap[g]? = some (.cells #[v0, v1, v2, v3] t (0, 0))) : W.cell? ⟨g, 0, none⟩ = some v0 ∧ W.cell? ⟨g, 1, none⟩ = some v1 ∧ W.cell? ⟨g, 2, none⟩ = some v2 ∧ W.cell? ⟨g, 3, none⟩ = some v3 :=
  ⟨(cell_blk h 0).1, (cell_blk h 1).1, (cell_blk h 2).1, (cell_blk h 3).1⟩
theorem row_not {w : World} {base e size n : Nat} {v : Value} {xs : List Value} (h : w.ownsRow base e size v n xs) {c : Nat} {o : Obj} (ho : w.heap[c]? = some o) (hn : ∀ cs, o ≠ .cells cs e (0, 0)) : v.ownBlock ≠ some c := fun q => by
  rcases h.2 with ⟨h1, _⟩ | ⟨g, cap, cur, h1, _, h3, _⟩
  · rw [h1] at q; cases q
  · rw [h1] at q
    cases q
    rw [ho] at h3
    cases h3
    exact hn _ rfl
set_option maxRecDepth 100000 in
set_option maxHeartbeats 8000000 in
theorem unmet_any {w : World} {b1 b2 : Nat} {v av fv : Value} {xs : List Pd} {ps : List Pk} {base : Nat} {H1 H2 : Nm → Option Hd} {k1 k2 p : Nat} {q : Pk} (m1 : Mi w base (.map (some b1)) H1 (nmP xs xs.length) k1) (m2 : Mi w base (.map (some b2)) H2 (pvP xs xs.length) k2) (pks : Pks w v xs) (hs : Sim xs ps) (sm : SmP ps) (pk : Pkl w v ps) (hin : Bls w av (fun _ => true) ps.length) (hq : ps[p]? = some q) :
    Calls Tryz.prog 34 #[.agg #[v, .map (some b1), .map (some b2), av, fv], .int .i64 (p : Int)] w fun e w' => ∃ r, e = .returned r ∧ w'.ownsRow w.heap.size 59 6 r (unF ps p q).length (ftC (unF ps p q)) ∧ RowKit.Below w.heap.size w w' := by
  have hpl := (List.getElem?_eq_some_iff.1 hq).1
  have hpn : (p : Int) < (ps.length : Int) := by omega
  have hmem := List.mem_of_getElem? hq
  have hdl : q.dp.length ≤ 1048576 := Nat.le_trans (le_sum (fun p : Pk => p.dp.length) hmem) sm.sd
  have hrl : q.pr.length ≤ 1048576 := Nat.le_trans (le_sum (fun p : Pk => p.pr.length) hmem) sm.sr
  obtain ⟨vb, vo, vc, cs, dd, rr, cc, pv, ff, rfl, hvb, hr, hpc, hll⟩ := pk.at2 hq
  obtain ⟨da, dc, f, rfl, hcd⟩ := cv_of hll.dl
  obtain ⟨ra, rc, g, rfl, hcr⟩ := cv_of hll.rl
  have hc3 : w.cell? ⟨vb, vo + p * 43 + 3, none⟩ = some (.slice da q.dp.length dc) := hr 3 _ hpc.c3
  have hc4 : w.cell? ⟨vb, vo + p * 43 + 4, none⟩ = some (.slice ra q.pr.length rc) := hr 4 _ hpc.c4
  obtain ⟨ia, ic, rfl⟩ : ∃ a c, av = .slice a ps.length c := let ⟨a, c, e, _⟩ := hin; ⟨a, c, e⟩
  obtain ⟨va, hva⟩ : ∃ x : Value, x = .slice (some ⟨vb, vo, none⟩) ps.length vc := ⟨_, rfl⟩
  have HNA := hide (show ∀ (X : World) (B : Nat), RowKit.Below w.heap.size w X → X.heap[B]? = some (.cells #[.slice (some ⟨vb, vo, none⟩) ps.length vc, .map (some b1), .map (some b2)] 44 (0, 0)) → X.heap[B + 1]? = some (.cells #[.int .i64 (p : Int)] 3 (0, 0)) → SeqB Fence.wide 8 Tryz.prog 50 #[.pointer (some ⟨B, 0, none⟩), .pointer (some ⟨B + 1, 0, none⟩)] encN (Kb w.heap.size B (B + 1)) (fun l => l = nvL p q.dp q.pr f g) (fun pre => pre <+: nvL p q.dp q.pr f g) ((nvL p q.dp q.pr f g).length + 1) X from fun X B hX h1 h2 =>
    need_b 8 ⟨⟨hX, h1, h2⟩, ⟨vb, vo, ps.length, vc, rfl, hvb, hpn, hc3, hc4⟩, hcd, hcr⟩ (by omega) (by omega))
  have HME := hide (show ∀ x ∈ nvL p q.dp q.pr f g, ∀ X, RowKit.Below w.heap.size w X → Calls Tryz.prog 38 #[.agg #[.slice (some ⟨vb, vo, none⟩) ps.length vc, .map (some b1), .map (some b2)], .agg #[.int .i64 x.kd, .int .i64 (x.ix : Int), .slice x.cv.a x.cv.n x.cv.c, .int .i64 x.bt], .slice ia ps.length ic] X fun e w' => e = .returned (.bool (imP ps (fun _ => true) x.bt x.al)) ∧ RowKit.Below X.heap.size X w' from fun x hx X hX => by
    unfold nvL at hx
    rcases List.mem_append.1 hx with hx | hx
    · obtain ⟨i, hi, rfl⟩ := List.mem_map.1 hx
      rw [List.mem_range] at hi
      obtain ⟨_, _, _, _, _, ha⟩ := (hcd.later hX).at_ i hi
      have hb := sm.d q hmem _ (getD_mem hi)
      exact isMet_any 2 i (-1) (q.dp.getD i []) (fun _ => true) (m1.later hX) (m2.later hX) (pks.later hX) hs sm ha (by omega) hb.2 (hin.later hX)
    · obtain ⟨i, hi, rfl⟩ := List.mem_map.1 hx
      rw [List.mem_range] at hi
      obtain ⟨_, _, _, _, _, ha⟩ := (hcr.later hX).at_ i hi
      have hb := sm.r q hmem _ (getD_mem hi)
      exact isMet_any 3 i p (q.pr.getD i []) (fun _ => true) (m1.later hX) (m2.later hX) (pks.later hX) hs sm ha (by omega) hb.2 (hin.later hX))
  have HF := hide (show ∀ (x : Nv) X, RowKit.Below w.heap.size w X → Calls Tryz.prog 47 #[.agg #[.slice (some ⟨vb, vo, none⟩) ps.length vc, .map (some b1), .map (some b2), .slice ia ps.length ic, fv], .int .i64 x.kd, .int .i64 (p : Int), .int .i64 (x.ix : Int), .int .i64 (-1)] X fun e w' => e = .returned (Ft.v ⟨x.kd, q.nm, q.vr, x.ix, ⟨#[]⟩, ⟨#[]⟩⟩) ∧ RowKit.Below X.heap.size X w' from fun x X hX => fault_one x.kd x.ix (pk.later hX) hq)
  have HLL := hide (show (nvL p q.dp q.pr f g).length ≤ 2097152 from by rw [nvL_len]; omega)
  have HUN := hide (un_new w #[.slice (some ⟨vb, vo, none⟩) ps.length vc, .map (some b1), .map (some b2), .slice ia ps.length ic, fv] (p : Int))
  rw [← unF_eq ps p q f g]
  generalize nvL p q.dp q.pr f g = L at *
  clear m1 m2 pks hs sm pk hin hq hr hpc hll hcd hcr hc3 hc4 hmem hdl hrl hva hpl hvb va
  obtain ⟨W3, hW3⟩ : ∃ x, x = (((w.alloc (.cells #[.slice (some ⟨vb, vo, none⟩) ps.length vc, .map (some b1), .map (some b2), .slice ia ps.length ic, fv] 62)).alloc (.cells #[.int .i64 (p : Int)] 3)).alloc (.cells #[.slice none 0 0] 56)) := ⟨_, rfl⟩
  rw [← hW3] at HUN
  refine (callsIn_wide (n := 9)).1 ?_
  refine callsIn_of_wp_marks Tryz.func34 rfl trivial ?_ rfl
  simp only [Tryz.ntmps34, List.size_toArray, List.length_cons, List.length_nil, Nat.reduceAdd, Nat.reduceSub, Array.replicate_succ, Array.replicate_zero, List.push_toArray, List.append_toArray, List.nil_append, List.cons_append]
  gi_wp2_with (gi_at_call 37; rw [← hW3]; refine (callsIn_wide.2 (needs_any (.slice (some ⟨vb, vo, none⟩) ps.length vc) (.map (some b1)) (.map (some b2)) (p : Int) W3)).mono ?_; rintro e w5 ⟨rfl, hs5, ha5, hb5⟩; have HS5 := hide (And.intro hs5 (And.intro ha5 hb5)); clear hs5 ha5 hb5 hW3)
  obtain ⟨s1, s2, hb5⟩ := unhide HS5
  have un5 := (unhide HUN).later hb5
  have hW3z := (unhide HUN).lt
  have hzs := blk_lt s1
  have hza := blk_lt s2
  have iw5 : Iw w W3.heap.size (W3.heap.size + 1) (.cells #[.slice (some ⟨vb, vo, none⟩) ps.length vc, .map (some b1), .map (some b2)] 44 (0, 0)) (.cells #[.int .i64 (p : Int)] 3 (0, 0)) w5 := ⟨un5.bw, s1, s2⟩
  have hsq := unhide HNA w5 W3.heap.size un5.bw s1 s2
  have hlt5 := un5.lt
  clear HS5 s1 s2 hb5 HNA HUN
  refine rangeFunc_2h rfl (by decide) (gf := 50) (lb := #[.pointer (some ⟨W3.heap.size, 0, none⟩), .pointer (some ⟨W3.heap.size + 1, 0, none⟩)]) rfl trivial (enters_of Tryz.func50 (by kernel_rfl) rfl)
    hsq Kb.trans (Kb.put un5.bw.size hzs hza) (fun W o h => Kb.alloc W o (Nat.le_trans un5.bw.size h) (by omega) (by omega)) (Below.refl _ _) (fun _ => rfl) (fun pre Z => (∃ sa sc, Un w Z #[.slice (some ⟨vb, vo, none⟩) ps.length vc, .map (some b1), .map (some b2), .slice ia ps.length ic, fv] (p : Int) (.slice sa (pre.flatMap (unO ps q)).length sc) (pre.flatMap (unO ps q))) ∧ Iw w W3.heap.size (W3.heap.size + 1) (.cells #[.slice (some ⟨vb, vo, none⟩) ps.length vc, .map (some b1), .map (some b2)] 44 (0, 0)) (.cells #[.int .i64 (p : Int)] 3 (0, 0)) Z) (fun _ _ _ => False) (fun s X Y row ⟨⟨sa, sc, h⟩, hi⟩ hg hr => ⟨⟨sa, sc, h.turn hg (fun r e => ⟨(hr r e).1, let ⟨o, h1, h2, _⟩ := (hr r e).2; ⟨o, h1, h2⟩⟩) hlt5⟩, hi.turn hg (fun r e => (hr r e).1) un5.bw.size hzs hza⟩) (fun c s X Y row h hg hr => h) ⟨⟨none, 0, un5⟩, iw5⟩ (fun x => .cells #[.int .i64 x.kd, .int .i64 (x.ix : Int), .slice x.cv.a x.cv.n x.cv.c, .int .i64 x.bt] 90) (fun (x : Nv) (g : Nat) => { tmps := #[.agg #[.slice (some ⟨vb, vo, none⟩) ps.length vc, .map (some b1), .map (some b2), .slice ia ps.length ic, fv], .int .i64 (p : Int), .pointer (some ⟨w.heap.size, 0, none⟩), .pointer (some ⟨w.heap.size + 1, 0, none⟩), .slice none 0 0, .pointer (some ⟨w.heap.size + 1 + 1, 0, none⟩), .pointer (some ⟨g, 0, none⟩), .pointer (some ⟨w.heap.size, 0, none⟩), .agg #[.slice (some ⟨vb, vo, none⟩) ps.length vc, .map (some b1), .map (some b2)], .int .i64 (p : Int), .func (.func 50) #[] #[.pointer (some ⟨W3.heap.size, 0, none⟩), .pointer (some ⟨W3.heap.size + 1, 0, none⟩)], .agg #[.int .i64 x.kd, .int .i64 (x.ix : Int), .slice x.cv.a x.cv.n x.cv.c, .int .i64 x.bt], undef, undef, undef, undef, undef, undef, undef, undef, undef, undef, undef, undef, undef, undef, undef, undef, undef, undef], defers := [] }) ?as0 ?bo0 ?do0 ?st0
  case as0 =>
    intro l x W K hK
    gi_wp2
    exact hK
  case st0 =>
    intro D c pre Z hD hS hI hK
    exact hI.elim
  case do0 =>
    intro D L2 Z hD hS hI hK
    obtain ⟨⟨sa, sc, un⟩, _⟩ := hI
    rw [hS] at un
    have c0 : Z.cell? ⟨w.heap.size + 1 + 1, 0, none⟩ = some (.slice sa (L.flatMap (unO ps q)).length sc) := (cell_blk un.b2 0).1
    obtain ⟨m, hm⟩ : ∃ m, m = (L.flatMap (unO ps q)).length := ⟨_, rfl⟩
    rw [← hm] at c0
    have HMM := hide hm
    clear hm
    have HU := hide un
    have HK := hide (And.intro hD hK)
    clear hS hK hD un hsq un5
    gi_wp2
    obtain ⟨hD, hK⟩ := unhide HK
    have un := unhide HU
    have hsh := sh_put (W := Z) (lo := w.heap.size + 3) (D := D) (.deferred none) (by omega) hK rfl rfl
    refine ⟨by simp, .inl ⟨_, _, rfl, run_takeDeferred hK, ?_⟩⟩
    exact ⟨_, results_tmp (show Tryz.f34.results = #[.tmp 4] from Tryz.results34) _ _ _, _, rfl, by rw [unhide HMM]; exact row_lo2 (lo := w.heap.size + 3) (lo2 := w.heap.size) (hsh.row un.row) (by omega), un.bw.trans (hsh.bel.mono (show w.heap.size ≤ w.heap.size + 3 by omega))⟩
  case bo0 =>
    intro l pre x g W hg hgx hD hLp hI hlen hpre
    obtain ⟨⟨sa, sc, un⟩, iw⟩ := hI
    obtain ⟨lr, hLr⟩ := hLp
    have HIW := hide iw
    clear iw
    have hxL : x ∈ L := hpre.subset (by simp)
    have hW5 : w5.heap.size ≤ W.heap.size := by have := blk_lt hD; omega
    obtain ⟨c0, c1, c2, c3, c4⟩ := five un.b0
    obtain ⟨n0, n1, n2, n3⟩ := four hgx
    have C := hide (unhide HME x hxL W un.bw)
    have hpl : (pre.flatMap (unO ps q)).length ≤ 2097152 := by
      have h1 := unO_len ps q pre
      have h2 := hpre.length_le
      rw [List.length_append] at h2
      have := unhide HLL
      omega
    have HG := hide hgx
    have HDD := hide (And.intro hD hLr)
    have HUN := hide un
    have HFX := hide (unhide HF x)
    clear hgx hD hLr hlen hpre un hsq HME un5 HF
    have HE := hide (show (pre ++ [x]).flatMap (unO ps q) = pre.flatMap (unO ps q) ++ unO ps q x from by simp)
    have HO := hide (show unO ps q x = (if imP ps (fun _ => true) x.bt x.al then [] else [⟨x.kd, q.nm, q.vr, x.ix, ⟨#[]⟩, ⟨#[]⟩⟩]) from rfl)
    cases hb : imP ps (fun _ => true) x.bt x.al with
    | true =>
      rw [hb] at C HO
      clear hb
      gi_wp2_with fail
      refine (CallsIn.inRound l (callsIn_wide.2 (unhide C))).mono ?_
      rintro e w6 ⟨rfl, hb6⟩
      have un6 := (unhide HUN).later hb6
      have HP := hide (show post2 w5.heap.size (Kb w.heap.size W3.heap.size (W3.heap.size + 1)) (fun pre Z => (∃ sa sc, Un w Z #[.slice (some ⟨vb, vo, none⟩) ps.length vc, .map (some b1), .map (some b2), .slice ia ps.length ic, fv] (p : Int) (.slice sa (pre.flatMap (unO ps q)).length sc) (pre.flatMap (unO ps q))) ∧ Iw w W3.heap.size (W3.heap.size + 1) (.cells #[.slice (some ⟨vb, vo, none⟩) ps.length vc, .map (some b1), .map (some b2)] 44 (0, 0)) (.cells #[.int .i64 (p : Int)] 3 (0, 0)) Z) (fun _ _ _ => False) (pre ++ [x]) W .normal ⟨#[], []⟩ w6 from ⟨⟨hb6.block _ (blk_lt (unhide HDD).1), hb6.block _ (blk_lt (unhide HDD).2)⟩, Kb.of hb6 (unhide HUN).bw.size (by omega) (by omega), ⟨sa, sc, by rw [unhide HE, unhide HO]; simpa using un6⟩, (unhide HIW).later hb6⟩)
      clear hb6 un6 c0 c1 c2 c3 c4 n0 n1 n2 n3 C
      gi_wp2_with fail
      exact unhide HP
    | false =>
      rw [hb] at C HO
      clear hb
      gi_wp2_with fail
      refine (CallsIn.inRound l (callsIn_wide.2 (unhide C))).mono ?_
      rintro e w6 ⟨rfl, hb6⟩
      have un6 := (unhide HUN).later hb6
      have hg6 := (hb6.block _ (blk_lt (unhide HG))).trans (unhide HG)
      have hd6 := (hb6.block _ (blk_lt (unhide HDD).1)).trans (unhide HDD).1
      have hl6 := (hb6.block _ (blk_lt (unhide HDD).2)).trans (unhide HDD).2
      have hz6 := hb6.size
      have H6 := hide (And.intro hb6 (And.intro un6 (And.intro hg6 (And.intro hd6 hl6))))
      clear hb6 un6 c0 c1 c2 c3 c4 n0 n1 n2 n3 C hg6 hd6 hl6
      gi_wp2_with fail
      obtain ⟨hb6, un6, hg6, hd6, hl6⟩ := unhide H6
      have iw6 := (unhide HIW).later hb6
      have hzi := un6.lt
      have keep : ∀ (w7 w9 : World) (o9 : Obj), RowKit.Below w6.heap.size w6 w7 → (w7.alloc o9).grownBy w9 (Value.slice sa (pre.flatMap (unO ps q)).length sc).ownBlock → ∀ (j : Nat) (o : Obj), w6.heap[j]? = some o → (∀ cs, o ≠ .cells cs 59 (0, 0)) → w9.heap[j]? = some o := fun w7 w9 o9 hb hg9 j o hj hn => by
        have hl := blk_lt hj
        have hz := hb.size
        exact (hg9.block j (by rw [World.size_alloc]; omega) fun e => row_not un6.row hj hn e.symm).trans ((Below.heap_alloc _ _ _ (by omega)).trans ((hb.block j hl).trans hj))
      refine rgU (B0 := w.heap.size) (B1 := w.heap.size + 1) (B2 := w.heap.size + 1 + 1) (g := g) (lo := w.heap.size + 3) (fl := pre.flatMap (unO ps q)) (f := ⟨x.kd, q.nm, q.vr, x.ix, ⟨#[]⟩, ⟨#[]⟩⟩) (fun ⟨_, _, h⟩ => h) (fun _ _ _ _ h => h) (fun X hX => ?_) (fun X hX => (cell_blk (un6.later hX).b2 0).1) (fun X hX => unhide HFX X (bl_t un6.bw hX)) (by omega) un6.lt (fun X hX => (un6.later hX).row) (fun w7 w9 hb hg9 => ?_) (fun w7 w9 u hb hg9 => ?_) (fun h c w7 w9 hb ho hg9 => ?_)
      · obtain ⟨c0, c1, c2, c3, c4⟩ := five (un6.later hX).b0
        obtain ⟨n0, n1, _, _⟩ := four ((hX.block _ (blk_lt hg6)).trans hg6)
        exact ⟨c0, c1, c2, c3, c4, (cell_blk (un6.later hX).b1 0).1, n0, n1⟩
      · obtain ⟨c0, c1, c2, c3, c4⟩ := five (keep w7 w9 _ hb hg9 _ _ un6.b0 (fun cs e => by cases e))
        obtain ⟨n0, n1, _, _⟩ := four (keep w7 w9 _ hb hg9 _ _ hg6 (fun cs e => by cases e))
        have k2 := keep w7 w9 _ hb hg9 _ _ un6.b2 (fun cs e => by cases e)
        exact ⟨⟨c0, c1, c2, c3, c4, (cell_blk (keep w7 w9 _ hb hg9 _ _ un6.b1 (fun cs e => by cases e)) 0).1, n0, n1⟩, (cell_blk k2 0).1, (cell_blk k2 0).2⟩
      · have st : ∀ (j : Nat) (o : Obj), j ≠ w.heap.size + 2 → w9.heap[j]? = some o → (w9.setCell ⟨w.heap.size + 2, 0, none⟩ u).heap[j]? = some o := fun j o hj e => (set_other w9 _ 0 u j hj).trans e
        obtain ⟨c0, c1, c2, c3, c4⟩ := five (st _ _ (by omega) (keep w7 w9 _ hb hg9 _ _ un6.b0 (fun cs e => by cases e)))
        obtain ⟨n0, n1, _, _⟩ := four (st _ _ (by omega) (keep w7 w9 _ hb hg9 _ _ hg6 (fun cs e => by cases e)))
        exact ⟨c0, c1, c2, c3, c4, (cell_blk (st _ _ (by omega) (keep w7 w9 _ hb hg9 _ _ un6.b1 (fun cs e => by cases e))) 0).1, n0, n1⟩
      · obtain ⟨g1, g2, g3⟩ := un6.grow hb ho hg9 fun b e => by have := (World.ownsRow.lt ho b e).1; omega
        have bo : ∀ (j : Nat) (o : Obj), w6.heap[j]? = some o → j ≠ w.heap.size + 2 → (∀ cs, o ≠ .cells cs 59 (0, 0)) → (w9.setCell ⟨w.heap.size + 2, 0, none⟩ (.slice (some ⟨h, 0, none⟩) ((pre.flatMap (unO ps q)).length + 1) c)).heap[j]? = w6.heap[j]? := fun j o hc hn ho => g3 j (blk_lt hc) hn (row_not un6.row hc ho)
        have hd7 := bo _ _ hd6 (by omega) (fun cs e => by cases e)
        have hl7 := bo _ _ hl6 (by omega) (fun cs e => by cases e)
        have hs7 := bo _ _ iw6.s (by omega) (fun cs e => by cases e)
        have ha7 := bo _ _ iw6.a (by omega) (fun cs e => by cases e)
        have kb6 := Kb.of (n := w.heap.size) (a := W3.heap.size) (b := W3.heap.size + 1) hb6 (unhide HUN).bw.size (by omega) (by omega)
        have kb7 : Kb w.heap.size W3.heap.size (W3.heap.size + 1) w6 _ := ⟨g2, hs7, ha7⟩
        refine ⟨⟨hd7.trans (hd6.trans (unhide HDD).1.symm), hl7.trans (hl6.trans (unhide HDD).2.symm)⟩, kb6.trans kb7, ⟨some ⟨h, 0, none⟩, c, ?_⟩, iw6.kb kb7⟩
        rw [unhide HE, unhide HO]
        simpa using g1
end Go.Proofs.YtjnbnndocinicaaGreatDoor
namespace Go.Proofs.YtjnbnndocinicaaGreatDoor
open Go.RowKit Go.Maps

/-- THE CONFLICTS OF A PACKAGE. -/
def cfT (ps : List Pk) (q : Pk) (i j : Nat) : Ft := ⟨4, q.nm, q.vr, i, nmA ps j, vrA ps j⟩
def stP (ps : List Pk) (a : At) : List Nat := (List.range ps.length).filter (mP ps a)
def cfK (ps : List Pk) (p : Nat) (q : Pk) (i : Nat) (l : List Nat) : List Ft := (l.filter fun j => !decide (j = p)).map (cfT ps q i)
def cfJ (ps : List Pk) (p : Nat) (q : Pk) : Nat → List Ft
  | 0 => []
  | i + 1 => cfJ ps p q i ++ (match q.cf[i]? with | some a => cfK ps p q i (stP ps a) | none => [])
theorem stP_len (ps : List Pk) (a : At) : (stP ps a).length ≤ ps.length := by
  unfold stP
  refine Nat.le_trans (List.length_filter_le _ _) ?_
  rw [List.length_range]; exact Nat.le_refl _
theorem cfK_len (ps : List Pk) (p : Nat) (q : Pk) (i : Nat) (l : List Nat) : (cfK ps p q i l).length ≤ l.length := by
  unfold cfK
  rw [List.length_map]
  exact List.length_filter_le _ _
theorem cfJ_len (ps : List Pk) (p : Nat) (q : Pk) : ∀ i, (cfJ ps p q i).length ≤ i * ps.length
  | 0 => Nat.zero_le _
  | i + 1 => by
    have ih := cfJ_len ps p q i
    unfold cfJ
    rw [List.length_append, Nat.succ_mul]
    cases q.cf[i]? with
    | none => simp; omega
    | some a =>
      have h1 := cfK_len ps p q i (stP ps a)
      have h2 := stP_len ps a
      simp only
      omega
theorem stP_sorted (ps : List Pk) (a : At) : (stP ps a).Pairwise (· < ·) := List.Pairwise.filter _ List.pairwise_lt_range
theorem stP_mem (ps : List Pk) (a : At) (p : Nat) : p ∈ stP ps a ↔ mP ps a p = true := by
  unfold stP
  rw [List.mem_filter, List.mem_range]
  exact ⟨fun h => h.2, fun h => ⟨mP_lt h, h⟩⟩
theorem cfK_snoc (ps : List Pk) (p : Nat) (q : Pk) (i : Nat) {l : List Nat} {k j : Nat} (h : l[k]? = some j) : cfK ps p q i (l.take (k + 1)) = cfK ps p q i (l.take k) ++ (if j = p then [] else [cfT ps q i j]) := by
  unfold cfK
  rw [List.take_add_one, h, List.filter_append, List.map_append]
  by_cases e : j = p <;> simp [e]
/-- THE INNER LOOP'S STATE. -/
structure Ci (W1 w7 wq : World) (lo : Nat) (sv : Value) (l : List Ft) : Prop where
  fs : Fs W1 wq sv l
  kp : ∀ b, lo ≤ b → b < w7.heap.size → wq.heap[b]? = w7.heap[b]?
  sz : w7.heap.size ≤ wq.heap.size
  ob : ∀ b, sv.ownBlock = some b → b < lo ∨ w7.heap.size ≤ b
theorem Ci.later {W1 w7 wq X : World} {lo : Nat} {sv : Value} {l : List Ft} (h : Ci W1 w7 wq lo sv l) (hb : RowKit.Below wq.heap.size wq X) : Ci W1 w7 X lo sv l :=
  ⟨h.fs.later hb, fun b h1 h2 => (hb.block b (Nat.lt_of_lt_of_le h2 h.sz)).trans (h.kp b h1 h2), Nat.le_trans h.sz hb.size, h.ob⟩
theorem Ci.grow {W1 w7 wq w9 : World} {lo : Nat} {sv v' : Value} {l : List Ft} {f : Ft} {o : Obj} (h : Ci W1 w7 wq lo sv l) (hown : w9.ownsRow W1.heap.size 59 6 v' (l.length + 1) (ftC l ++ f.cs)) (hg : (wq.alloc o).grownBy w9 sv.ownBlock) (hat : v'.ownBlock = sv.ownBlock ∨ v'.ownBlock = some (wq.alloc o).heap.size) : Ci W1 w7 w9 lo v' (l ++ [f]) := by
  have hs := hg.size
  rw [World.size_alloc] at hs hat
  refine ⟨h.fs.grow hown hg, fun b h1 h2 => ?_, by have := h.sz; omega, fun b e => ?_⟩
  · have hb := h.sz
    refine (hg.block b (by rw [World.size_alloc]; omega) fun e => ?_).trans ((Below.heap_alloc _ _ _ (by omega)).trans (h.kp b h1 h2))
    rcases h.ob b e.symm with q | q <;> omega
  · rcases hat with q | q
    · rw [q] at e; exact h.ob b e
    · rw [q] at e
      injection e with e
      have := h.sz
      right
      omega
set_option maxRecDepth 100000 in
set_option maxHeartbeats 8000000 in
theorem conflicts_any {w : World} {b1 b2 : Nat} {v av fv : Value} {xs : List Pd} {ps : List Pk} {base : Nat} {H1 H2 : Nm → Option Hd} {k1 k2 p : Nat} {q : Pk} (m1 : Mi w base (.map (some b1)) H1 (nmP xs xs.length) k1) (m2 : Mi w base (.map (some b2)) H2 (pvP xs xs.length) k2) (pks : Pks w v xs) (hs : Sim xs ps) (sm : SmP ps) (pk : Pkl w v ps) (hq : ps[p]? = some q) :
    Calls Tryz.prog 35 #[.agg #[v, .map (some b1), .map (some b2), av, fv], .int .i64 (p : Int)] w fun e w' => ∃ r, e = .returned r ∧ w'.ownsRow w.heap.size 59 6 r (cfJ ps p q q.cf.length).length (ftC (cfJ ps p q q.cf.length)) ∧ RowKit.Below w.heap.size w w' := by
  obtain ⟨i0, hi, hz0, hz1, hz2⟩ := info_parts2 infoFt
  have hpl := (List.getElem?_eq_some_iff.1 hq).1
  have hpn : (p : Int) < (ps.length : Int) := by omega
  obtain ⟨vb, vo, vc, cs, dd, rr, cc, pv, ff, rfl, hvb, hr, hpc, hll⟩ := pk.at2 hq
  obtain ⟨ca, cap, rfl⟩ : ∃ a c, cc = .slice a q.cf.length c := let ⟨a, c, e, _⟩ := hll.cl; ⟨a, c, e⟩
  have hc5 : w.cell? ⟨vb, vo + p * 43 + 5, none⟩ = some (.slice ca q.cf.length cap) := hr 5 _ hpc.c5
  have hmem := List.mem_of_getElem? hq
  have hNl : q.cf.length ≤ 1048576 := Nat.le_trans (le_sum (fun p : Pk => p.cf.length) hmem) sm.sc
  obtain ⟨W1, hW1⟩ : ∃ W, W = w.alloc (.cells #[.slice (some ⟨vb, vo, none⟩) ps.length vc, .map (some b1), .map (some b2), av, fv] 62) := ⟨_, rfl⟩
  have hb1 : RowKit.Below w.heap.size w W1 := by rw [hW1]; exact (Below.refl _ w).alloc (Nat.le_refl _) _
  have hx1 : W1.heap[w.heap.size]? = some (.cells #[.slice (some ⟨vb, vo, none⟩) ps.length vc, .map (some b1), .map (some b2), av, fv] 62 (0, 0)) := by rw [hW1]; exact World.alloc_heap_new w _
  have HAT := hide (show ∀ X, RowKit.Below w.heap.size w X → Ats X (.slice ca q.cf.length cap) q.cf from fun X hX => hll.cl.later hX)
  have HF := hide (show ∀ X, RowKit.Below w.heap.size w X → ∀ (i j : Nat), j < ps.length → Calls Tryz.prog 47 #[.agg #[.slice (some ⟨vb, vo, none⟩) ps.length vc, .map (some b1), .map (some b2), av, fv], .int .i64 4, .int .i64 (p : Int), .int .i64 (i : Int), .int .i64 (j : Int)] X fun e w' => e = .returned (Ft.v (cfT ps q i j)) ∧ RowKit.Below X.heap.size X w' from fun X hX i j hj => by
    have h2 : ps[j]? = some ps[j] := List.getElem?_eq_getElem hj
    have := fault_two (d1 := .map (some b1)) (d2 := .map (some b2)) (av := av) (fv := fv) 4 (i : Int) (pk.later hX) hq h2
    rw [show cfT ps q i j = ⟨4, q.nm, q.vr, i, ps[j].nm, ps[j].vr⟩ from by unfold cfT nmA vrA; rw [h2]]
    exact this)
  have HSO := hide (show ∀ a ∈ q.cf, ∀ X, RowKit.Below w.heap.size w X → ∀ Y B, RowKit.Below X.heap.size X Y → Y.heap[B]? = some (.cells #[.slice (some ⟨vb, vo, none⟩) ps.length vc, .map (some b1), .map (some b2)] 44 (0, 0)) → Y.heap[B + 1]? = some (.cells #[.string a.n, .int .i64 a.op, .string a.v] 55 (0, 0)) → Calls Tryz.prog 48 #[.func (.func 74) #[] #[.pointer (some ⟨B, 0, none⟩), .pointer (some ⟨B + 1, 0, none⟩)]] Y fun e w2 => ∃ r, e = .returned r ∧ RowKit.Below Y.heap.size Y w2 ∧ Calls Tryz.prog 30 #[r] w2 fun e w' => ∃ r2, e = .returned r2 ∧ RowKit.Below X.heap.size X w' ∧ Pl Y.heap.size w' r2 (stP ps a) from fun a ha X hX Y B hY h1 h2 => by
    have hl1 := nmP_len xs xs.length a.n
    have hl2 := pvP_len xs xs.length a.n
    have ht := sm.tot hs
    have hl := sm.l
    rw [← hs.1] at hl
    have hsz := sm.c q hmem a ha
    have bY := bl_t hX hY
    have hLl : (satL xs a.n a.op a.v (nmP xs xs.length a.n) (pvP xs xs.length a.n)).length ≤ 2097152 := by
      unfold satL
      refine Nat.le_trans (List.length_filter_le _ _) ?_
      rw [List.length_append]
      omega
    have hA := appendSeq_any (w0 := w) (w := Y) ⟨⟨bY, h1, h2⟩, m1, m2, pks, fun p hp => by
      rcases List.mem_append.1 hp with hp | hp
      · exact ((nmP_mem xs _ _ _).1 hp).1
      · exact ((pvP_mem xs _ _ _).1 hp).1, hsz.1, hsz.2⟩ (by omega) (by omega)
    refine (sorted_any hLl (collect_any hA fun e w2 h => let ⟨r, e, _⟩ := h; ⟨r, e⟩)).mono ?_
    rintro e w2 ⟨r, rfl, hb2, hso⟩
    refine ⟨r, rfl, hb2, ?_⟩
    refine (compact_any hLl hso (stP_sorted ps a) (fun x => by rw [satL_mem hs, stP_mem]) hb2).mono ?_
    rintro e w3 ⟨r2, rfl, hb3, hp3⟩
    exact ⟨r2, rfl, (hY.trans (hb3.mono hY.size)), hp3⟩)
  have HPL := hide (show ∀ (a : At) (k j : Nat), (stP ps a)[k]? = some j → j < ps.length from fun a k j h => mP_lt ((stP_mem ps a j).1 (List.mem_of_getElem? h)))
  have hsl := sm.l
  obtain ⟨N, hN⟩ : ∃ N, N = q.cf.length := ⟨_, rfl⟩
  rw [← hN] at hc5 hNl HAT ⊢
  have HN := hide hN
  have HST := hide (Fs.start W1)
  have HW1 := hide (And.intro hb1 hx1)
  clear m1 m2 pks hs sm pk hq hr hpc hll hb1 hx1 hN hmem
  go_enter Tryz.func35, Tryz.ntmps35
  go_wp2_with fail
  rw [← hW1]
  clear hW1
  go_loopg [5, 18] N (fun gh sv iv wr => ∃ i : Nat, iv = .int .i64 i ∧ i ≤ N ∧ N - i ≤ gh ∧ Hid (Fs W1 wr sv (cfJ ps p q i)))
  case atStart => exact ⟨0, by go_num, Nat.zero_le _, by omega, HST⟩
  case round =>
    clear HST
    obtain ⟨i, rfl, hile, hgh, HU⟩ := hrel
    have hu := unhide HU
    by_cases hlt : i < N
    · have hlt2 : (i : Int) < (N : Int) := by omega
      have hip : i < q.cf.length := by have := unhide HN; omega
      have hx : q.cf[i]? = some q.cf[i] := List.getElem?_eq_getElem hip
      generalize q.cf[i] = x at *
      have bwr := bl_t (unhide HW1).1 hu.bw
      obtain ⟨cb, co, rfl, hcb, c0, c1, c2⟩ := (unhide HAT wr bwr).at hx
      have e5 := (hu.bw.block _ (blk_lt (unhide HW1).2)).trans (unhide HW1).2
      obtain ⟨s0, s1, s2, s3, s4⟩ := five e5
      have hzw : w.heap.size < wr.heap.size := blk_lt e5
      have HSX := hide (unhide HSO x (List.mem_of_getElem? hx) wr bwr)
      have HX := hide hx
      clear hx hip e5
      go_wp2_with fail
      obtain ⟨Wa, hWa⟩ : ∃ W, W = wr.alloc (.cells #[.string x.n, .int .i64 x.op, .string x.v] 55) := ⟨_, rfl⟩
      have hba : RowKit.Below wr.heap.size wr Wa := by rw [hWa]; exact (Below.refl _ _).alloc (Nat.le_refl _) _
      rw [← hWa]
      refine (satisfiers_any (.slice (some ⟨vb, vo, none⟩) ps.length vc) (.map (some b1)) (.map (some b2)) x.n x.op x.v Wa).mono ?_
      rintro e w5 ⟨rfl, hs5, ha5, hb5⟩
      have hb5' := bl_t hba hb5
      have CS := hide (unhide HSX w5 Wa.heap.size hb5' hs5 ha5)
      have hz5 := hb5'.size
      clear hs5 ha5 hb5 hba hWa HSX c0 c1 c2 s0 s1 s2 s3 s4 hzw hcb hb5'
      go_wp2_with fail
      refine (unhide CS).mono ?_
      rintro e w6 ⟨r, rfl, hb6, hc6⟩
      have C6 := hide hc6
      clear hc6 hb6 CS
      go_wp2_with fail
      refine (unhide C6).mono ?_
      rintro e w7 ⟨r2, rfl, hb7, hp7⟩
      obtain ⟨ra, rcap, rfl, hrl⟩ := hp7
      have HRL := hide hrl
      obtain ⟨M, hM⟩ : ∃ M, M = (stP ps x).length := ⟨_, rfl⟩
      rw [← hM]
      have HM := hide hM
      have hMl : M ≤ ps.length := by rw [hM]; exact stP_len ps x
      have hle : (cfJ ps p q i).length ≤ 274877906944 := Nat.le_trans (cfJ_len ps p q i) (Nat.le_trans (Nat.mul_le_mul (show i ≤ 1048576 by omega) hsl) (by decide))
      have hz7 := hb7.size
      obtain ⟨lo, hlo⟩ : ∃ lo, lo = wr.heap.size := ⟨_, rfl⟩
      have HS7 := hide (show Ci W1 w7 w7 lo u5 (cfJ ps p q i ++ cfK ps p q i ((stP ps x).take 0)) from ⟨by rw [List.take_zero, show cfK ps p q i [] = [] from rfl, List.append_nil]; exact hu.later hb7, fun _ _ _ => rfl, Nat.le_refl _, fun b e => .inl (by rw [hlo]; exact (World.ownsRow.lt hu.row b e).2)⟩)
      have hlo5 : lo ≤ w5.heap.size := by omega
      have HE := hide (show cfJ ps p q (i + 1) = cfJ ps p q i ++ cfK ps p q i (stP ps x) from by rw [cfJ, unhide HX])
      clear hb7 hrl hM C6 HU hu hlo bwr hz5 hz7
      go_wp2_with fail
      go_loopw [5, 30] (fun sv kv wq => ∃ k : Nat, kv = .int .i64 k ∧ k ≤ M ∧ Hid (Ci W1 w7 wq lo sv (cfJ ps p q i ++ cfK ps p q i ((stP ps x).take k)))) (fun _ kv _ => M - (intOf kv).toNat)
      case atStart => exact ⟨0, rfl, Nat.zero_le _, HS7⟩
      case round =>
        clear HS7
        obtain ⟨k, rfl, hkM, HC⟩ := hrel
        have hc := unhide HC
        by_cases hk : k < M
        · have hk2 : (k : Int) < (M : Int) := by omega
          have hkp : k < (stP ps x).length := by have := unhide HM; omega
          have hj : (stP ps x)[k]? = some (stP ps x)[k] := List.getElem?_eq_getElem hkp
          generalize (stP ps x)[k] = j at *
          have hjl := unhide HPL x k j hj
          obtain ⟨g, rfl, hg1, hg2, hg3⟩ := unhide HRL k j hj
          have cg : wr.cell? ⟨g, k, none⟩ = some (.int .i64 (j : Int)) := by
            have e := hc.kp g (by omega) hg2
            unfold World.cell? at hg3 ⊢
            rw [show wr.heap[(⟨g, k, none⟩ : Addr).block]? = w7.heap[(⟨g, k, none⟩ : Addr).block]? from e]
            exact hg3
          have HE2 := hide (cfK_snoc ps p q i hj)
          have e5 := (hc.fs.bw.block _ (blk_lt (unhide HW1).2)).trans (unhide HW1).2
          obtain ⟨s0, s1, s2, s3, s4⟩ := five e5
          have hzw : w.heap.size < wr.heap.size := blk_lt e5
          have CF := hide (unhide HF wr (bl_t (unhide HW1).1 hc.fs.bw) i j hjl)
          have hkl : (cfK ps p q i ((stP ps x).take k)).length ≤ ps.length := by
            have h1 := cfK_len ps p q i ((stP ps x).take k)
            rw [List.length_take] at h1
            omega
          have hll : (cfJ ps p q i ++ cfK ps p q i ((stP ps x).take k)).length ≤ 274878169088 := by rw [List.length_append]; omega
          clear hg1 hg2 hg3 e5 hj hkp hkl
          by_cases hjp : j = p
          · have hne : ((j : Int) != (p : Int)) = false := by simp [hjp]
            have HE3 := hide (show cfJ ps p q i ++ cfK ps p q i ((stP ps x).take (k + 1)) = cfJ ps p q i ++ cfK ps p q i ((stP ps x).take k) from by rw [unhide HE2, if_pos hjp, List.append_nil])
            clear hjp HE2 CF
            go_wp2_with fail
            go_roundw
            case rel => exact ⟨k + 1, by go_num, by omega, by rw [unhide HE3]; exact HC⟩
            case measure => simp [intOf]; omega
          · have hne : ((j : Int) != (p : Int)) = true := by simp; omega
            have HE3 := hide (show cfJ ps p q i ++ cfK ps p q i ((stP ps x).take (k + 1)) = cfJ ps p q i ++ cfK ps p q i ((stP ps x).take k) ++ [cfT ps q i j] from by rw [unhide HE2, if_neg hjp, List.append_assoc])
            clear hjp HE2
            generalize cfJ ps p q i ++ cfK ps p q i ((stP ps x).take k) = l at *
            go_wp2_with (first | (go_at_call 47; refine (unhide CF).mono ?_; rintro e w8 ⟨rfl, hb8⟩; have HC8 := hide (hc.later hb8); clear hb8 CF; have hbz := (unhide HC8).fs.bw.size) | (at_builtin; go_must (refine wpList_append_own_at _ rfl _ _ 56 rfl W1.heap.size 59 i0 (.agg #[.int .i64 0, .string ⟨#[]⟩, .string ⟨#[]⟩, .int .i64 0, .string ⟨#[]⟩, .string ⟨#[]⟩]) 6 80 Tryz.underlying56 hi hz0 hz1 hz2 rfl (by decide) _ _ _ rfl ((unhide HC8).fs.row.alloc _) ⟨w8.heap.size, 0, none⟩ 1 1 (cfT ps q i j).cs rfl rfl (news_ft w8 (cfT ps q i j) 59) (one_ft _) (by unfold maxLen; omega) (by omega) (by simp; omega) ?_); intro v' w9 hown hgrow _ hat; have HC9 := hide ((unhide HC8).grow hown hgrow hat); clear hown hgrow hat))
            go_roundw
            case rel => exact ⟨k + 1, by go_num, by omega, by rw [unhide HE3]; exact HC9⟩
            case measure => simp [intOf]; omega
        · obtain rfl : k = M := by omega
          have HU9 := hide (show Fs W1 wr u5 (cfJ ps p q (i + 1)) from by
            have := hc.fs
            rw [unhide HM, List.take_length] at this
            rw [unhide HE]
            exact this)
          go_wp2_with fail
          go_roundg (N - (i + 1))
          case measure => omega
          case rel => exact ⟨i + 1, by go_num, by omega, by omega, HU9⟩
    · obtain rfl : i = N := by omega
      go_wp2_with fail
      go_ret
      refine ⟨_, rfl, ?_, bl_t (unhide HW1).1 hu.bw⟩
      exact row_lo2 hu.row (unhide HW1).1.size
end Go.Proofs.YtjnbnndocinicaaGreatDoor
namespace Go.Proofs.YtjnbnndocinicaaGreatDoor
open Go.RowKit Go.Maps

theorem zeroE0 (w : World) : (zeroValue 74).run Tryz.prog w = .ok (.agg #[]) w := by kernel_rfl
set_option maxRecDepth 100000 in
theorem lookE {w : World} {b : Nat} (hb : w.heap[b]? = some (.map #[] 0)) (n v : Nm) : (Instr.lookup 84 (.map (some b)) (.agg #[.string n, .string v]) true).run Tryz.prog w = .ok (.tuple #[.agg #[], .bool false]) w := by
  have h1 : (Instr.checkKey true 10000 40 (.agg #[.string n, .string v])).run Tryz.prog w = .ok () w := by
    kernel_rfl
  have h2 : (getObj b).run Tryz.prog w = .ok (.map #[] 0) w := by simp [getObj, Sem.run, hb]
  have h3 : (Instr.findKey 40 (.agg #[.string n, .string v]) []).run Tryz.prog w = .ok none w := by kernel_rfl
  simp [Instr.lookup, go_sem, run_underlying Tryz.underlying84, h2, h1, h3]
theorem infoBo : (Tryz.prog.info? 4).map (fun i => (i.zero, i.size, i.bytes)) = some (some (.bool false), 1, 1) := by kernel_rfl
theorem makeBl (n : Nat) (hn : n ≤ 262144) (u : World) : (Instr.makeSlice 47 (.int .i64 (n : Int)) (.int .i64 (n : Int))).run Tryz.prog u = .ok (.slice (some ⟨u.heap.size, 0, none⟩) n n) (u.alloc (.cells (madeCells #[.bool false] n) 4)) := by
  obtain ⟨i0, hi, hz0, hz1, hz2⟩ := info_parts2 infoBo
  have h := run_make (P := Tryz.prog) u 47 4 i0 (.bool false) Tryz.underlying47 hi hz0 .i64 .i64 (n : Int) (n : Int) (by omega) (Int.le_refl _) (by rw [hz2]; omega) (by omega)
  simpa [hz1, Value.cells] using h
/-- YES AND NO IN A BLOCK. -/
structure Bb (W : World) (g n : Nat) (f : Nat → Bool) : Prop where
  blk : ∃ cur : Array Value, W.heap[g]? = some (.cells cur 4 (0, 0)) ∧ ∀ i, i < n → cur[i]? = some (.bool (f i))
theorem Bb.cell {W : World} {g n : Nat} {f : Nat → Bool} (h : Bb W g n f) {i : Nat} (hi : i < n) : W.cell? ⟨g, i, none⟩ = some (.bool (f i)) ∧ W.frozen? ⟨g, i, none⟩ = false := by
  obtain ⟨cur, h1, h2⟩ := h.blk
  exact ⟨(cell_blk h1 i).1.trans (h2 i hi), (cell_blk h1 i).2⟩
theorem Bb.lt {W : World} {g n : Nat} {f : Nat → Bool} (h : Bb W g n f) : g < W.heap.size := let ⟨_, h1, _⟩ := h.blk; blk_lt h1
theorem Bb.later {W X : World} {g n : Nat} {f : Nat → Bool} (h : Bb W g n f) (hb : RowKit.Below W.heap.size W X) : Bb X g n f := by
  obtain ⟨cur, h1, h2⟩ := h.blk
  exact ⟨cur, (hb.block _ (blk_lt h1)).trans h1, h2⟩
theorem Bb.set {W : World} {g n : Nat} {f : Nat → Bool} (h : Bb W g n f) {j : Nat} (hj : j < n) (b : Bool) : Bb (W.setCell ⟨g, j, none⟩ (.bool b)) g n (fun i => if i = j then b else f i) := by
  obtain ⟨cur, h1, h2⟩ := h.blk
  refine ⟨_, set_blk h1 j (.bool b), fun i hi => ?_⟩
  have hjc : j < cur.size := (Array.getElem?_eq_some_iff.1 (h2 j hj)).1
  by_cases e : i = j
  · subst e
    rw [if_pos rfl, Array.getElem?_setIfInBounds_self_of_lt hjc]
  · rw [if_neg e, Array.getElem?_setIfInBounds_ne (fun q => e q.symm)]
    exact h2 i hi
theorem bb_new (u : World) (n : Nat) : Bb (u.alloc (.cells (madeCells #[.bool false] n) 4)) u.heap.size n (fun _ => false) := by
  refine ⟨_, World.alloc_heap_new u _, fun i hi => ?_⟩
  rw [← Array.getElem?_toList, toList_madeCells_one, List.getElem?_replicate, if_pos hi]
theorem makeMk (u : World) : (Instr.makeMap 84 (some (.int .i64 0))).run Tryz.prog u = .ok (.map (some u.heap.size)) (u.alloc (.map #[] 0)) := by
  simp [Instr.makeMap, go_sem]
/-- THE PART WHILE IT IS MADE. -/
structure Wo (w wr : World) (n p : Nat) : Prop where
  m : wr.heap[w.heap.size]? = some (.map #[] 0)
  b : Bb wr (w.heap.size + 1) n (fun i => decide (i < p))
  bw : RowKit.Below w.heap.size w wr
theorem Wo.later {w wr X : World} {n p : Nat} (h : Wo w wr n p) (hb : RowKit.Below wr.heap.size wr X) : Wo w X n p := ⟨(hb.block _ (blk_lt h.m)).trans h.m, h.b.later hb, bl_t h.bw hb⟩
theorem Wo.set {w wr : World} {n p : Nat} (h : Wo w wr n p) (hp : p < n) : Wo w (wr.setCell ⟨w.heap.size + 1, p, none⟩ (.bool true)) n (p + 1) := by
  refine ⟨(set_other wr _ p (.bool true) _ (by omega)).trans h.m, ?_, h.bw.setCell (p := ⟨w.heap.size + 1, p, none⟩) (by show w.heap.size ≤ w.heap.size + 1; omega) _⟩
  have := h.b.set hp true
  rw [show (fun i => decide (i < p + 1)) = (fun i => if i = p then true else decide (i < p)) from by
    funext i
    by_cases e : i = p
    · simp [e]
    · rw [if_neg e]
      exact decide_eq_decide.2 (by omega)]
  exact this
theorem wo_new (w : World) (n : Nat) : Wo w ((w.alloc (.map #[] 0)).alloc (.cells (madeCells #[.bool false] n) 4)) n 0 := by
  have hz : (w.alloc (.map #[] 0)).heap.size = w.heap.size + 1 := World.size_alloc _ _
  have b1 : RowKit.Below w.heap.size w (w.alloc (.map #[] 0)) := (Below.refl _ w).alloc (Nat.le_refl _) _
  have b2 : RowKit.Below (w.alloc (.map #[] 0)).heap.size (w.alloc (.map #[] 0)) ((w.alloc (.map #[] 0)).alloc (.cells (madeCells #[.bool false] n) 4)) := (Below.refl _ _).alloc (Nat.le_refl _) _
  refine ⟨(b2.block _ (by omega)).trans (World.alloc_heap_new w _), ?_, bl_t b1 b2⟩
  have := bb_new (w.alloc (.map #[] 0)) n
  rw [hz] at this
  rw [show (fun i => decide (i < 0)) = (fun _ : Nat => false) from by funext i; simp]
  exact this
set_option maxRecDepth 100000 in
set_option maxHeartbeats 4000000 in
theorem without_nil {w : World} {v : Value} {ps : List Pk} (sm : SmP ps) (pk : Pkl w v ps) :
    Calls Tryz.prog 22 #[v, .slice none 0 0] w fun e w' => ∃ r, e = .returned r ∧ Bls w' r (fun _ => true) ps.length ∧ RowKit.Below w.heap.size w w' := by
  obtain ⟨va, vc, rfl⟩ : ∃ a c, v = .slice a ps.length c := let ⟨a, c, e, _⟩ := pk; ⟨a, c, e⟩
  have hl := sm.l
  have HPK := hide (show ∀ X, RowKit.Below w.heap.size w X → ∀ (p : Nat), p < ps.length → ∃ (vb vo : Nat) (cs : List Value) (n u : Nm), va = some ⟨vb, vo, none⟩ ∧ vb < X.heap.size ∧ X.rangeAt vb (vo + p * 43) cs ∧ (Tryz.prog.info? 38).map (·.size) = some cs.length ∧ ∀ Y, Calls Tryz.prog 24 #[.agg cs.toArray] Y fun e w' => e = .returned (.agg #[.string n, .string u]) ∧ Below Y.heap.size Y w' from fun X hX p hp => by
    obtain ⟨vb, vo, vc2, cs, d, r, c, pv, f, e, hvb, hr, hpc, _⟩ := (pk.later hX).at2 (List.getElem?_eq_getElem hp)
    injection e with e _ _
    exact ⟨vb, vo, cs, _, _, e, hvb, hr, by rw [hpc.len]; kernel_rfl, fun Y => keyOf_any cs _ _ Y hpc.c0 hpc.c1⟩)
  obtain ⟨N, hN⟩ : ∃ N, N = ps.length := ⟨_, rfl⟩
  rw [← hN] at hl HPK ⊢
  have hmk := makeBl N hl
  have hmm := makeMk
  have HW := hide (wo_new w N)
  clear pk sm hN
  go_enter Tryz.func22, Tryz.ntmps22
  go_wp2_with fail
  refine wp_loop_rounds 1 ?_
  rw [rounds_succ]
  go_wp2_with fail
  clear hmm hmk
  go_loopw [30] (fun iv wr => ∃ i : Nat, iv = .int .i64 i ∧ i ≤ N ∧ Hid (Wo w wr N i)) (fun iv _ => N - (intOf iv).toNat)
  case atStart => exact ⟨0, rfl, Nat.zero_le _, HW⟩
  case round =>
    clear HW
    obtain ⟨i, rfl, hile, HU⟩ := hrel
    have hu := unhide HU
    by_cases hlt : i < N
    · have hlt2 : (i : Int) < (N : Int) := by omega
      obtain ⟨vb, vo, cs, n, u, rfl, hvb, hr, hinf, hk⟩ := unhide HPK wr hu.bw i hlt
      have HR := hide hr
      have HI2 := hide hinf
      have HK := hide (hk wr)
      clear hr hinf hk
      go_wp2_with (first | ((with_reducible refine wpList_load_p (op := { dst := some 38, op := Op.load 38 (Operand.tmp 37), type := 38, pos := "part.go:24", after := #[{ on := 3, ground := Ground.data }], guard := none }) ?wxa 38 (.tmp 37) ?wxb vb (vo + i * 43) ?wxc cs _ (unhide HR) Tryz.underlying38 ?wxd (unhide HI2) ?wxe); (case wxa => rfl); (case wxb => rfl); (case wxc => rfl); (case wxd => rfl)) | (go_at_call 24; refine (unhide HK).mono ?_; rintro e w5 ⟨rfl, hb5⟩; have HU5 := hide (hu.later hb5); have lk := lookE (unhide HU5).m n u; obtain ⟨c0, f0⟩ := (unhide HU5).b.cell hlt; have hz5 := (unhide HU5).b.lt; clear hb5 HK))
      have HU6 := hide (((unhide HU5).set hlt).later ((Below.refl _ (w5.setCell ⟨w.heap.size + 1, i, none⟩ (.bool true))).alloc (Nat.le_refl _) (.cells #[] 74)))
      go_roundw
      case rel => exact ⟨i + 1, by go_num, by omega, HU6⟩
      case measure => simp [intOf]; omega
    · obtain rfl : i = N := by omega
      go_wp2_with fail
      go_ret
      refine ⟨_, rfl, ⟨some ⟨w.heap.size + 1, 0, none⟩, i, rfl, fun _ => ⟨_, rfl, hu.b.lt, fun j hj => ?_⟩⟩, hu.bw⟩
      rw [(hu.b.cell hj).1, decide_eq_true hj]
theorem allOf_any {w : World} {v : Value} {ps : List Pk} (sm : SmP ps) (pk : Pkl w v ps) :
    Calls Tryz.prog 14 #[v] w fun e w' => ∃ r, e = .returned r ∧ Bls w' r (fun _ => true) ps.length ∧ RowKit.Below w.heap.size w w' := by
  have C := hide (without_nil sm pk)
  clear sm pk
  go_enter Tryz.func14, Tryz.ntmps14
  go_wp2_with (go_at_call 22; refine (unhide C).mono ?_; rintro e w2 ⟨r, rfl, h1, h2⟩; have H := hide (And.intro h1 h2); clear h1 h2 C)
  go_ret
  exact ⟨_, rfl, unhide H⟩
end Go.Proofs.YtjnbnndocinicaaGreatDoor
namespace Go.Proofs.YtjnbnndocinicaaGreatDoor
open Go.RowKit Go.Maps

theorem Dv.mono {W : World} {b : Nat} {H : Nm → Option Value} {k k2 : Nat} (h : Dv W b H k) (hk : k ≤ k2) : Dv W b H k2 := let ⟨D, o, r⟩ := h; ⟨D, o.mono hk, r⟩
theorem spQ_len (p : Nat) (fs : List (List Value)) : (spQ p fs).length = fs.length := by simp [spQ]
theorem spQ_at {p j : Nat} {fs : List (List Value)} {x : List Value} (h : fs[j]? = some x) : (spQ p fs)[j]? = some (pathC x, p, j) := by
  unfold spQ
  rw [List.getElem?_map, List.getElem?_zipIdx, h]
  simp
theorem spL_len (ps : List Pk) : ∀ n, (spL ps n).length ≤ ((ps.take n).map fun p => p.fs.length).sum
  | 0 => Nat.zero_le _
  | n + 1 => by
    have ih := spL_len ps n
    rw [List.take_add_one, List.map_append, List.sum_append]
    unfold spL
    rw [List.length_append]
    cases e : ps[n]? with
    | none =>
      simp only [List.length_nil, Option.toList_none, List.map_nil, List.sum_nil]
      omega
    | some q =>
      have e3 : ((some q).toList.map fun p : Pk => p.fs.length).sum = q.fs.length := by simp
      simp only
      rw [spQ_len, e3]
      omega
theorem Bls.same {W X : World} {v : Value} {f : Nat → Bool} {n g : Nat} {u : Value} (h : Bls W v f n) (hg : W.cell? ⟨g, 0, none⟩ = some u) (hu : ∀ b, u ≠ .bool b) (hs : W.heap.size ≤ X.heap.size) (hX : ∀ b, b < W.heap.size → b ≠ g → X.heap[b]? = W.heap[b]?) : Bls X v f n := by
  obtain ⟨a, c, h1, h2⟩ := h
  refine ⟨a, c, h1, fun h0 => ?_⟩
  obtain ⟨b, h3, h4, h5⟩ := h2 h0
  have hne : b ≠ g := fun e => by
    have := h5 0 h0
    rw [e, hg] at this
    injection this with this
    exact hu _ this
  refine ⟨b, h3, Nat.lt_of_lt_of_le h4 hs, fun i hi => ?_⟩
  have e := h5 i hi
  unfold World.cell? at e ⊢
  rw [show X.heap[(⟨b, i, none⟩ : Addr).block]? = W.heap[(⟨b, i, none⟩ : Addr).block]? from hX b h4 hne]
  exact e
theorem sum_take_le {α : Type} (g : α → Nat) (l : List α) (n : Nat) : ((l.take n).map g).sum ≤ (l.map g).sum := by
  conv => rhs; rw [← List.take_append_drop n l, List.map_append, List.sum_append]
  omega
theorem five_free {W : World} {g : Nat} {v0 v1 v2 v3 v4 : Value} {t : TypeId} (h : W.heap[g]? = some (.cells #[v0, v1, v2, v3, v4] t (0, 0))) : W.frozen? ⟨g, 0, none⟩ = false ∧ W.frozen? ⟨g, 1, none⟩ = false ∧ W.frozen? ⟨g, 2, none⟩ = false ∧ W.frozen? ⟨g, 3, none⟩ = false ∧ W.frozen? ⟨g, 4, none⟩ = false :=
  ⟨(cell_blk h 0).2, (cell_blk h 1).2, (cell_blk h 2).2, (cell_blk h 3).2, (cell_blk h 4).2⟩
/-- THE CHECK WHILE IT IS MADE. -/
structure Co (wm wr : World) (C : Array Value) (L : List (Nm × Nat × Nat)) : Prop where
  c : wr.heap[wm.heap.size + 1]? = some (.cells C 62 (0, 0))
  m : Dv wr wm.heap.size (fsH L) L.length
  bw : RowKit.Below wm.heap.size wm wr
theorem Co.later {wm wr X : World} {C : Array Value} {L : List (Nm × Nat × Nat)} (h : Co wm wr C L) (hb : RowKit.Below wr.heap.size wr X) : Co wm X C L := ⟨(hb.block _ (blk_lt h.c)).trans h.c, h.m.later hb, bl_t h.bw hb⟩
theorem Co.old {wm wr : World} {C : Array Value} {L : List (Nm × Nat × Nat)} (h : Co wm wr C L) {t : Nm × Nat × Nat} (hk : (fsH L t.1).isSome = true) : Co wm wr C (L ++ [t]) := ⟨h.c, by rw [fsH_old hk]; exact h.m.mono (by simp), h.bw⟩
theorem Co.new {wm wr W5 : World} {C : Array Value} {L : List (Nm × Nat × Nat)} (h : Co wm wr C L) {t : Nm × Nat × Nat} (hk : (fsH L t.1).isSome = false) (hd : Dv W5 wm.heap.size (up (fsH L) t.1 (some (spV t.2))) (L.length + 1)) (hf : Fx (fun c => c = wm.heap.size) wr W5) : Co wm W5 C (L ++ [t]) := by
  refine ⟨(hf.blk _ (blk_lt h.c) (by omega)).trans h.c, by rw [fsH_new hk, List.length_append]; exact hd, ?_⟩
  have := h.bw.size
  exact ⟨hf.bel.os.trans h.bw.os, hf.bel.tape.trans h.bw.tape, hf.bel.output.trans h.bw.output, Nat.le_trans h.bw.size hf.size, fun b hb => (hf.blk b (by omega) (by omega)).trans (h.bw.block b hb)⟩
theorem co_new (wm : World) (C : Array Value) : Co wm ((wm.alloc (.map #[] 0)).alloc (.cells C 62)) C [] := by
  have hz : (wm.alloc (.map #[] 0)).heap.size = wm.heap.size + 1 := World.size_alloc _ _
  have b1 : RowKit.Below wm.heap.size wm (wm.alloc (.map #[] 0)) := (Below.refl _ wm).alloc (Nat.le_refl _) _
  have b2 : RowKit.Below (wm.alloc (.map #[] 0)).heap.size (wm.alloc (.map #[] 0)) ((wm.alloc (.map #[] 0)).alloc (.cells C 62)) := (Below.refl _ _).alloc (Nat.le_refl _) _
  have h := World.alloc_heap_new (wm.alloc (.map #[] 0)) (.cells C 62)
  rw [hz] at h
  exact ⟨h, (Dv.make wm).later b2, bl_t b1 b2⟩
/-- THE CHECK, AS IT LIES. -/
structure Ck (W : World) (v : Value) (b1 b2 b3 : Nat) (av : Value) (ps : List Pk) : Prop where
  pk : Pkl W v ps
  st : ∃ xs base H1 H2 k1 k2, Sim xs ps ∧ Pks W v xs ∧ Mi W base (.map (some b1)) H1 (nmP xs xs.length) k1 ∧ Mi W base (.map (some b2)) H2 (pvP xs xs.length) k2
  al : Bls W av (fun _ => true) ps.length
  fs : ∃ k, Dv W b3 (fsH (spL ps ps.length)) k
theorem Ck.later {W X : World} {v : Value} {b1 b2 b3 : Nat} {av : Value} {ps : List Pk} (h : Ck W v b1 b2 b3 av ps) (hb : RowKit.Below W.heap.size W X) : Ck X v b1 b2 b3 av ps := by
  obtain ⟨xs, base, H1, H2, k1, k2, s1, s2, s3, s4⟩ := h.st
  obtain ⟨k, hk⟩ := h.fs
  exact ⟨h.pk.later hb, ⟨xs, base, H1, H2, k1, k2, s1, s2.later hb, s3.later hb, s4.later hb⟩, h.al.later hb, k, hk.later hb⟩
set_option maxRecDepth 100000 in
set_option maxHeartbeats 8000000 in
theorem checkOf_any {w : World} {v : Value} {ps : List Pk} (sm : SmP ps) (pk : Pkl w v ps) :
    Calls Tryz.prog 20 #[v] w fun e w' => ∃ b1 b2 b3 av, e = .returned (.agg #[v, .map (some b1), .map (some b2), av, .map (some b3)]) ∧ Ck w' v b1 b2 b3 av ps ∧ RowKit.Below w.heap.size w w' := by
  obtain ⟨va, vc, rfl⟩ : ∃ a c, v = .slice a ps.length c := let ⟨a, c, e, _⟩ := pk; ⟨a, c, e⟩
  obtain ⟨xs, hxs, hsim⟩ := sim_of pk fun p hp => (sm.z p hp).2.1
  obtain ⟨W1, hW1⟩ : ∃ W, W = w.alloc (.cells #[.slice none 0 0, .map none, .map none, .slice none 0 0, .map none] 62) := ⟨_, rfl⟩
  have hb1 : RowKit.Below w.heap.size w W1 := by rw [hW1]; exact (Below.refl _ w).alloc (Nat.le_refl _) _
  have hx1 : W1.heap[w.heap.size]? = some (.cells #[.slice none 0 0, .map none, .map none, .slice none 0 0, .map none] 62 (0, 0)) := by rw [hW1]; exact World.alloc_heap_new w _
  have hl := sm.l
  have ht := sm.tot hsim
  have C1 := hide (setOf_any xs (.slice va ps.length vc) W1 (by rw [hsim.1]; omega) (by omega) (sm.sz hsim) (hxs.later hb1))
  have HA := hide (show ∀ X, RowKit.Below w.heap.size w X → Calls Tryz.prog 14 #[.slice va ps.length vc] X fun e w' => ∃ r, e = .returned r ∧ Bls w' r (fun _ => true) ps.length ∧ RowKit.Below X.heap.size X w' from fun X hX => allOf_any sm (pk.later hX))
  have HPK := hide (And.intro pk (And.intro hxs hsim))
  have HSM := hide sm
  have hmm := @run_makeMap Tryz.prog
  have HW1 := hide (And.intro hb1 hx1)
  have hzl : w.heap.size < W1.heap.size := blk_lt hx1
  clear pk sm hxs hsim hb1 hx1 ht
  go_enter Tryz.func20, Tryz.ntmps20
  go_wp2_with (first | (go_at_call 12; rw [← hW1]; refine (unhide C1).mono ?_; rintro e w2 ⟨H1, k1, H2, k2, rfl, m1, m2, hb2⟩; have HM := hide (And.intro m1 (And.intro m2 hb2)); clear m1 m2 hb2 C1 hW1) | (go_at_call 14; refine (unhide HA _ (bl_t (unhide HW1).1 (unhide HM).2.2)).mono ?_; rintro e wm ⟨av, rfl, hal, hbm⟩; have HAL := hide (And.intro hal hbm); obtain ⟨ia, ic, rfl⟩ := (show ∃ a c, av = .slice a ps.length c from let ⟨a, c, e, _⟩ := hal; ⟨a, c, e⟩); clear hal hbm HA))
  have bwm : RowKit.Below w.heap.size w wm := bl_t (bl_t (unhide HW1).1 (unhide HM).2.2) (unhide HAL).2
  have HBW := hide bwm
  have HRM := hide (show wm.heap[w.heap.size]? = some (.cells #[.slice none 0 0, .map none, .map none, .slice none 0 0, .map none] 62 (0, 0)) from ((bl_t (unhide HM).2.2 (unhide HAL).2).block _ hzl).trans (unhide HW1).2)
  have HFL := hide (show ∀ X, RowKit.Below w.heap.size w X → ∀ (i : Nat) (q : Pk), ps[i]? = some q → ∃ (vb vo : Nat) (fa : Option Addr) (fc : Nat), va = some ⟨vb, vo, none⟩ ∧ X.cell? ⟨vb, vo + i * 43 + 7, none⟩ = some (.slice fa q.fs.length fc) ∧ ∀ Y, RowKit.Below w.heap.size w Y → Fls Y (.slice fa q.fs.length fc) q.fs from fun X hX i q hq => by
    obtain ⟨vb, vo, vc2, cs, d, r, c, pv, f, e, hvb, hr, hpc, hll⟩ := (unhide HPK).1.at2 hq
    injection e with e _ _
    obtain ⟨fa, fc, rfl⟩ : ∃ a c, f = .slice a q.fs.length c := let ⟨a, c, e, _⟩ := hll.fl; ⟨a, c, e⟩
    exact ⟨vb, vo, fa, fc, e, (hX.cell (p := ⟨vb, vo + i * 43 + 7, none⟩) hvb).trans (hr 7 _ hpc.c7), fun Y hY => hll.fl.later hY⟩)
  have HPA := hide (show ∀ (i : Nat) (q : Pk), ps[i]? = some q → ∀ x ∈ q.fs, ∃ s : Nm, x[0]? = some (Value.string s) ∧ s.size ≤ maxLen from fun i q hq => (unhide HSM).f q (List.mem_of_getElem? hq))
  have HLE := hide (show ∀ i, (spL ps i).length ≤ 1048576 from fun i => Nat.le_trans (spL_len ps i) (Nat.le_trans (sum_take_le _ _ _) (unhide HSM).sf))
  have HFQ := hide (show ∀ (i : Nat) (q : Pk), ps[i]? = some q → q.fs.length ≤ 1048576 from fun i q hq => Nat.le_trans (le_sum (fun p : Pk => p.fs.length) (List.mem_of_getElem? hq)) (unhide HSM).sf)
  have HIX := hide (show ∀ x : List Value, isF x → (Tryz.prog.info? 79).map (·.size) = some x.length from fun x hx => by rw [hx.1]; exact sizeF)
  have HCO := hide (co_new wm #[.slice va ps.length vc, .map (some (W1.heap.size + 1)), .map (some (W1.heap.size + 2)), .slice ia ps.length ic, .map (some wm.heap.size)])
  obtain ⟨N, hN⟩ : ∃ N, N = ps.length := ⟨_, rfl⟩
  have HN := hide hN
  clear hmm bwm
  go_loopg [17] ps.length (fun gh iv wr => ∃ i : Nat, iv = .int .i64 i ∧ i ≤ ps.length ∧ ps.length - i ≤ gh ∧ Hid (Co wm wr #[.slice va ps.length vc, .map (some (W1.heap.size + 1)), .map (some (W1.heap.size + 2)), .slice ia ps.length ic, .map (some wm.heap.size)] (spL ps i)))
  case atStart => exact ⟨0, by go_num, Nat.zero_le _, by omega, HCO⟩
  case round =>
    clear HCO
    obtain ⟨i, rfl, hile, hgh, HC⟩ := hrel
    have hc0 := unhide HC
    by_cases hlt : i < ps.length
    · have hlt2 : (i : Int) < (ps.length : Int) := by omega
      obtain ⟨q, hq⟩ : ∃ q, ps[i]? = some q := ⟨_, List.getElem?_eq_getElem hlt⟩
      obtain ⟨vb, vo, fa, fc, rfl, c7, hfl⟩ := unhide HFL wr ((unhide HBW).trans (hc0.bw.mono (unhide HBW).size)) i q hq
      have HFI := hide hfl
      have HQ := hide hq
      obtain ⟨M, hM⟩ : ∃ M, M = q.fs.length := ⟨_, rfl⟩
      rw [← hM] at c7 HFI
      have hMl : M ≤ 1048576 := by rw [hM]; exact unhide HFQ i q hq
      have HM2 := hide hM
      have hLi := unhide HLE i
      have HC0 := hide (show Co wm wr #[.slice (some ⟨vb, vo, none⟩) ps.length vc, .map (some (W1.heap.size + 1)), .map (some (W1.heap.size + 2)), .slice ia ps.length ic, .map (some wm.heap.size)] (spL ps i ++ (spQ i q.fs).take 0) from by rw [List.take_zero, List.append_nil]; exact hc0)
      clear hfl hq hM
      go_wp2_with fail
      clear c7
      clear hc0 HC
      go_loopw [26] (fun jv wq => ∃ j : Nat, jv = .int .i64 j ∧ j ≤ M ∧ Hid (Co wm wq #[.slice (some ⟨vb, vo, none⟩) ps.length vc, .map (some (W1.heap.size + 1)), .map (some (W1.heap.size + 2)), .slice ia ps.length ic, .map (some wm.heap.size)] (spL ps i ++ (spQ i q.fs).take j))) (fun jv _ => M - (intOf jv).toNat)
      case atStart => exact ⟨0, rfl, Nat.zero_le _, HC0⟩
      case round =>
        clear HC0
        obtain ⟨j, rfl, hjM, HC⟩ := hrel
        have hc := unhide HC
        by_cases hlj : j < M
        · have hlj2 : (j : Int) < (M : Int) := by omega
          have hjp : j < q.fs.length := by have := unhide HM2; omega
          have hx : q.fs[j]? = some q.fs[j] := List.getElem?_eq_getElem hjp
          generalize q.fs[j] = x at *
          obtain ⟨hxF, fb, fo, rfl, hfb, hfr⟩ := (unhide HFI wr ((unhide HBW).trans (hc.bw.mono (unhide HBW).size))).at hx
          obtain ⟨s, hxs, hss⟩ := unhide HPA i q (unhide HQ) x (List.mem_of_getElem? hx)
          have HR := hide hfr
          have HIF := hide (unhide HIX x hxF)
          have HXL := hide (show x.length = 34 from hxF.1)
          have HXO := hide (show ∀ v ∈ x, v.oneCell' = true from hxF.2.2)
          have HE := hide (show spL ps i ++ (spQ i q.fs).take (j + 1) = (spL ps i ++ (spQ i q.fs).take j) ++ [(s, i, j)] from by rw [List.take_add_one, spQ_at hx, pathC_of hxs, List.append_assoc]; rfl)
          have hLl : (spL ps i ++ (spQ i q.fs).take j).length ≤ 2097152 := by rw [List.length_append, List.length_take]; omega
          clear hfr hxF hx hjp hfb
          generalize spL ps i ++ (spQ i q.fs).take j = L at *
          cases hk : fst1 L s with
          | some t0 =>
            have hsome : (fsH L s).isSome = true := by unfold fsH; rw [hk]; rfl
            have HLK := hide (show ∀ X, Dv X wm.heap.size (fsH L) L.length → (Instr.lookup 60 (.map (some wm.heap.size)) (.string s) true).run Tryz.prog X = .ok (.tuple #[.agg #[.int .i64 (t0.1 : Int), .int .i64 (t0.2 : Int)], .bool true]) X from fun X hX => by
              rw [hX.look hss, hsome]
              unfold fsH
              rw [hk]
              rfl)
            have HOLD := hide (fun (X : World) (h : Co wm X #[.slice (some ⟨vb, vo, none⟩) ps.length vc, .map (some (W1.heap.size + 1)), .map (some (W1.heap.size + 2)), .slice ia ps.length ic, .map (some wm.heap.size)] L) => h.old (t := (s, i, j)) hsome)
            clear hk hsome hss
            go_wp2_with (first | ((with_reducible refine wpList_load_p (op := { dst := some 30, op := Op.load 79 (Operand.tmp 29), type := 79, pos := "check.go:22", after := #[{ on := 1, ground := Ground.data }], guard := none }) ?oxa 79 (.tmp 29) ?oxb fb (fo + j * 34) ?oxc x _ (unhide HR) Tryz.underlying79 ?oxd (unhide HIF) ?oxe); (case oxa => rfl); (case oxb => rfl); (case oxc => rfl); (case oxd => rfl)) | (with_reducible refine f_alloc rfl rfl ?_; intro w2 zc bk2 k2 z2) | ((with_reducible refine f_store _ _ rfl rfl wr.heap.size rfl x rfl (unhide HXL) (unhide HXO) zc bk2 ?_); intro w3 bk3 k3; have hbel := fnew k2 k3; have c0 := bk3.path hxs; have hzg := blk_lt bk3.at_; have HC3 := hide (hc.later hbel); have c4 : w3.cell? ⟨wm.heap.size + 1, 4, none⟩ = some (.map (some wm.heap.size)) := (cell_blk (unhide HC3).c 4).1; have hzm := blk_lt (unhide HC3).c; have lk := unhide HLK w3 (unhide HC3).m; clear k2 k3 bk2 bk3 z2 hbel))
            have HC9 := hide (unhide HOLD _ ((unhide HC3).later ((Below.refl _ w3).alloc (Nat.le_refl _) (.cells #[.int .i64 (t0.1 : Int), .int .i64 (t0.2 : Int)] 81))))
            go_roundw
            case rel => exact ⟨j + 1, by go_num, by omega, by rw [unhide HE]; exact HC9⟩
            case measure => simp [intOf]; omega
          | none =>
            have hnone : (fsH L s).isSome = false := by unfold fsH; rw [hk]; rfl
            have HLK := hide (show ∀ X, Dv X wm.heap.size (fsH L) L.length → (Instr.lookup 60 (.map (some wm.heap.size)) (.string s) true).run Tryz.prog X = .ok (.tuple #[.agg #[.int .i64 0, .int .i64 0], .bool false]) X from fun X hX => by
              rw [hX.look hss, hnone]
              unfold fsH
              rw [hk]
              rfl)
            have HNEW := hide (show ∀ X : World, Co wm X #[.slice (some ⟨vb, vo, none⟩) ps.length vc, .map (some (W1.heap.size + 1)), .map (some (W1.heap.size + 2)), .slice ia ps.length ic, .map (some wm.heap.size)] L → ∃ W5, (Instr.mapUpdate 60 (.map (some wm.heap.size)) (.string s) (.agg #[.int .i64 (i : Int), .int .i64 (j : Int)])).run Tryz.prog X = .ok () W5 ∧ Co wm W5 #[.slice (some ⟨vb, vo, none⟩) ps.length vc, .map (some (W1.heap.size + 1)), .map (some (W1.heap.size + 2)), .slice ia ps.length ic, .map (some wm.heap.size)] (L ++ [(s, i, j)]) from fun X hX => by
              obtain ⟨W5, h1, h2, h3⟩ := hX.m.put (by unfold maxLen; omega) hss (spV (i, j))
              exact ⟨W5, h1, hX.new (t := (s, i, j)) hnone h2 h3⟩)
            clear hk hnone hss
            go_wp2_with (first | ((with_reducible refine wpList_load_p (op := { dst := some 30, op := Op.load 79 (Operand.tmp 29), type := 79, pos := "check.go:22", after := #[{ on := 1, ground := Ground.data }], guard := none }) ?oya 79 (.tmp 29) ?oyb fb (fo + j * 34) ?oyc x _ (unhide HR) Tryz.underlying79 ?oyd (unhide HIF) ?oye); (case oya => rfl); (case oyb => rfl); (case oyc => rfl); (case oyd => rfl)) | (with_reducible refine f_alloc rfl rfl ?_; intro w2 zc bk2 k2 z2) | ((with_reducible refine f_store _ _ rfl rfl wr.heap.size rfl x rfl (unhide HXL) (unhide HXO) zc bk2 ?_); intro w3 bk3 k3; have hbel := fnew k2 k3; have c0 := bk3.path hxs; have hzg := blk_lt bk3.at_; have HC3 := hide (hc.later hbel); have c4 : w3.cell? ⟨wm.heap.size + 1, 4, none⟩ = some (.map (some wm.heap.size)) := (cell_blk (unhide HC3).c 4).1; have hzm := blk_lt (unhide HC3).c; have lk := unhide HLK w3 (unhide HC3).m; obtain ⟨W5, hup, hco5⟩ := unhide HNEW _ ((unhide HC3).later ((Below.refl _ w3).alloc (Nat.le_refl _) (.cells #[.int .i64 0, .int .i64 0] 81))); have HC9 := hide hco5; clear hco5; clear k2 k3 bk2 bk3 z2 hbel))
            go_roundw
            case rel => exact ⟨j + 1, by go_num, by omega, by rw [unhide HE]; exact HC9⟩
            case measure => simp [intOf]; omega
        · obtain rfl : j = M := by omega
          have HC9 := hide (show Co wm wr #[.slice (some ⟨vb, vo, none⟩) ps.length vc, .map (some (W1.heap.size + 1)), .map (some (W1.heap.size + 2)), .slice ia ps.length ic, .map (some wm.heap.size)] (spL ps (i + 1)) from by
            rw [unhide HM2, ← spQ_len i q.fs, List.take_length] at hc
            rw [spL, unhide HQ]
            exact hc)
          go_wp2_with fail
          go_roundg (ps.length - (i + 1))
          case measure => omega
          case rel => exact ⟨i + 1, by go_num, by omega, by omega, HC9⟩
    · obtain rfl : i = ps.length := by omega
      have r0 := (hc0.bw.block _ (blk_lt (unhide HRM))).trans (unhide HRM)
      obtain ⟨z0, z1, z2, z3, z4⟩ := five r0
      obtain ⟨f0, f1, f2, f3, f4⟩ := five_free r0
      obtain ⟨c0, c1, c2, c3, c4⟩ := five hc0.c
      have hzw := blk_lt r0
      have hzc := blk_lt hc0.c
      have hne : w.heap.size ≠ wm.heap.size + 1 := by have := (unhide HBW).size; omega
      have R0 := hide r0
      have HC9 := hide hc0
      clear r0
      go_wp2_with fail
      refine bodyPost_ret (v := .agg #[.slice va ps.length vc, .map (some (W1.heap.size + 1)), .map (some (W1.heap.size + 2)), .slice ia ps.length ic, .map (some wm.heap.size)]) (by simp [results, Tryz.results20, go_sem, z0, z1, z2, z3, z4]) rfl ?_
      obtain ⟨pk, hxs, hsim⟩ := unhide HPK
      obtain ⟨m1, m2, hb2⟩ := unhide HM
      obtain ⟨hal, hbm⟩ := unhide HAL
      have co := unhide HC9
      have hbw := unhide HBW
      have hz2 := hb2.size
      have hzm2 := hbm.size
      have hzz := co.bw.size
      have bf0 : RowKit.Below w.heap.size w wr := hbw.trans (co.bw.mono hbw.size)
      obtain ⟨F, hF⟩ : ∃ F, F = (((((wr.setCell ⟨w.heap.size, 0, none⟩ (.slice va ps.length vc)).setCell ⟨w.heap.size, 1, none⟩ (.map (some (W1.heap.size + 1)))).setCell ⟨w.heap.size, 2, none⟩ (.map (some (W1.heap.size + 2)))).setCell ⟨w.heap.size, 3, none⟩ (.slice ia ps.length ic)).setCell ⟨w.heap.size, 4, none⟩ (.map (some wm.heap.size))) := ⟨_, rfl⟩
      have bF : RowKit.Below w.heap.size w F := by
        rw [hF]
        exact ((((bf0.setCell (p := ⟨w.heap.size, 0, none⟩) (Nat.le_refl _) _).setCell (p := ⟨w.heap.size, 1, none⟩) (Nat.le_refl _) _).setCell (p := ⟨w.heap.size, 2, none⟩) (Nat.le_refl _) _).setCell (p := ⟨w.heap.size, 3, none⟩) (Nat.le_refl _) _).setCell (p := ⟨w.heap.size, 4, none⟩) (Nat.le_refl _) _
      have kF : ∀ b, b ≠ w.heap.size → F.heap[b]? = wr.heap[b]? := fun b hb => by
        rw [hF]
        exact (set_other _ _ 4 _ b hb).trans ((set_other _ _ 3 _ b hb).trans ((set_other _ _ 2 _ b hb).trans ((set_other _ _ 1 _ b hb).trans (set_other _ _ 0 _ b hb))))
      have sF : F.heap.size = wr.heap.size := by rw [hF, set_size, set_size, set_size, set_size, set_size]
      rw [← hF]
      have k2F : ∀ b, w.heap.size < b → b < w2.heap.size → F.heap[b]? = w2.heap[b]? := fun b h1 h2 => (kF b (by omega)).trans ((co.bw.block b (by omega)).trans (hbm.block b h2))
      refine ⟨_, _, _, _, rfl, ⟨pk.later bF, ⟨xs, _, _, _, _, _, hsim, hxs.later bF, m1.same (fun b e => ?_) (fun x h b e eb => ?_), m2.same (fun b e => ?_) (fun x h b e eb => ?_)⟩, ?_, ⟨_, co.m.same (kF _ ?_)⟩⟩, bF⟩
      · exact k2F b (by cases e; omega) (m1.dm.lt e)
      · have := m1.lt e eb
        exact k2F b (by omega) this.2
      · exact k2F b (by cases e; omega) (m2.dm.lt e)
      · have := m2.lt e eb
        exact k2F b (by omega) this.2
      · exact hal.same (g := w.heap.size) (u := .slice none 0 0) (cell_blk (unhide HRM) 0).1 (fun b e => by cases e) (by omega) (fun b h1 h2 => (kF b h2).trans (co.bw.block b h1))
      · have := hbw.size
        have := blk_lt (unhide HRM)
        omega
end Go.Proofs.YtjnbnndocinicaaGreatDoor
/-
  DERIVED: THE SHELF's CONTRACTS AT THIS DUMP, IN PLAIN WORDS (tools/lay-plain.mjs out of 'TrydShelfG.lean', which tools/lay-shelf.mjs wrote): THE SAME DECLARATIONS UNDER THE SAME NAMES: 'import', 'namespace', 'open', 'def', 'theorem' AND NOTHING ELSE: no command of the shelf's: FOR A HAND-IN. Each laying: the table of numbers ('.._ren') and one theorem, a field a fact of the dump's own or the kernel's comparison; each contract: ONE APPLICATION.
-/
namespace Go.Proofs
open Go.Shelf
def Tryz.growF_ren : Go.Shelf.Ren := ⟨fun | 4 => 46 | n => n, fun | 22 => 56 | 25 => 59 | 3 => 3 | 4 => 4 | 9 => 9 | 20 => 20 | 0 => 0 | n => n, fun | n => n⟩
theorem Tryz.growF : Go.Proofs.Lays8.n4 Tryz.prog Tryz.growF_ren := {
  mixed := by kernel_rfl
  f4 := ⟨Tryz.f46.name, by decide, Tryz.func46.trans (congrArg some (by kernel_rfl))⟩
  t0 := Tryz.underlying0
  a0 := Tryz.isAgg0
  z0 := Tryz.sizeOf0
  v0 := Tryz.zeroValue0
  t3 := Tryz.underlying3
  a3 := Tryz.isAgg3
  z3 := Tryz.sizeOf3
  v3 := Tryz.zeroValue3
  t4 := Tryz.underlying4
  a4 := Tryz.isAgg4
  z4 := Tryz.sizeOf4
  v4 := Tryz.zeroValue4
  t9 := Tryz.underlying9
  a9 := Tryz.isAgg9
  z9 := Tryz.sizeOf9
  v9 := Tryz.zeroValue9
  t20 := Tryz.underlying20
  a20 := Tryz.isAgg20
  z20 := Tryz.sizeOf20
  v20 := Tryz.zeroValue20
  t22 := Tryz.underlying56
  a22 := Tryz.isAgg56
  z22 := Tryz.sizeOf56
  v22 := Tryz.zeroValue56 }
end Go.Proofs
namespace Go.Proofs.YtjnbnndocinicaaGreatDoor
open Go.RowKit Go.Maps Go.Lib

/-- ROOM FOR SO MANY FAULTS. -/
theorem grow_any (n : Nat) (hn : n ≤ 549755813888) (w : World) : Calls Tryz.prog 46 #[.slice none 0 0, .int .i64 (n : Int)] w fun e w' => ∃ v, e = .returned v ∧ w'.ownsRow w.heap.size 59 6 v 0 [] ∧ RowKit.Below w.heap.size w w' := by
  obtain ⟨i0, hi, hz0, hz1, hz2⟩ := info_parts2 infoFt
  by_cases h0 : n = 0
  · subst h0
    refine Calls.mono (Any8.slices_Grow_room Tryz.growF none 0 0 0 w (by omega) (by omega) (by omega) (by omega)) ?_
    rintro e w' ⟨rfl, rfl⟩
    exact ⟨_, rfl, ⟨rfl, .inl ⟨rfl, rfl⟩⟩, Below.refl _ _⟩
  · refine Calls.mono (Any8.slices_Grow_grow Tryz.growF i0 _ hi hz0 (by rw [hz1]; omega) none 0 0 n [] w (by omega) (by omega) (by rw [hz2]; omega) (by omega) (by simp) (fun _ => rfl) (fun a e => by cases e)) ?_
    rintro e w' ⟨rfl, rfl⟩
    have hG1 := grownCap_ge w (0 + n) 0 (Tryz.growF_ren.t 25)
    have hG2 := grownCap_le_maxLen w (0 + n) 0 (Tryz.growF_ren.t 25) (by unfold maxLen; omega)
    have hG2 : grownCap w (0 + n) 0 (Tryz.growF_ren.t 25) ≤ maxLen := hG2
    refine ⟨_, rfl, ⟨rfl, .inr ⟨w.heap.size, _, _, rfl, Nat.le_refl _, World.alloc_heap_new w.drew _, Nat.zero_le _, hG2, ?_, by simp⟩⟩, ?_⟩
    · rw [Array.size_append, Array.size_append, size_zeroCells, size_zeroCells]
      show 0 + (0 + n - 0) * 6 + (grownCap w (0 + n) 0 (Tryz.growF_ren.t 25) - (0 + n)) * 6 = grownCap w (0 + n) 0 (Tryz.growF_ren.t 25) * 6
      omega
    · exact bl_t ((Below.refl _ w).drew) ((Below.refl _ w.drew).alloc (Nat.le_refl _) _)
def totL (ls : List (List Ft)) : Nat := (ls.map List.length).sum
theorem totL_take (ls : List (List Ft)) (j : Nat) : totL (ls.take j) ≤ totL ls := sum_take_le _ _ _
theorem totL_succ {ls : List (List Ft)} {j : Nat} {l : List Ft} (h : ls[j]? = some l) : totL (ls.take (j + 1)) = totL (ls.take j) + l.length := by
  unfold totL
  rw [List.take_add_one, h, List.map_append, List.sum_append]
  simp
theorem flat_succ {ls : List (List Ft)} {j : Nat} {l : List Ft} (h : ls[j]? = some l) : (ls.take (j + 1)).flatten = (ls.take j).flatten ++ l := by
  rw [List.take_add_one, h, List.flatten_append]
  simp
theorem flat_len (ls : List (List Ft)) : ls.flatten.length = totL ls := by unfold totL; rw [List.length_flatten]
theorem Fs.more {W wr w9 : World} {s v' : Value} {l m : List Ft} (h : Fs W wr s l) (hown : w9.ownsRow W.heap.size 59 6 v' (l.length + m.length) (ftC l ++ ftC m)) (hg : wr.grownBy w9 s.ownBlock) : Fs W w9 v' (l ++ m) := by
  refine ⟨?_, h.bw.grown hg ?_ fun j e => (World.ownsRow.lt h.row j e).1⟩
  · rw [List.length_append, ftC_app]
    exact hown
  · exact h.bw.size
theorem one_ftC (l : List Ft) : ∀ u ∈ ftC l, u.oneCell' = true := fun u hu => by
  unfold ftC at hu
  obtain ⟨f, _, h2⟩ := List.mem_flatMap.1 hu
  exact one_ft f u h2
set_option maxRecDepth 100000 in
set_option maxHeartbeats 8000000 in
theorem concat_any {w : World} {B : Nat} {hs : List Hd} {ls : List (List Ft)} (hlen : ls.length = hs.length) (hB : w.heap[B]? = some (.cells (hs.map hv).toArray 56 (0, 0))) (hrow : ∀ (i : Nat) (h : Hd) (l : List Ft), hs[i]? = some h → ls[i]? = some l → ∃ lo, w.ownsRow lo 59 6 (hv h) l.length (ftC l)) (hn : hs.length ≤ 1000) (htot : totL ls ≤ 549755813888) :
    Calls Tryz.prog 32 #[.slice (some ⟨B, 0, none⟩) hs.length hs.length] w fun e w' => ∃ r, e = .returned r ∧ w'.ownsRow w.heap.size 59 6 r ls.flatten.length (ftC ls.flatten) ∧ RowKit.Below w.heap.size w w' := by
  obtain ⟨i0, hi, hz0, hz1, hz2⟩ := info_parts2 infoFt
  have HAT := hide (show ∀ X, RowKit.Below w.heap.size w X → ∀ j, j < hs.length → ∃ (h : Hd) (l : List Ft), hs[j]? = some h ∧ ls[j]? = some l ∧ X.cell? ⟨B, j, none⟩ = some (.slice h.a h.n h.c) ∧ h.n = l.length ∧ (h.a = none → l = [] ∧ h.c = 0) ∧ ∀ ad, h.a = some ad → ∀ k u, (ftC l)[k]? = some u → X.cell? (ad.add k) = some u from fun X hX j hj => by
    have e1 : hs[j]? = some hs[j] := List.getElem?_eq_getElem hj
    have e2 : ls[j]? = some ls[j] := List.getElem?_eq_getElem (by omega)
    obtain ⟨lo, hr⟩ := hrow j _ _ e1 e2
    refine ⟨_, _, e1, e2, ?_, ?_, ?_, ?_⟩
    · rw [(hX.cell (p := ⟨B, j, none⟩) (blk_lt hB)), (cell_blk hB j).1, List.getElem?_toArray, List.getElem?_map, e1]
      rfl
    · rcases hr.2 with ⟨q, q2⟩ | ⟨g, cap, cur, q, _⟩
      · unfold hv at q; injection q with _ q _; rw [q, q2]
      · unfold hv at q; injection q with _ q _
    · intro ea
      rcases hr.2 with ⟨q, q2⟩ | ⟨g, cap, cur, q, _⟩
      · unfold hv at q
        injection q with _ _ q
        exact ⟨List.length_eq_zero_iff.1 q2, q⟩
      · unfold hv at q; rw [ea] at q; cases q
    · intro ad ea k u hu
      rcases hr.2 with ⟨q, q2⟩ | ⟨g, cap, cur, q, _, q3, _⟩
      · unfold hv at q; rw [ea] at q; cases q
      · have hc := hr.cells (g := g) (by rw [q]; rfl) k u hu
        unfold hv at q
        rw [ea] at q
        injection q with q _ _
        injection q with q
        subst q
        rw [Addr.add_mid, Nat.zero_add] at hc ⊢
        exact (hX.cell (p := ⟨g, k, none⟩) (blk_lt q3)).trans hc)
  obtain ⟨N, hN⟩ : ∃ N, N = hs.length := ⟨_, rfl⟩
  rw [← hN] at hn hlen HAT ⊢
  have HLN := hide hlen
  have HT := hide htot
  have HTT := hide (fun j => Nat.le_trans (totL_take ls j) htot)
  clear hB hrow hlen hN htot
  have HA0 := hide (unhide HAT w (Below.refl _ _))
  go_enter Tryz.func32, Tryz.ntmps32
  go_wp2_with fail
  go_loop [3, 11] (fun sv jv => ∃ j : Nat, jv = .int .i64 j ∧ j ≤ N ∧ sv = .int .i64 (totL (ls.take j) : Nat)) (fun _ jv => N - (intOf jv).toNat)
  case atStart => exact ⟨0, rfl, Nat.zero_le _, rfl⟩
  case round =>
    obtain ⟨j, rfl, hjle, rfl⟩ := hrel
    by_cases hlt : j < N
    · have hlt2 : (j : Int) < (N : Int) := by omega
      obtain ⟨h, l, e1, e2, c0, hnl, _, _⟩ := unhide HA0 j hlt
      have hts := totL_succ e2
      have htb := unhide HTT (j + 1)
      rw [hts] at htb
      rw [hnl] at c0
      have hw : wrap64 ((totL (ls.take j) : Int) + (l.length : Int)) = ((totL (ls.take j) + l.length : Nat) : Int) := by unfold wrap64; omega
      have hneg : ¬ (((totL (ls.take j) + l.length : Nat) : Int) < 0) := by omega
      have HTS := hide hts
      clear e1 e2 hnl hts
      go_wp2_with fail
      go_round
      case rel => exact ⟨j + 1, by go_num, by omega, by rw [unhide HTS]; simp⟩
      case measure => simp [intOf]; omega
    · obtain rfl : j = N := by omega
      have hTl := unhide HTT j
      have CG := hide (grow_any (totL (ls.take j)) hTl w)
      clear HA0
      go_wp2_with (go_at_call 46; refine (unhide CG).mono ?_; rintro e w2 ⟨v2, rfl, hr2, hb2⟩; have HF2 := hide (show Fs w w2 v2 ((ls.take 0).flatten) from ⟨hr2, hb2⟩); clear hr2 hb2 CG)
      go_loopw [6, 27] (fun sv kv wr => ∃ k : Nat, kv = .int .i64 k ∧ k ≤ j ∧ Hid (Fs w wr sv (ls.take k).flatten)) (fun _ kv _ => j - (intOf kv).toNat)
      case atStart => exact ⟨0, rfl, Nat.zero_le _, HF2⟩
      case round =>
        clear HF2
        obtain ⟨k, rfl, hkle, HF⟩ := hrel
        have hf := unhide HF
        by_cases hlk : k < j
        · have hlk2 : (k : Int) < (j : Int) := by omega
          obtain ⟨h, l, e1, e2, c0, hnl, hnil, hnw⟩ := unhide HAT wr hf.bw k hlk
          have hE := flat_succ e2
          have htb := unhide HTT (k + 1)
          have hL1 : (ls.take k).flatten.length + l.length ≤ 549755813888 := by
            rw [← List.length_append, ← hE, flat_len]
            exact htb
          have HE := hide hE
          have hbz := hf.bw.size
          rw [hnl] at c0
          clear e1 e2 hE htb hnl
          obtain ⟨ha, hn9, hc9⟩ := h
          simp only at c0 hnil hnw
          generalize (ls.take k).flatten = m at *
          cases ha with
          | none =>
            obtain ⟨hl0, rfl⟩ := hnil rfl
            subst hl0
            have HE2 := hide (show (ls.take (k + 1)).flatten = m from by rw [unhide HE, List.append_nil])
            have c00 : wr.cell? ⟨B, k, none⟩ = some (.slice none 0 0) := c0
            clear c0 hnw hnil HE
            go_wp2_with (at_builtin; go_must (refine wpList_append_own_none rfl _ _ 56 rfl w.heap.size 59 i0 6 Tryz.underlying56 hi _ _ _ rfl hf.row rfl ?_))
            go_roundw
            case rel => exact ⟨k + 1, by go_num, by omega, by rw [unhide HE2]; exact HF⟩
            case measure => simp [intOf]; omega
          | some ad =>
            have HNW := hide (hnw ad rfl)
            clear hnw hnil
            go_wp2_with (at_builtin; go_must (refine wpList_append_own _ rfl _ _ 56 rfl w.heap.size 59 i0 (.agg #[.int .i64 0, .string ⟨#[]⟩, .string ⟨#[]⟩, .int .i64 0, .string ⟨#[]⟩, .string ⟨#[]⟩]) 6 80 Tryz.underlying56 hi hz0 hz1 hz2 rfl (by decide) _ _ _ rfl hf.row ad l.length hc9 (ftC l) rfl (ftC_len l) (unhide HNW) (one_ftC l) (by unfold maxLen; omega) (by omega) hbz ?_); intro v' w9 hown hgrow _; have HF9 := hide (hf.more hown hgrow); clear hown hgrow)
            go_roundw
            case rel => exact ⟨k + 1, by go_num, by omega, by rw [unhide HE]; exact HF9⟩
            case measure => simp [intOf]; omega
        · obtain rfl : k = j := by omega
          go_wp2_with fail
          go_ret
          refine ⟨_, rfl, ?_, hf.bw⟩
          have := hf.row
          rw [← unhide HLN, List.take_length] at this
          exact this
end Go.Proofs.YtjnbnndocinicaaGreatDoor
namespace Go.Proofs.YtjnbnndocinicaaGreatDoor
open Go.RowKit Go.Maps

/-- ALL FAULTS OF A PACKAGE. -/
def ftA (ps : List Pk) (p : Nat) (q : Pk) : List Ft := twF ps p q ++ unF ps p q ++ cfJ ps p q q.cf.length ++ paJ ps p q q.fs.length
set_option maxRecDepth 100000 in
set_option maxHeartbeats 8000000 in
theorem rgE {Q : Exit → Act → World → Prop} {ps : List Pk} {p : Nat} {q : Pk} {B : Nat} {c0 c1 c2 c3 c4 : Value} {W : World} (hQ : ∀ c (d : Option Tmp) v a w, Q (.panic c) (a.put d v) w → Q (.panic c) a w)
    (hS : ∀ X, RowKit.Below W.heap.size W X → X.cell? ⟨B, 0, none⟩ = some c0 ∧ X.cell? ⟨B, 1, none⟩ = some c1 ∧ X.cell? ⟨B, 2, none⟩ = some c2 ∧ X.cell? ⟨B, 3, none⟩ = some c3 ∧ X.cell? ⟨B, 4, none⟩ = some c4)
    (C2 : ∀ X, RowKit.Below W.heap.size W X → Calls Tryz.prog 33 #[.agg #[c0, c1, c2, c3, c4], .int .i64 (p : Int)] X fun e w' => ∃ r, e = .returned r ∧ w'.ownsRow X.heap.size 59 6 r (twF ps p q).length (ftC (twF ps p q)) ∧ RowKit.Below X.heap.size X w')
    (C5 : ∀ X, RowKit.Below W.heap.size W X → Calls Tryz.prog 34 #[.agg #[c0, c1, c2, c3, c4], .int .i64 (p : Int)] X fun e w' => ∃ r, e = .returned r ∧ w'.ownsRow X.heap.size 59 6 r (unF ps p q).length (ftC (unF ps p q)) ∧ RowKit.Below X.heap.size X w')
    (C8 : ∀ X, RowKit.Below W.heap.size W X → Calls Tryz.prog 35 #[.agg #[c0, c1, c2, c3, c4], .int .i64 (p : Int)] X fun e w' => ∃ r, e = .returned r ∧ w'.ownsRow X.heap.size 59 6 r (cfJ ps p q q.cf.length).length (ftC (cfJ ps p q q.cf.length)) ∧ RowKit.Below X.heap.size X w')
    (C11 : ∀ X, RowKit.Below W.heap.size W X → Calls Tryz.prog 36 #[.agg #[c0, c1, c2, c3, c4], .int .i64 (p : Int)] X fun e w' => ∃ r, e = .returned r ∧ w'.ownsRow X.heap.size 59 6 r (paJ ps p q q.fs.length).length (ftC (paJ ps p q q.fs.length)) ∧ RowKit.Below X.heap.size X w')
    (htot : (twF ps p q).length + (unF ps p q).length + (cfJ ps p q q.cf.length).length + (paJ ps p q q.fs.length).length ≤ 549755813888)
    (KEY : ∀ (a2 : Option Addr) (n2 k2 : Nat) (a5 : Option Addr) (n5 k5 : Nat) (a8 : Option Addr) (n8 k8 : Nat) (a11 : Option Addr) (n11 k11 : Nat) (G : Nat) (r : Value) (X : World), (∃ lo, W.heap.size ≤ lo ∧ X.ownsRow lo 59 6 r (ftA ps p q).length (ftC (ftA ps p q))) → RowKit.Below W.heap.size W X → Q .normal { tmps := #[.agg #[c0, c1, c2, c3, c4], .int .i64 (p : Int), .pointer (some ⟨B, 0, none⟩), undef, r, .agg #[c0, c1, c2, c3, c4], .int .i64 (p : Int), .slice a2 n2 k2, .agg #[c0, c1, c2, c3, c4], .int .i64 (p : Int), .slice a5 n5 k5, .agg #[c0, c1, c2, c3, c4], .int .i64 (p : Int), .slice a8 n8 k8, .agg #[c0, c1, c2, c3, c4], .int .i64 (p : Int), .slice a11 n11 k11, .slice (some ⟨G, 0, none⟩) 4 4, r], defers := [] } X) :
    (Code.region 1 #[{ dst := some 5, op := Op.load 62 (Operand.tmp 2), type := 62, pos := "check.go:33", after := #[], guard := none }, { dst := some 6, op := Op.move (Operand.tmp 1), type := 3, pos := "check.go:33", after := #[], guard := none }, { dst := some 7, op := Op.call { callee := Callee.value (Operand.func 33), args := #[Operand.tmp 5, Operand.tmp 6], argTypes := #[62, 3] }, type := 56, pos := "check.go:33", after := #[{ on := 0, ground := Ground.data }, { on := 1, ground := Ground.data }], guard := none }, { dst := some 8, op := Op.load 62 (Operand.tmp 2), type := 62, pos := "check.go:33", after := #[], guard := none }, { dst := some 9, op := Op.move (Operand.tmp 1), type := 3, pos := "check.go:33", after := #[], guard := none }, { dst := some 10, op := Op.call { callee := Callee.value (Operand.func 34), args := #[Operand.tmp 8, Operand.tmp 9], argTypes := #[62, 3] }, type := 56, pos := "check.go:33", after := #[{ on := 3, ground := Ground.data }, { on := 4, ground := Ground.data }, { on := 2, ground := Ground.chain }], guard := none }, { dst := some 11, op := Op.load 62 (Operand.tmp 2), type := 62, pos := "check.go:33", after := #[], guard := none }, { dst := some 12, op := Op.move (Operand.tmp 1), type := 3, pos := "check.go:33", after := #[], guard := none }, { dst := some 13, op := Op.call { callee := Callee.value (Operand.func 35), args := #[Operand.tmp 11, Operand.tmp 12], argTypes := #[62, 3] }, type := 56, pos := "check.go:33", after := #[{ on := 6, ground := Ground.data }, { on := 7, ground := Ground.data }, { on := 5, ground := Ground.chain }], guard := none }, { dst := some 14, op := Op.load 62 (Operand.tmp 2), type := 62, pos := "check.go:33", after := #[], guard := none }, { dst := some 15, op := Op.move (Operand.tmp 1), type := 3, pos := "check.go:33", after := #[], guard := none }, { dst := some 16, op := Op.call { callee := Callee.value (Operand.func 36), args := #[Operand.tmp 14, Operand.tmp 15], argTypes := #[62, 3] }, type := 56, pos := "check.go:33", after := #[{ on := 9, ground := Ground.data }, { on := 10, ground := Ground.data }, { on := 8, ground := Ground.chain }], guard := none }, { dst := some 17, op := Op.buildSlice 100 4 #[(0, Operand.tmp 7), (1, Operand.tmp 10), (2, Operand.tmp 13), (3, Operand.tmp 16)], type := 100, pos := "check.go:33", after := #[{ on := 2, ground := Ground.data }, { on := 5, ground := Ground.data }, { on := 8, ground := Ground.data }, { on := 11, ground := Ground.data }], guard := none }, { dst := some 18, op := Op.call { callee := Callee.value (Operand.func 32), args := #[Operand.tmp 17], argTypes := #[100] }, type := 56, pos := "check.go:33", after := #[{ on := 12, ground := Ground.data }, { on := 11, ground := Ground.chain }], guard := none }, { dst := some 4, op := Op.assign (Operand.tmp 18), type := 56, pos := "check.go:33", after := #[{ on := 13, ground := Ground.data }, { on := 13, ground := Ground.chain }, { on := 0, ground := Ground.phase }, { on := 1, ground := Ground.phase }, { on := 2, ground := Ground.phase }, { on := 3, ground := Ground.phase }, { on := 4, ground := Ground.phase }, { on := 5, ground := Ground.phase }, { on := 6, ground := Ground.phase }, { on := 7, ground := Ground.phase }, { on := 8, ground := Ground.phase }, { on := 9, ground := Ground.phase }, { on := 10, ground := Ground.phase }, { on := 11, ground := Ground.phase }, { on := 12, ground := Ground.phase }, { on := 13, ground := Ground.phase }], guard := none }] true).wp Tryz.prog Q { tmps := #[.agg #[c0, c1, c2, c3, c4], .int .i64 (p : Int), .pointer (some ⟨B, 0, none⟩), undef, .slice none 0 0, undef, undef, undef, undef, undef, undef, undef, undef, undef, undef, undef, undef, undef, undef], defers := [] } W := by
  have HS := hide hS
  have HT := hide htot
  have HKEY := hide KEY
  have H2 := hide C2
  have H5 := hide C5
  have H8 := hide C8
  have H11 := hide C11
  clear hS htot KEY C2 C5 C8 C11
  have B0 := hide ((Below.refl W.heap.size W).drew)
  have S2_5_8_11 := hide (show ∀ (X : World) (a2 : Option Addr) (n2 k2 : Nat) (a5 : Option Addr) (n5 k5 : Nat) (a8 : Option Addr) (n8 k8 : Nat) (a11 : Option Addr) (n11 k11 : Nat), RowKit.Below W.heap.size W X → (∃ lo, X.ownsRow lo 59 6 (.slice a2 n2 k2) (twF ps p q).length (ftC (twF ps p q))) → (∃ lo, X.ownsRow lo 59 6 (.slice a5 n5 k5) (unF ps p q).length (ftC (unF ps p q))) → (∃ lo, X.ownsRow lo 59 6 (.slice a8 n8 k8) (cfJ ps p q q.cf.length).length (ftC (cfJ ps p q q.cf.length))) → (∃ lo, X.ownsRow lo 59 6 (.slice a11 n11 k11) (paJ ps p q q.fs.length).length (ftC (paJ ps p q q.fs.length))) → wpAnyH Tryz.prog .any #[{ dst := some 5, op := Op.load 62 (Operand.tmp 2), type := 62, pos := "check.go:33", after := #[], guard := none }, { dst := some 6, op := Op.move (Operand.tmp 1), type := 3, pos := "check.go:33", after := #[], guard := none }, { dst := some 7, op := Op.call { callee := Callee.value (Operand.func 33), args := #[Operand.tmp 5, Operand.tmp 6], argTypes := #[62, 3] }, type := 56, pos := "check.go:33", after := #[{ on := 0, ground := Ground.data }, { on := 1, ground := Ground.data }], guard := none }, { dst := some 8, op := Op.load 62 (Operand.tmp 2), type := 62, pos := "check.go:33", after := #[], guard := none }, { dst := some 9, op := Op.move (Operand.tmp 1), type := 3, pos := "check.go:33", after := #[], guard := none }, { dst := some 10, op := Op.call { callee := Callee.value (Operand.func 34), args := #[Operand.tmp 8, Operand.tmp 9], argTypes := #[62, 3] }, type := 56, pos := "check.go:33", after := #[{ on := 3, ground := Ground.data }, { on := 4, ground := Ground.data }, { on := 2, ground := Ground.chain }], guard := none }, { dst := some 11, op := Op.load 62 (Operand.tmp 2), type := 62, pos := "check.go:33", after := #[], guard := none }, { dst := some 12, op := Op.move (Operand.tmp 1), type := 3, pos := "check.go:33", after := #[], guard := none }, { dst := some 13, op := Op.call { callee := Callee.value (Operand.func 35), args := #[Operand.tmp 11, Operand.tmp 12], argTypes := #[62, 3] }, type := 56, pos := "check.go:33", after := #[{ on := 6, ground := Ground.data }, { on := 7, ground := Ground.data }, { on := 5, ground := Ground.chain }], guard := none }, { dst := some 14, op := Op.load 62 (Operand.tmp 2), type := 62, pos := "check.go:33", after := #[], guard := none }, { dst := some 15, op := Op.move (Operand.tmp 1), type := 3, pos := "check.go:33", after := #[], guard := none }, { dst := some 16, op := Op.call { callee := Callee.value (Operand.func 36), args := #[Operand.tmp 14, Operand.tmp 15], argTypes := #[62, 3] }, type := 56, pos := "check.go:33", after := #[{ on := 9, ground := Ground.data }, { on := 10, ground := Ground.data }, { on := 8, ground := Ground.chain }], guard := none }, { dst := some 17, op := Op.buildSlice 100 4 #[(0, Operand.tmp 7), (1, Operand.tmp 10), (2, Operand.tmp 13), (3, Operand.tmp 16)], type := 100, pos := "check.go:33", after := #[{ on := 2, ground := Ground.data }, { on := 5, ground := Ground.data }, { on := 8, ground := Ground.data }, { on := 11, ground := Ground.data }], guard := none }, { dst := some 18, op := Op.call { callee := Callee.value (Operand.func 32), args := #[Operand.tmp 17], argTypes := #[100] }, type := 56, pos := "check.go:33", after := #[{ on := 12, ground := Ground.data }, { on := 11, ground := Ground.chain }], guard := none }, { dst := some 4, op := Op.assign (Operand.tmp 18), type := 56, pos := "check.go:33", after := #[{ on := 13, ground := Ground.data }, { on := 13, ground := Ground.chain }, { on := 0, ground := Ground.phase }, { on := 1, ground := Ground.phase }, { on := 2, ground := Ground.phase }, { on := 3, ground := Ground.phase }, { on := 4, ground := Ground.phase }, { on := 5, ground := Ground.phase }, { on := 6, ground := Ground.phase }, { on := 7, ground := Ground.phase }, { on := 8, ground := Ground.phase }, { on := 9, ground := Ground.phase }, { on := 10, ground := Ground.phase }, { on := 11, ground := Ground.phase }, { on := 12, ground := Ground.phase }, { on := 13, ground := Ground.phase }], guard := none }] Q (fun w' => w'.cell? ⟨B, 0, none⟩ = some c0 ∧ w'.cell? ⟨B, 1, none⟩ = some c1 ∧ w'.cell? ⟨B, 2, none⟩ = some c2 ∧ w'.cell? ⟨B, 3, none⟩ = some c3 ∧ w'.cell? ⟨B, 4, none⟩ = some c4) 3 #[true, true, true, true, true, true, true, true, true, true, true, true, false, false, false] { tmps := #[.agg #[c0, c1, c2, c3, c4], .int .i64 (p : Int), .pointer (some ⟨B, 0, none⟩), undef, .slice none 0 0, .agg #[c0, c1, c2, c3, c4], .int .i64 (p : Int), .slice a2 n2 k2, .agg #[c0, c1, c2, c3, c4], .int .i64 (p : Int), .slice a5 n5 k5, .agg #[c0, c1, c2, c3, c4], .int .i64 (p : Int), .slice a8 n8 k8, .agg #[c0, c1, c2, c3, c4], .int .i64 (p : Int), .slice a11 n11 k11, undef, undef], defers := [] } X from fun X a2 n2 k2 a5 n5 k5 a8 n8 k8 a11 n11 k11 hX h2 h5 h8 h11 => by
    have hHeld := unhide HS X hX
    refine wpAnyH_ready (rs := [12]) (by kernel_rfl) (by simp) ?_
    refine AllReadyH.cons (o := { dst := some 17, op := Op.buildSlice 100 4 #[(0, Operand.tmp 7), (1, Operand.tmp 10), (2, Operand.tmp 13), (3, Operand.tmp 16)], type := 100, pos := "check.go:33", after := #[{ on := 2, ground := Ground.data }, { on := 5, ground := Ground.data }, { on := 8, ground := Ground.data }, { on := 11, ground := Ground.data }], guard := none }) rfl (fun K hK => ?_) AllReadyH.nil
    go_simp
    obtain ⟨Y, hY⟩ : ∃ Y, Y = X.alloc (.cells #[.slice a2 n2 k2, .slice a5 n5 k5, .slice a8 n8 k8, .slice a11 n11 k11] 56) := ⟨_, rfl⟩
    have hbY : RowKit.Below X.heap.size X Y := by rw [hY]; exact (Below.refl _ X).alloc (Nat.le_refl _) _
    have hXY := bl_t hX hbY
    have hYb : Y.heap[X.heap.size]? = some (.cells (([⟨a2, n2, k2⟩, ⟨a5, n5, k5⟩, ⟨a8, n8, k8⟩, ⟨a11, n11, k11⟩] : List Hd).map hv).toArray 56 (0, 0)) := by rw [hY]; exact World.alloc_heap_new X _
    have g2 : ∃ lo, Y.ownsRow lo 59 6 (.slice a2 n2 k2) (twF ps p q).length (ftC (twF ps p q)) := let ⟨lo, h⟩ := h2; ⟨lo, own_same h fun b e => hbY.block b (World.ownsRow.lt h b e).2⟩
    have g5 : ∃ lo, Y.ownsRow lo 59 6 (.slice a5 n5 k5) (unF ps p q).length (ftC (unF ps p q)) := let ⟨lo, h⟩ := h5; ⟨lo, own_same h fun b e => hbY.block b (World.ownsRow.lt h b e).2⟩
    have g8 : ∃ lo, Y.ownsRow lo 59 6 (.slice a8 n8 k8) (cfJ ps p q q.cf.length).length (ftC (cfJ ps p q q.cf.length)) := let ⟨lo, h⟩ := h8; ⟨lo, own_same h fun b e => hbY.block b (World.ownsRow.lt h b e).2⟩
    have g11 : ∃ lo, Y.ownsRow lo 59 6 (.slice a11 n11 k11) (paJ ps p q q.fs.length).length (ftC (paJ ps p q q.fs.length)) := let ⟨lo, h⟩ := h11; ⟨lo, own_same h fun b e => hbY.block b (World.ownsRow.lt h b e).2⟩
    rw [← hY]
    refine hK.out _ _ (unhide HS Y hXY) (fun _ => ?_)
    clear hK K hHeld hY
    try simp only [List.setIfInBounds_toArray, List.set_cons_zero, List.set_cons_succ]
    have CC := concat_any (w := Y) (B := X.heap.size) (hs := [⟨a2, n2, k2⟩, ⟨a5, n5, k5⟩, ⟨a8, n8, k8⟩, ⟨a11, n11, k11⟩]) (ls := [twF ps p q, unF ps p q, cfJ ps p q q.cf.length, paJ ps p q q.fs.length]) rfl hYb (fun i h l e1 e2 => by
      match i, e1, e2 with
      | 0, e1, e2 => cases e1; cases e2; exact g2
      | 1, e1, e2 => cases e1; cases e2; exact g5
      | 2, e1, e2 => cases e1; cases e2; exact g8
      | 3, e1, e2 => cases e1; cases e2; exact g11
      | (j + 4), e1, e2 => simp at e1) (show 4 ≤ 1000 by decide) (by have := unhide HT; simp [totL]; omega)
    refine wpAnyH_ready (rs := [13]) (by kernel_rfl) (by simp) ?_
    refine AllReadyH.cons (o := { dst := some 18, op := Op.call { callee := Callee.value (Operand.func 32), args := #[Operand.tmp 17], argTypes := #[100] }, type := 56, pos := "check.go:33", after := #[{ on := 12, ground := Ground.data }, { on := 11, ground := Ground.chain }], guard := none }) rfl (fun K hK => ?_) AllReadyH.nil
    go_simp
    refine Calls.mono CC ?_
    rintro e Z ⟨r, rfl, hrow, hbZ⟩
    have hXZ := bl_t hXY hbZ
    have hfin : ∃ lo, W.heap.size ≤ lo ∧ Z.ownsRow lo 59 6 r (ftA ps p q).length (ftC (ftA ps p q)) := ⟨Y.heap.size, hXY.size, by
      rw [show ftA ps p q = List.flatten [twF ps p q, unF ps p q, cfJ ps p q q.cf.length, paJ ps p q q.fs.length] from by simp [ftA]]
      exact hrow⟩
    refine hK.out _ _ (unhide HS Z hXZ) (fun _ => ?_)
    clear hK K CC
    try simp only [List.setIfInBounds_toArray, List.set_cons_zero, List.set_cons_succ]
    refine wpAnyH_ready (rs := [14]) (by kernel_rfl) (by simp) ?_
    refine AllReadyH.cons (o := { dst := some 4, op := Op.assign (Operand.tmp 18), type := 56, pos := "check.go:33", after := #[{ on := 13, ground := Ground.data }, { on := 13, ground := Ground.chain }, { on := 0, ground := Ground.phase }, { on := 1, ground := Ground.phase }, { on := 2, ground := Ground.phase }, { on := 3, ground := Ground.phase }, { on := 4, ground := Ground.phase }, { on := 5, ground := Ground.phase }, { on := 6, ground := Ground.phase }, { on := 7, ground := Ground.phase }, { on := 8, ground := Ground.phase }, { on := 9, ground := Ground.phase }, { on := 10, ground := Ground.phase }, { on := 11, ground := Ground.phase }, { on := 12, ground := Ground.phase }, { on := 13, ground := Ground.phase }], guard := none }) rfl (fun K hK => ?_) AllReadyH.nil
    go_simp
    refine hK.out _ _ (unhide HS Z hXZ) (fun _ => ?_)
    clear hK K
    try simp only [List.setIfInBounds_toArray, List.set_cons_zero, List.set_cons_succ]
    refine wpAnyH_done (by kernel_rfl) ?_ _
    exact unhide HKEY a2 n2 k2 a5 n5 k5 a8 n8 k8 a11 n11 k11 X.heap.size r Z hfin hXZ)
  have S2_5_8 := hide (show ∀ (X : World) (a2 : Option Addr) (n2 k2 : Nat) (a5 : Option Addr) (n5 k5 : Nat) (a8 : Option Addr) (n8 k8 : Nat), RowKit.Below W.heap.size W X → (∃ lo, X.ownsRow lo 59 6 (.slice a2 n2 k2) (twF ps p q).length (ftC (twF ps p q))) → (∃ lo, X.ownsRow lo 59 6 (.slice a5 n5 k5) (unF ps p q).length (ftC (unF ps p q))) → (∃ lo, X.ownsRow lo 59 6 (.slice a8 n8 k8) (cfJ ps p q q.cf.length).length (ftC (cfJ ps p q q.cf.length))) → wpAnyH Tryz.prog .any #[{ dst := some 5, op := Op.load 62 (Operand.tmp 2), type := 62, pos := "check.go:33", after := #[], guard := none }, { dst := some 6, op := Op.move (Operand.tmp 1), type := 3, pos := "check.go:33", after := #[], guard := none }, { dst := some 7, op := Op.call { callee := Callee.value (Operand.func 33), args := #[Operand.tmp 5, Operand.tmp 6], argTypes := #[62, 3] }, type := 56, pos := "check.go:33", after := #[{ on := 0, ground := Ground.data }, { on := 1, ground := Ground.data }], guard := none }, { dst := some 8, op := Op.load 62 (Operand.tmp 2), type := 62, pos := "check.go:33", after := #[], guard := none }, { dst := some 9, op := Op.move (Operand.tmp 1), type := 3, pos := "check.go:33", after := #[], guard := none }, { dst := some 10, op := Op.call { callee := Callee.value (Operand.func 34), args := #[Operand.tmp 8, Operand.tmp 9], argTypes := #[62, 3] }, type := 56, pos := "check.go:33", after := #[{ on := 3, ground := Ground.data }, { on := 4, ground := Ground.data }, { on := 2, ground := Ground.chain }], guard := none }, { dst := some 11, op := Op.load 62 (Operand.tmp 2), type := 62, pos := "check.go:33", after := #[], guard := none }, { dst := some 12, op := Op.move (Operand.tmp 1), type := 3, pos := "check.go:33", after := #[], guard := none }, { dst := some 13, op := Op.call { callee := Callee.value (Operand.func 35), args := #[Operand.tmp 11, Operand.tmp 12], argTypes := #[62, 3] }, type := 56, pos := "check.go:33", after := #[{ on := 6, ground := Ground.data }, { on := 7, ground := Ground.data }, { on := 5, ground := Ground.chain }], guard := none }, { dst := some 14, op := Op.load 62 (Operand.tmp 2), type := 62, pos := "check.go:33", after := #[], guard := none }, { dst := some 15, op := Op.move (Operand.tmp 1), type := 3, pos := "check.go:33", after := #[], guard := none }, { dst := some 16, op := Op.call { callee := Callee.value (Operand.func 36), args := #[Operand.tmp 14, Operand.tmp 15], argTypes := #[62, 3] }, type := 56, pos := "check.go:33", after := #[{ on := 9, ground := Ground.data }, { on := 10, ground := Ground.data }, { on := 8, ground := Ground.chain }], guard := none }, { dst := some 17, op := Op.buildSlice 100 4 #[(0, Operand.tmp 7), (1, Operand.tmp 10), (2, Operand.tmp 13), (3, Operand.tmp 16)], type := 100, pos := "check.go:33", after := #[{ on := 2, ground := Ground.data }, { on := 5, ground := Ground.data }, { on := 8, ground := Ground.data }, { on := 11, ground := Ground.data }], guard := none }, { dst := some 18, op := Op.call { callee := Callee.value (Operand.func 32), args := #[Operand.tmp 17], argTypes := #[100] }, type := 56, pos := "check.go:33", after := #[{ on := 12, ground := Ground.data }, { on := 11, ground := Ground.chain }], guard := none }, { dst := some 4, op := Op.assign (Operand.tmp 18), type := 56, pos := "check.go:33", after := #[{ on := 13, ground := Ground.data }, { on := 13, ground := Ground.chain }, { on := 0, ground := Ground.phase }, { on := 1, ground := Ground.phase }, { on := 2, ground := Ground.phase }, { on := 3, ground := Ground.phase }, { on := 4, ground := Ground.phase }, { on := 5, ground := Ground.phase }, { on := 6, ground := Ground.phase }, { on := 7, ground := Ground.phase }, { on := 8, ground := Ground.phase }, { on := 9, ground := Ground.phase }, { on := 10, ground := Ground.phase }, { on := 11, ground := Ground.phase }, { on := 12, ground := Ground.phase }, { on := 13, ground := Ground.phase }], guard := none }] Q (fun w' => w'.cell? ⟨B, 0, none⟩ = some c0 ∧ w'.cell? ⟨B, 1, none⟩ = some c1 ∧ w'.cell? ⟨B, 2, none⟩ = some c2 ∧ w'.cell? ⟨B, 3, none⟩ = some c3 ∧ w'.cell? ⟨B, 4, none⟩ = some c4) 4 #[true, true, true, true, true, true, true, true, true, true, true, false, false, false, false] { tmps := #[.agg #[c0, c1, c2, c3, c4], .int .i64 (p : Int), .pointer (some ⟨B, 0, none⟩), undef, .slice none 0 0, .agg #[c0, c1, c2, c3, c4], .int .i64 (p : Int), .slice a2 n2 k2, .agg #[c0, c1, c2, c3, c4], .int .i64 (p : Int), .slice a5 n5 k5, .agg #[c0, c1, c2, c3, c4], .int .i64 (p : Int), .slice a8 n8 k8, .agg #[c0, c1, c2, c3, c4], .int .i64 (p : Int), undef, undef, undef], defers := [] } X from fun X a2 n2 k2 a5 n5 k5 a8 n8 k8 hX h2 h5 h8 => by
    have hHeld := unhide HS X hX
    refine wpAnyH_ready (rs := [11]) (by kernel_rfl) (by simp) ?_
    refine AllReadyH.cons (o := { dst := some 16, op := Op.call { callee := Callee.value (Operand.func 36), args := #[Operand.tmp 14, Operand.tmp 15], argTypes := #[62, 3] }, type := 56, pos := "check.go:33", after := #[{ on := 9, ground := Ground.data }, { on := 10, ground := Ground.data }, { on := 8, ground := Ground.chain }], guard := none }) rfl (fun K hK => ?_) ?_
    · go_simp
      refine (unhide H11 X hX).mono ?_
      rintro e X2 ⟨r, rfl, hrow, hb⟩
      obtain ⟨⟨ra, rn, rk⟩, rfl, _⟩ := slice_hd hrow
      have hX2 := bl_t hX hb
      refine hK.out _ _ (unhide HS X2 hX2) (fun _ => ?_)
      clear hK K hHeld
      try simp only [hv, List.setIfInBounds_toArray, List.set_cons_zero, List.set_cons_succ]
      exact unhide S2_5_8_11 X2 a2 n2 k2 a5 n5 k5 a8 n8 k8 ra rn rk hX2 (let ⟨lo, h⟩ := h2; ⟨lo, own_same h fun b e => hb.block b (World.ownsRow.lt h b e).2⟩) (let ⟨lo, h⟩ := h5; ⟨lo, own_same h fun b e => hb.block b (World.ownsRow.lt h b e).2⟩) (let ⟨lo, h⟩ := h8; ⟨lo, own_same h fun b e => hb.block b (World.ownsRow.lt h b e).2⟩) ⟨_, hrow⟩
    exact AllReadyH.nil)
  have S2_5 := hide (show ∀ (X : World) (a2 : Option Addr) (n2 k2 : Nat) (a5 : Option Addr) (n5 k5 : Nat), RowKit.Below W.heap.size W X → (∃ lo, X.ownsRow lo 59 6 (.slice a2 n2 k2) (twF ps p q).length (ftC (twF ps p q))) → (∃ lo, X.ownsRow lo 59 6 (.slice a5 n5 k5) (unF ps p q).length (ftC (unF ps p q))) → wpAnyH Tryz.prog .any #[{ dst := some 5, op := Op.load 62 (Operand.tmp 2), type := 62, pos := "check.go:33", after := #[], guard := none }, { dst := some 6, op := Op.move (Operand.tmp 1), type := 3, pos := "check.go:33", after := #[], guard := none }, { dst := some 7, op := Op.call { callee := Callee.value (Operand.func 33), args := #[Operand.tmp 5, Operand.tmp 6], argTypes := #[62, 3] }, type := 56, pos := "check.go:33", after := #[{ on := 0, ground := Ground.data }, { on := 1, ground := Ground.data }], guard := none }, { dst := some 8, op := Op.load 62 (Operand.tmp 2), type := 62, pos := "check.go:33", after := #[], guard := none }, { dst := some 9, op := Op.move (Operand.tmp 1), type := 3, pos := "check.go:33", after := #[], guard := none }, { dst := some 10, op := Op.call { callee := Callee.value (Operand.func 34), args := #[Operand.tmp 8, Operand.tmp 9], argTypes := #[62, 3] }, type := 56, pos := "check.go:33", after := #[{ on := 3, ground := Ground.data }, { on := 4, ground := Ground.data }, { on := 2, ground := Ground.chain }], guard := none }, { dst := some 11, op := Op.load 62 (Operand.tmp 2), type := 62, pos := "check.go:33", after := #[], guard := none }, { dst := some 12, op := Op.move (Operand.tmp 1), type := 3, pos := "check.go:33", after := #[], guard := none }, { dst := some 13, op := Op.call { callee := Callee.value (Operand.func 35), args := #[Operand.tmp 11, Operand.tmp 12], argTypes := #[62, 3] }, type := 56, pos := "check.go:33", after := #[{ on := 6, ground := Ground.data }, { on := 7, ground := Ground.data }, { on := 5, ground := Ground.chain }], guard := none }, { dst := some 14, op := Op.load 62 (Operand.tmp 2), type := 62, pos := "check.go:33", after := #[], guard := none }, { dst := some 15, op := Op.move (Operand.tmp 1), type := 3, pos := "check.go:33", after := #[], guard := none }, { dst := some 16, op := Op.call { callee := Callee.value (Operand.func 36), args := #[Operand.tmp 14, Operand.tmp 15], argTypes := #[62, 3] }, type := 56, pos := "check.go:33", after := #[{ on := 9, ground := Ground.data }, { on := 10, ground := Ground.data }, { on := 8, ground := Ground.chain }], guard := none }, { dst := some 17, op := Op.buildSlice 100 4 #[(0, Operand.tmp 7), (1, Operand.tmp 10), (2, Operand.tmp 13), (3, Operand.tmp 16)], type := 100, pos := "check.go:33", after := #[{ on := 2, ground := Ground.data }, { on := 5, ground := Ground.data }, { on := 8, ground := Ground.data }, { on := 11, ground := Ground.data }], guard := none }, { dst := some 18, op := Op.call { callee := Callee.value (Operand.func 32), args := #[Operand.tmp 17], argTypes := #[100] }, type := 56, pos := "check.go:33", after := #[{ on := 12, ground := Ground.data }, { on := 11, ground := Ground.chain }], guard := none }, { dst := some 4, op := Op.assign (Operand.tmp 18), type := 56, pos := "check.go:33", after := #[{ on := 13, ground := Ground.data }, { on := 13, ground := Ground.chain }, { on := 0, ground := Ground.phase }, { on := 1, ground := Ground.phase }, { on := 2, ground := Ground.phase }, { on := 3, ground := Ground.phase }, { on := 4, ground := Ground.phase }, { on := 5, ground := Ground.phase }, { on := 6, ground := Ground.phase }, { on := 7, ground := Ground.phase }, { on := 8, ground := Ground.phase }, { on := 9, ground := Ground.phase }, { on := 10, ground := Ground.phase }, { on := 11, ground := Ground.phase }, { on := 12, ground := Ground.phase }, { on := 13, ground := Ground.phase }], guard := none }] Q (fun w' => w'.cell? ⟨B, 0, none⟩ = some c0 ∧ w'.cell? ⟨B, 1, none⟩ = some c1 ∧ w'.cell? ⟨B, 2, none⟩ = some c2 ∧ w'.cell? ⟨B, 3, none⟩ = some c3 ∧ w'.cell? ⟨B, 4, none⟩ = some c4) 5 #[true, true, true, true, true, true, true, true, false, true, true, false, false, false, false] { tmps := #[.agg #[c0, c1, c2, c3, c4], .int .i64 (p : Int), .pointer (some ⟨B, 0, none⟩), undef, .slice none 0 0, .agg #[c0, c1, c2, c3, c4], .int .i64 (p : Int), .slice a2 n2 k2, .agg #[c0, c1, c2, c3, c4], .int .i64 (p : Int), .slice a5 n5 k5, .agg #[c0, c1, c2, c3, c4], .int .i64 (p : Int), undef, .agg #[c0, c1, c2, c3, c4], .int .i64 (p : Int), undef, undef, undef], defers := [] } X from fun X a2 n2 k2 a5 n5 k5 hX h2 h5 => by
    have hHeld := unhide HS X hX
    refine wpAnyH_ready (rs := [8]) (by kernel_rfl) (by simp) ?_
    refine AllReadyH.cons (o := { dst := some 13, op := Op.call { callee := Callee.value (Operand.func 35), args := #[Operand.tmp 11, Operand.tmp 12], argTypes := #[62, 3] }, type := 56, pos := "check.go:33", after := #[{ on := 6, ground := Ground.data }, { on := 7, ground := Ground.data }, { on := 5, ground := Ground.chain }], guard := none }) rfl (fun K hK => ?_) ?_
    · go_simp
      refine (unhide H8 X hX).mono ?_
      rintro e X2 ⟨r, rfl, hrow, hb⟩
      obtain ⟨⟨ra, rn, rk⟩, rfl, _⟩ := slice_hd hrow
      have hX2 := bl_t hX hb
      refine hK.out _ _ (unhide HS X2 hX2) (fun _ => ?_)
      clear hK K hHeld
      try simp only [hv, List.setIfInBounds_toArray, List.set_cons_zero, List.set_cons_succ]
      exact unhide S2_5_8 X2 a2 n2 k2 a5 n5 k5 ra rn rk hX2 (let ⟨lo, h⟩ := h2; ⟨lo, own_same h fun b e => hb.block b (World.ownsRow.lt h b e).2⟩) (let ⟨lo, h⟩ := h5; ⟨lo, own_same h fun b e => hb.block b (World.ownsRow.lt h b e).2⟩) ⟨_, hrow⟩
    exact AllReadyH.nil)
  have S2 := hide (show ∀ (X : World) (a2 : Option Addr) (n2 k2 : Nat), RowKit.Below W.heap.size W X → (∃ lo, X.ownsRow lo 59 6 (.slice a2 n2 k2) (twF ps p q).length (ftC (twF ps p q))) → wpAnyH Tryz.prog .any #[{ dst := some 5, op := Op.load 62 (Operand.tmp 2), type := 62, pos := "check.go:33", after := #[], guard := none }, { dst := some 6, op := Op.move (Operand.tmp 1), type := 3, pos := "check.go:33", after := #[], guard := none }, { dst := some 7, op := Op.call { callee := Callee.value (Operand.func 33), args := #[Operand.tmp 5, Operand.tmp 6], argTypes := #[62, 3] }, type := 56, pos := "check.go:33", after := #[{ on := 0, ground := Ground.data }, { on := 1, ground := Ground.data }], guard := none }, { dst := some 8, op := Op.load 62 (Operand.tmp 2), type := 62, pos := "check.go:33", after := #[], guard := none }, { dst := some 9, op := Op.move (Operand.tmp 1), type := 3, pos := "check.go:33", after := #[], guard := none }, { dst := some 10, op := Op.call { callee := Callee.value (Operand.func 34), args := #[Operand.tmp 8, Operand.tmp 9], argTypes := #[62, 3] }, type := 56, pos := "check.go:33", after := #[{ on := 3, ground := Ground.data }, { on := 4, ground := Ground.data }, { on := 2, ground := Ground.chain }], guard := none }, { dst := some 11, op := Op.load 62 (Operand.tmp 2), type := 62, pos := "check.go:33", after := #[], guard := none }, { dst := some 12, op := Op.move (Operand.tmp 1), type := 3, pos := "check.go:33", after := #[], guard := none }, { dst := some 13, op := Op.call { callee := Callee.value (Operand.func 35), args := #[Operand.tmp 11, Operand.tmp 12], argTypes := #[62, 3] }, type := 56, pos := "check.go:33", after := #[{ on := 6, ground := Ground.data }, { on := 7, ground := Ground.data }, { on := 5, ground := Ground.chain }], guard := none }, { dst := some 14, op := Op.load 62 (Operand.tmp 2), type := 62, pos := "check.go:33", after := #[], guard := none }, { dst := some 15, op := Op.move (Operand.tmp 1), type := 3, pos := "check.go:33", after := #[], guard := none }, { dst := some 16, op := Op.call { callee := Callee.value (Operand.func 36), args := #[Operand.tmp 14, Operand.tmp 15], argTypes := #[62, 3] }, type := 56, pos := "check.go:33", after := #[{ on := 9, ground := Ground.data }, { on := 10, ground := Ground.data }, { on := 8, ground := Ground.chain }], guard := none }, { dst := some 17, op := Op.buildSlice 100 4 #[(0, Operand.tmp 7), (1, Operand.tmp 10), (2, Operand.tmp 13), (3, Operand.tmp 16)], type := 100, pos := "check.go:33", after := #[{ on := 2, ground := Ground.data }, { on := 5, ground := Ground.data }, { on := 8, ground := Ground.data }, { on := 11, ground := Ground.data }], guard := none }, { dst := some 18, op := Op.call { callee := Callee.value (Operand.func 32), args := #[Operand.tmp 17], argTypes := #[100] }, type := 56, pos := "check.go:33", after := #[{ on := 12, ground := Ground.data }, { on := 11, ground := Ground.chain }], guard := none }, { dst := some 4, op := Op.assign (Operand.tmp 18), type := 56, pos := "check.go:33", after := #[{ on := 13, ground := Ground.data }, { on := 13, ground := Ground.chain }, { on := 0, ground := Ground.phase }, { on := 1, ground := Ground.phase }, { on := 2, ground := Ground.phase }, { on := 3, ground := Ground.phase }, { on := 4, ground := Ground.phase }, { on := 5, ground := Ground.phase }, { on := 6, ground := Ground.phase }, { on := 7, ground := Ground.phase }, { on := 8, ground := Ground.phase }, { on := 9, ground := Ground.phase }, { on := 10, ground := Ground.phase }, { on := 11, ground := Ground.phase }, { on := 12, ground := Ground.phase }, { on := 13, ground := Ground.phase }], guard := none }] Q (fun w' => w'.cell? ⟨B, 0, none⟩ = some c0 ∧ w'.cell? ⟨B, 1, none⟩ = some c1 ∧ w'.cell? ⟨B, 2, none⟩ = some c2 ∧ w'.cell? ⟨B, 3, none⟩ = some c3 ∧ w'.cell? ⟨B, 4, none⟩ = some c4) 6 #[true, true, true, true, true, false, true, true, false, true, true, false, false, false, false] { tmps := #[.agg #[c0, c1, c2, c3, c4], .int .i64 (p : Int), .pointer (some ⟨B, 0, none⟩), undef, .slice none 0 0, .agg #[c0, c1, c2, c3, c4], .int .i64 (p : Int), .slice a2 n2 k2, .agg #[c0, c1, c2, c3, c4], .int .i64 (p : Int), undef, .agg #[c0, c1, c2, c3, c4], .int .i64 (p : Int), undef, .agg #[c0, c1, c2, c3, c4], .int .i64 (p : Int), undef, undef, undef], defers := [] } X from fun X a2 n2 k2 hX h2 => by
    have hHeld := unhide HS X hX
    refine wpAnyH_ready (rs := [5]) (by kernel_rfl) (by simp) ?_
    refine AllReadyH.cons (o := { dst := some 10, op := Op.call { callee := Callee.value (Operand.func 34), args := #[Operand.tmp 8, Operand.tmp 9], argTypes := #[62, 3] }, type := 56, pos := "check.go:33", after := #[{ on := 3, ground := Ground.data }, { on := 4, ground := Ground.data }, { on := 2, ground := Ground.chain }], guard := none }) rfl (fun K hK => ?_) ?_
    · go_simp
      refine (unhide H5 X hX).mono ?_
      rintro e X2 ⟨r, rfl, hrow, hb⟩
      obtain ⟨⟨ra, rn, rk⟩, rfl, _⟩ := slice_hd hrow
      have hX2 := bl_t hX hb
      refine hK.out _ _ (unhide HS X2 hX2) (fun _ => ?_)
      clear hK K hHeld
      try simp only [hv, List.setIfInBounds_toArray, List.set_cons_zero, List.set_cons_succ]
      exact unhide S2_5 X2 a2 n2 k2 ra rn rk hX2 (let ⟨lo, h⟩ := h2; ⟨lo, own_same h fun b e => hb.block b (World.ownsRow.lt h b e).2⟩) ⟨_, hrow⟩
    exact AllReadyH.nil)
  have S0 := hide (show ∀ (X : World) , RowKit.Below W.heap.size W X → wpAnyH Tryz.prog .any #[{ dst := some 5, op := Op.load 62 (Operand.tmp 2), type := 62, pos := "check.go:33", after := #[], guard := none }, { dst := some 6, op := Op.move (Operand.tmp 1), type := 3, pos := "check.go:33", after := #[], guard := none }, { dst := some 7, op := Op.call { callee := Callee.value (Operand.func 33), args := #[Operand.tmp 5, Operand.tmp 6], argTypes := #[62, 3] }, type := 56, pos := "check.go:33", after := #[{ on := 0, ground := Ground.data }, { on := 1, ground := Ground.data }], guard := none }, { dst := some 8, op := Op.load 62 (Operand.tmp 2), type := 62, pos := "check.go:33", after := #[], guard := none }, { dst := some 9, op := Op.move (Operand.tmp 1), type := 3, pos := "check.go:33", after := #[], guard := none }, { dst := some 10, op := Op.call { callee := Callee.value (Operand.func 34), args := #[Operand.tmp 8, Operand.tmp 9], argTypes := #[62, 3] }, type := 56, pos := "check.go:33", after := #[{ on := 3, ground := Ground.data }, { on := 4, ground := Ground.data }, { on := 2, ground := Ground.chain }], guard := none }, { dst := some 11, op := Op.load 62 (Operand.tmp 2), type := 62, pos := "check.go:33", after := #[], guard := none }, { dst := some 12, op := Op.move (Operand.tmp 1), type := 3, pos := "check.go:33", after := #[], guard := none }, { dst := some 13, op := Op.call { callee := Callee.value (Operand.func 35), args := #[Operand.tmp 11, Operand.tmp 12], argTypes := #[62, 3] }, type := 56, pos := "check.go:33", after := #[{ on := 6, ground := Ground.data }, { on := 7, ground := Ground.data }, { on := 5, ground := Ground.chain }], guard := none }, { dst := some 14, op := Op.load 62 (Operand.tmp 2), type := 62, pos := "check.go:33", after := #[], guard := none }, { dst := some 15, op := Op.move (Operand.tmp 1), type := 3, pos := "check.go:33", after := #[], guard := none }, { dst := some 16, op := Op.call { callee := Callee.value (Operand.func 36), args := #[Operand.tmp 14, Operand.tmp 15], argTypes := #[62, 3] }, type := 56, pos := "check.go:33", after := #[{ on := 9, ground := Ground.data }, { on := 10, ground := Ground.data }, { on := 8, ground := Ground.chain }], guard := none }, { dst := some 17, op := Op.buildSlice 100 4 #[(0, Operand.tmp 7), (1, Operand.tmp 10), (2, Operand.tmp 13), (3, Operand.tmp 16)], type := 100, pos := "check.go:33", after := #[{ on := 2, ground := Ground.data }, { on := 5, ground := Ground.data }, { on := 8, ground := Ground.data }, { on := 11, ground := Ground.data }], guard := none }, { dst := some 18, op := Op.call { callee := Callee.value (Operand.func 32), args := #[Operand.tmp 17], argTypes := #[100] }, type := 56, pos := "check.go:33", after := #[{ on := 12, ground := Ground.data }, { on := 11, ground := Ground.chain }], guard := none }, { dst := some 4, op := Op.assign (Operand.tmp 18), type := 56, pos := "check.go:33", after := #[{ on := 13, ground := Ground.data }, { on := 13, ground := Ground.chain }, { on := 0, ground := Ground.phase }, { on := 1, ground := Ground.phase }, { on := 2, ground := Ground.phase }, { on := 3, ground := Ground.phase }, { on := 4, ground := Ground.phase }, { on := 5, ground := Ground.phase }, { on := 6, ground := Ground.phase }, { on := 7, ground := Ground.phase }, { on := 8, ground := Ground.phase }, { on := 9, ground := Ground.phase }, { on := 10, ground := Ground.phase }, { on := 11, ground := Ground.phase }, { on := 12, ground := Ground.phase }, { on := 13, ground := Ground.phase }], guard := none }] Q (fun w' => w'.cell? ⟨B, 0, none⟩ = some c0 ∧ w'.cell? ⟨B, 1, none⟩ = some c1 ∧ w'.cell? ⟨B, 2, none⟩ = some c2 ∧ w'.cell? ⟨B, 3, none⟩ = some c3 ∧ w'.cell? ⟨B, 4, none⟩ = some c4) 7 #[true, true, false, true, true, false, true, true, false, true, true, false, false, false, false] { tmps := #[.agg #[c0, c1, c2, c3, c4], .int .i64 (p : Int), .pointer (some ⟨B, 0, none⟩), undef, .slice none 0 0, .agg #[c0, c1, c2, c3, c4], .int .i64 (p : Int), undef, .agg #[c0, c1, c2, c3, c4], .int .i64 (p : Int), undef, .agg #[c0, c1, c2, c3, c4], .int .i64 (p : Int), undef, .agg #[c0, c1, c2, c3, c4], .int .i64 (p : Int), undef, undef, undef], defers := [] } X from fun X  hX  => by
    have hHeld := unhide HS X hX
    refine wpAnyH_ready (rs := [2]) (by kernel_rfl) (by simp) ?_
    refine AllReadyH.cons (o := { dst := some 7, op := Op.call { callee := Callee.value (Operand.func 33), args := #[Operand.tmp 5, Operand.tmp 6], argTypes := #[62, 3] }, type := 56, pos := "check.go:33", after := #[{ on := 0, ground := Ground.data }, { on := 1, ground := Ground.data }], guard := none }) rfl (fun K hK => ?_) ?_
    · go_simp
      refine (unhide H2 X hX).mono ?_
      rintro e X2 ⟨r, rfl, hrow, hb⟩
      obtain ⟨⟨ra, rn, rk⟩, rfl, _⟩ := slice_hd hrow
      have hX2 := bl_t hX hb
      refine hK.out _ _ (unhide HS X2 hX2) (fun _ => ?_)
      clear hK K hHeld
      try simp only [hv, List.setIfInBounds_toArray, List.set_cons_zero, List.set_cons_succ]
      exact unhide S2 X2 ra rn rk hX2 ⟨_, hrow⟩
    exact AllReadyH.nil)
  refine wp_region_held_drew (S := fun w' => w'.cell? ⟨B, 0, none⟩ = some c0 ∧ w'.cell? ⟨B, 1, none⟩ = some c1 ∧ w'.cell? ⟨B, 2, none⟩ = some c2 ∧ w'.cell? ⟨B, 3, none⟩ = some c3 ∧ w'.cell? ⟨B, 4, none⟩ = some c4) (by kernel_rfl) (unhide HS _ (unhide B0)) (fun hHeld => ?_)
  refine wpAnyH_take (i := 0) (oi := { dst := some 5, op := Op.load 62 (Operand.tmp 2), type := 62, pos := "check.go:33", after := #[], guard := none }) (v := ?_) rfl (by kernel_rfl) (by kernel_rfl) (by kernel_rfl) (fun c a w h => hQ c _ _ a w h) (Or.inl ⟨by rfl, ?_⟩) (by assumption) ?_
  rotate_left
  · intro w hSw; (try dsimp only at hSw); go_simp; (try with_reducible rfl)
  try simp only [Act.put, List.setIfInBounds_toArray, List.set_cons_zero, List.set_cons_succ]
  refine wpAnyH_take (i := 1) (oi := { dst := some 6, op := Op.move (Operand.tmp 1), type := 3, pos := "check.go:33", after := #[], guard := none }) (v := ?_) rfl (by kernel_rfl) (by kernel_rfl) (by kernel_rfl) (fun c a w h => hQ c _ _ a w h) (Or.inl ⟨by rfl, ?_⟩) (by assumption) ?_
  rotate_left
  · intro w hSw; (try dsimp only at hSw); go_simp; (try with_reducible rfl)
  try simp only [Act.put, List.setIfInBounds_toArray, List.set_cons_zero, List.set_cons_succ]
  refine wpAnyH_take (i := 3) (oi := { dst := some 8, op := Op.load 62 (Operand.tmp 2), type := 62, pos := "check.go:33", after := #[], guard := none }) (v := ?_) rfl (by kernel_rfl) (by kernel_rfl) (by kernel_rfl) (fun c a w h => hQ c _ _ a w h) (Or.inl ⟨by rfl, ?_⟩) (by assumption) ?_
  rotate_left
  · intro w hSw; (try dsimp only at hSw); go_simp; (try with_reducible rfl)
  try simp only [Act.put, List.setIfInBounds_toArray, List.set_cons_zero, List.set_cons_succ]
  refine wpAnyH_take (i := 4) (oi := { dst := some 9, op := Op.move (Operand.tmp 1), type := 3, pos := "check.go:33", after := #[], guard := none }) (v := ?_) rfl (by kernel_rfl) (by kernel_rfl) (by kernel_rfl) (fun c a w h => hQ c _ _ a w h) (Or.inl ⟨by rfl, ?_⟩) (by assumption) ?_
  rotate_left
  · intro w hSw; (try dsimp only at hSw); go_simp; (try with_reducible rfl)
  try simp only [Act.put, List.setIfInBounds_toArray, List.set_cons_zero, List.set_cons_succ]
  refine wpAnyH_take (i := 6) (oi := { dst := some 11, op := Op.load 62 (Operand.tmp 2), type := 62, pos := "check.go:33", after := #[], guard := none }) (v := ?_) rfl (by kernel_rfl) (by kernel_rfl) (by kernel_rfl) (fun c a w h => hQ c _ _ a w h) (Or.inl ⟨by rfl, ?_⟩) (by assumption) ?_
  rotate_left
  · intro w hSw; (try dsimp only at hSw); go_simp; (try with_reducible rfl)
  try simp only [Act.put, List.setIfInBounds_toArray, List.set_cons_zero, List.set_cons_succ]
  refine wpAnyH_take (i := 7) (oi := { dst := some 12, op := Op.move (Operand.tmp 1), type := 3, pos := "check.go:33", after := #[], guard := none }) (v := ?_) rfl (by kernel_rfl) (by kernel_rfl) (by kernel_rfl) (fun c a w h => hQ c _ _ a w h) (Or.inl ⟨by rfl, ?_⟩) (by assumption) ?_
  rotate_left
  · intro w hSw; (try dsimp only at hSw); go_simp; (try with_reducible rfl)
  try simp only [Act.put, List.setIfInBounds_toArray, List.set_cons_zero, List.set_cons_succ]
  refine wpAnyH_take (i := 9) (oi := { dst := some 14, op := Op.load 62 (Operand.tmp 2), type := 62, pos := "check.go:33", after := #[], guard := none }) (v := ?_) rfl (by kernel_rfl) (by kernel_rfl) (by kernel_rfl) (fun c a w h => hQ c _ _ a w h) (Or.inl ⟨by rfl, ?_⟩) (by assumption) ?_
  rotate_left
  · intro w hSw; (try dsimp only at hSw); go_simp; (try with_reducible rfl)
  try simp only [Act.put, List.setIfInBounds_toArray, List.set_cons_zero, List.set_cons_succ]
  refine wpAnyH_take (i := 10) (oi := { dst := some 15, op := Op.move (Operand.tmp 1), type := 3, pos := "check.go:33", after := #[], guard := none }) (v := ?_) rfl (by kernel_rfl) (by kernel_rfl) (by kernel_rfl) (fun c a w h => hQ c _ _ a w h) (Or.inl ⟨by rfl, ?_⟩) (by assumption) ?_
  rotate_left
  · intro w hSw; (try dsimp only at hSw); go_simp; (try with_reducible rfl)
  try simp only [Act.put, List.setIfInBounds_toArray, List.set_cons_zero, List.set_cons_succ]
  exact unhide S0 W.drew (unhide B0)
end Go.Proofs.YtjnbnndocinicaaGreatDoor
namespace Go.Proofs.YtjnbnndocinicaaGreatDoor
open Go.RowKit Go.Maps

theorem ftA_len (ps : List Pk) (p : Nat) (q : Pk) (hp : p ≤ ps.length) : (ftA ps p q).length ≤ ps.length + (q.dp.length + q.pr.length) + q.cf.length * ps.length + q.fs.length := by
  unfold ftA
  rw [List.length_append, List.length_append, List.length_append]
  have h1 := twF_len ps p q
  have h2 := unF_len ps p q
  have h3 := cfJ_len ps p q q.cf.length
  have h4 := paJ_len ps p q q.fs.length
  omega
def ftL (ps : List Pk) : Nat → List Ft
  | 0 => []
  | i + 1 => ftL ps i ++ (match ps[i]? with | some q => ftA ps i q | none => [])
theorem ftL_len (ps : List Pk) : ∀ n, n ≤ ps.length → (ftL ps n).length ≤ n * ps.length + (((ps.take n).map fun p => p.dp.length).sum + ((ps.take n).map fun p => p.pr.length).sum) + ((ps.take n).map fun p => p.cf.length).sum * ps.length + ((ps.take n).map fun p => p.fs.length).sum
  | 0, _ => Nat.zero_le _
  | n + 1, hn => by
    have ih := ftL_len ps n (by omega)
    obtain ⟨q, hq⟩ : ∃ q, ps[n]? = some q := ⟨_, List.getElem?_eq_getElem (by omega)⟩
    have hA := ftA_len ps n q (by omega)
    have e : ∀ f : Pk → Nat, ((ps.take (n + 1)).map f).sum = ((ps.take n).map f).sum + f q := fun f => by
      rw [List.take_add_one, hq, List.map_append, List.sum_append]
      simp
    rw [e, e, e, e, Nat.add_mul, Nat.add_mul, Nat.one_mul]
    unfold ftL
    rw [hq, List.length_append]
    simp only
    omega
theorem ftL_all {ps : List Pk} (sm : SmP ps) {n : Nat} (hn : n ≤ ps.length) : (ftL ps n).length ≤ 549755813888 := by
  have h := ftL_len ps n hn
  have hd := Nat.le_trans (sum_take_le (fun p : Pk => p.dp.length) ps n) sm.sd
  have hr := Nat.le_trans (sum_take_le (fun p : Pk => p.pr.length) ps n) sm.sr
  have hc := Nat.le_trans (sum_take_le (fun p : Pk => p.cf.length) ps n) sm.sc
  have hf := Nat.le_trans (sum_take_le (fun p : Pk => p.fs.length) ps n) sm.sf
  have hl := sm.l
  have h1 : n * ps.length ≤ 262144 * 262144 := Nat.mul_le_mul (by omega) hl
  have h2 : ((ps.take n).map fun p => p.cf.length).sum * ps.length ≤ 1048576 * 262144 := Nat.mul_le_mul hc hl
  omega
set_option maxRecDepth 100000 in
set_option maxHeartbeats 4000000 in
theorem faultsAt_any {w : World} {v : Value} {b1 b2 b3 : Nat} {av : Value} {ps : List Pk} {p : Nat} {q : Pk} (sm : SmP ps) (ck : Ck w v b1 b2 b3 av ps) (hq : ps[p]? = some q) :
    Calls Tryz.prog 21 #[.agg #[v, .map (some b1), .map (some b2), av, .map (some b3)], .int .i64 (p : Int)] w fun e w' => ∃ r, e = .returned r ∧ w'.ownsRow w.heap.size 59 6 r (ftA ps p q).length (ftC (ftA ps p q)) ∧ RowKit.Below w.heap.size w w' := by
  obtain ⟨W1, hW1⟩ : ∃ W, W = w.alloc (.cells #[v, .map (some b1), .map (some b2), av, .map (some b3)] 62) := ⟨_, rfl⟩
  have hb1 : RowKit.Below w.heap.size w W1 := by rw [hW1]; exact (Below.refl _ w).alloc (Nat.le_refl _) _
  have hx1 : W1.heap[w.heap.size]? = some (.cells #[v, .map (some b1), .map (some b2), av, .map (some b3)] 62 (0, 0)) := by rw [hW1]; exact World.alloc_heap_new w _
  have hpl := (List.getElem?_eq_some_iff.1 hq).1
  have hmem := List.mem_of_getElem? hq
  have htot : (twF ps p q).length + (unF ps p q).length + (cfJ ps p q q.cf.length).length + (paJ ps p q q.fs.length).length ≤ 549755813888 := by
    have h1 := twF_len ps p q
    have h2 := unF_len ps p q
    have h3 := cfJ_len ps p q q.cf.length
    have h4 := paJ_len ps p q q.fs.length
    have hd := Nat.le_trans (le_sum (fun p : Pk => p.dp.length) hmem) sm.sd
    have hr := Nat.le_trans (le_sum (fun p : Pk => p.pr.length) hmem) sm.sr
    have hc := Nat.le_trans (le_sum (fun p : Pk => p.cf.length) hmem) sm.sc
    have hf := Nat.le_trans (le_sum (fun p : Pk => p.fs.length) hmem) sm.sf
    have hl := sm.l
    have h5 : q.cf.length * ps.length ≤ 1048576 * 262144 := Nat.mul_le_mul hc hl
    omega
  have HR := hide (And.intro hb1 hx1)
  have HC := hide (And.intro sm (And.intro ck (And.intro hq htot)))
  obtain ⟨va, vc, rfl⟩ : ∃ a c, v = .slice a ps.length c := let ⟨a, c, e, _⟩ := ck.pk; ⟨a, c, e⟩
  obtain ⟨ia, ic, rfl⟩ : ∃ a c, av = .slice a ps.length c := let ⟨a, c, e, _⟩ := ck.al; ⟨a, c, e⟩
  clear sm ck hq htot hb1 hx1 hpl hmem
  go_enter Tryz.func21, Tryz.ntmps21
  go_wp2_with fail
  rw [← hW1]
  obtain ⟨hb1, hx1⟩ := unhide HR
  obtain ⟨sm, ck, hq, htot⟩ := unhide HC
  refine rgE (W := W1) (ps := ps) (q := q) (fun c d v a w h => by cases d <;> exact h) (fun X hX => five ((hX.block _ (blk_lt hx1)).trans hx1)) (fun X hX => ?_) (fun X hX => ?_) (fun X hX => ?_) (fun X hX => ?_) htot (fun a2 n2 k2 a5 n5 k5 a8 n8 k8 a11 n11 k11 G r X hrow hX => ?_)
  · have c := ck.later (bl_t hb1 hX)
    obtain ⟨xs, base, H1, H2, k1, k2, s1, s2, s3, s4⟩ := c.st
    exact twice_any s3 s1 sm c.pk hq
  · have c := ck.later (bl_t hb1 hX)
    obtain ⟨xs, base, H1, H2, k1, k2, s1, s2, s3, s4⟩ := c.st
    exact unmet_any s3 s4 s2 s1 sm c.pk c.al hq
  · have c := ck.later (bl_t hb1 hX)
    obtain ⟨xs, base, H1, H2, k1, k2, s1, s2, s3, s4⟩ := c.st
    exact conflicts_any s3 s4 s2 s1 sm c.pk hq
  · have c := ck.later (bl_t hb1 hX)
    obtain ⟨k, hk⟩ := c.fs
    exact paths_any hk sm c.pk hq
  · have HF := hide (And.intro hrow hX)
    have HB1 := hide hb1
    clear hrow hX sm ck hq htot hb1 hx1 hW1
    go_wp2_with fail
    go_ret
    obtain ⟨⟨lo, hlo, hrow⟩, hX⟩ := unhide HF
    exact ⟨_, rfl, row_lo2 hrow (Nat.le_trans (unhide HB1).size hlo), bl_t (unhide HB1) hX⟩
end Go.Proofs.YtjnbnndocinicaaGreatDoor
namespace Go.Proofs.YtjnbnndocinicaaGreatDoor
open Go.RowKit Go.Maps

theorem ftL_succ {ps : List Pk} {i : Nat} {q : Pk} (h : ps[i]? = some q) : ftL ps (i + 1) = ftL ps i ++ ftA ps i q := by rw [ftL, h]
/-- THE BOX OF THE CHECK. -/
theorem box_ck {w1 : World} {v : Value} {b1 b2 b3 : Nat} {av : Value} {ps : List Pk} (ck : Ck w1 v b1 b2 b3 av ps) : Ck (w1.alloc (.cells #[v, .map (some b1), .map (some b2), av, .map (some b3)] 62)) v b1 b2 b3 av ps ∧ (w1.alloc (.cells #[v, .map (some b1), .map (some b2), av, .map (some b3)] 62)).heap[w1.heap.size]? = some (.cells #[v, .map (some b1), .map (some b2), av, .map (some b3)] 62 (0, 0)) ∧ RowKit.Below w1.heap.size w1 (w1.alloc (.cells #[v, .map (some b1), .map (some b2), av, .map (some b3)] 62)) :=
  have hb := (Below.refl _ w1).alloc (Nat.le_refl _) (.cells #[v, .map (some b1), .map (some b2), av, .map (some b3)] 62)
  ⟨ck.later hb, World.alloc_heap_new w1 _, hb⟩
set_option maxRecDepth 100000 in
set_option maxHeartbeats 4000000 in
theorem Faults_any {w : World} {v : Value} {ps : List Pk} (sm : SmP ps) (pk : Pkl w v ps) :
    Calls Tryz.prog 19 #[v] w fun e w' => ∃ r, e = .returned r ∧ w'.ownsRow w.heap.size 59 6 r (ftL ps ps.length).length (ftC (ftL ps ps.length)) ∧ RowKit.Below w.heap.size w w' := by
  obtain ⟨i0, hi, hz0, hz1, hz2⟩ := info_parts2 infoFt
  obtain ⟨va, vc, rfl⟩ : ∃ a c, v = .slice a ps.length c := let ⟨a, c, e, _⟩ := pk; ⟨a, c, e⟩
  have C := hide (checkOf_any sm pk)
  have HSM := hide sm
  have hl := sm.l
  clear sm pk
  go_enter Tryz.func19, Tryz.ntmps19
  go_wp2_with (go_at_call 20; refine (unhide C).mono ?_; rintro e w1 ⟨b1, b2, b3, av, rfl, ck, hb1⟩; obtain ⟨ia, ic, rfl⟩ := (show ∃ a c, av = .slice a ps.length c from let ⟨a, c, e, _⟩ := ck.al; ⟨a, c, e⟩); have HC := hide (And.intro ck hb1); clear ck hb1 C)
  obtain ⟨W2, hW2⟩ : ∃ W, W = w1.alloc (.cells #[.slice va ps.length vc, .map (some b1), .map (some b2), .slice ia ps.length ic, .map (some b3)] 62) := ⟨_, rfl⟩
  have HBX := hide (show Ck W2 (.slice va ps.length vc) b1 b2 b3 (.slice ia ps.length ic) ps ∧ W2.heap[w1.heap.size]? = some (.cells #[.slice va ps.length vc, .map (some b1), .map (some b2), .slice ia ps.length ic, .map (some b3)] 62 (0, 0)) ∧ RowKit.Below w1.heap.size w1 W2 from by rw [hW2]; exact box_ck (unhide HC).1)
  have HST := hide (Fs.start W2)
  rw [← hW2]
  clear hW2
  go_loopw [4, 10] (fun sv iv wr => ∃ i : Nat, iv = .int .i64 i ∧ i ≤ ps.length ∧ Hid (Fs W2 wr sv (ftL ps i))) (fun _ iv _ => ps.length - (intOf iv).toNat)
  case atStart => exact ⟨0, rfl, Nat.zero_le _, HST⟩
  case round =>
    clear HST
    obtain ⟨i, rfl, hile, HF⟩ := hrel
    have hf := unhide HF
    by_cases hlt : i < ps.length
    · have hlt2 : (i : Int) < (ps.length : Int) := by omega
      obtain ⟨q, hq⟩ : ∃ q, ps[i]? = some q := ⟨_, List.getElem?_eq_getElem hlt⟩
      have e5 := (hf.bw.block _ (blk_lt (unhide HBX).2.1)).trans (unhide HBX).2.1
      obtain ⟨s0, s1, s2, s3, s4⟩ := five e5
      have CA := hide (faultsAt_any (unhide HSM) ((unhide HBX).1.later hf.bw) hq)
      have HE := hide (ftL_succ hq)
      have hL1 : (ftL ps i).length + (ftA ps i q).length ≤ 549755813888 := by
        rw [← List.length_append, ← ftL_succ hq]
        exact ftL_all (unhide HSM) (by omega)
      clear hq e5
      generalize ftL ps i = m at *
      generalize ftA ps i q = l at *
      go_wp2_with fail
      refine (unhide CA).mono ?_
      rintro e w5 ⟨r, rfl, hrow, hb5⟩
      have hf5 := hf.later hb5
      have hbz := hf5.bw.size
      have hnw : ∀ ad n c, r = .slice (some ad) n c → ∀ k u, (ftC l)[k]? = some u → w5.cell? (ad.add k) = some u := fun ad n c e k u hu => by
        rcases hrow.2 with ⟨q, q2⟩ | ⟨g, cap, cur, q, _, q3, _⟩
        · rw [e] at q; cases q
        · have hc := hrow.cells (g := g) (by rw [q]; rfl) k u hu
          rw [e] at q
          injection q with q _ _
          injection q with q
          subst q
          rw [Addr.add_mid, Nat.zero_add] at hc ⊢
          exact hc
      obtain ⟨⟨ra, rn, rk⟩, rfl, hrn⟩ := slice_hd hrow
      simp only at hrn
      subst hrn
      have HF5 := hide hf5
      clear CA hb5 s0 s1 s2 s3 s4 hf
      cases ra with
      | none =>
        have hl0 : l = [] ∧ rk = 0 := by
          rcases hrow.2 with ⟨q, q2⟩ | ⟨g, cap, cur, q, _⟩
          · unfold hv at q
            injection q with _ _ q
            exact ⟨List.length_eq_zero_iff.1 q2, q⟩
          · cases q
        obtain ⟨rfl, rfl⟩ := hl0
        have HE2 := hide (show ftL ps (i + 1) = m from by rw [unhide HE, List.append_nil])
        clear hrow hnw HE hf5
        unfold hv
        go_wp2_with (at_builtin; go_must (refine wpList_append_own_none rfl _ _ 56 rfl W2.heap.size 59 i0 6 Tryz.underlying56 hi _ _ _ rfl (unhide HF5).row rfl ?_))
        go_roundw
        case rel => exact ⟨i + 1, by go_num, by omega, by rw [unhide HE2]; exact HF5⟩
        case measure => simp [intOf]; omega
      | some ad =>
        have HNW := hide (hnw ad l.length rk rfl)
        clear hrow hnw hf5
        unfold hv
        go_wp2_with (at_builtin; go_must (refine wpList_append_own _ rfl _ _ 56 rfl W2.heap.size 59 i0 (.agg #[.int .i64 0, .string ⟨#[]⟩, .string ⟨#[]⟩, .int .i64 0, .string ⟨#[]⟩, .string ⟨#[]⟩]) 6 80 Tryz.underlying56 hi hz0 hz1 hz2 rfl (by decide) _ _ _ rfl (unhide HF5).row ad l.length rk (ftC l) rfl (ftC_len l) (unhide HNW) (one_ftC l) (by unfold maxLen; omega) (by omega) hbz ?_); intro v' w9 hown hgrow _; have HF9 := hide ((unhide HF5).more hown hgrow); clear hown hgrow)
        go_roundw
        case rel => exact ⟨i + 1, by go_num, by omega, by rw [unhide HE]; exact HF9⟩
        case measure => simp [intOf]; omega
    · obtain rfl : i = ps.length := by omega
      have HH := hide hf
      clear hf
      go_wp2_with fail
      go_ret
      have hf := unhide HH
      have hb := bl_t (unhide HC).2 (unhide HBX).2.2
      exact ⟨_, rfl, row_lo2 hf.row hb.size, bl_t hb hf.bw⟩
set_option maxRecDepth 100000 in
set_option maxHeartbeats 4000000 in
theorem Valid_any {w : World} {v : Value} {ps : List Pk} (sm : SmP ps) (pk : Pkl w v ps) :
    Calls Tryz.prog 10 #[v] w fun e w' => ∃ b : Bool, e = .returned (.bool b) ∧ (b = true ↔ ∀ i q, ps[i]? = some q → ftA ps i q = []) ∧ RowKit.Below w.heap.size w w' := by
  obtain ⟨va, vc, rfl⟩ : ∃ a c, v = .slice a ps.length c := let ⟨a, c, e, _⟩ := pk; ⟨a, c, e⟩
  have C := hide (checkOf_any sm pk)
  have HSM := hide sm
  have hl := sm.l
  clear sm pk
  go_enter Tryz.func10, Tryz.ntmps10
  go_wp2_with (go_at_call 20; refine (unhide C).mono ?_; rintro e w1 ⟨b1, b2, b3, av, rfl, ck, hb1⟩; obtain ⟨ia, ic, rfl⟩ := (show ∃ a c, av = .slice a ps.length c from let ⟨a, c, e, _⟩ := ck.al; ⟨a, c, e⟩); have HC := hide (And.intro ck hb1); clear ck hb1 C)
  obtain ⟨W2, hW2⟩ : ∃ W, W = w1.alloc (.cells #[.slice va ps.length vc, .map (some b1), .map (some b2), .slice ia ps.length ic, .map (some b3)] 62) := ⟨_, rfl⟩
  have HBX := hide (show Ck W2 (.slice va ps.length vc) b1 b2 b3 (.slice ia ps.length ic) ps ∧ W2.heap[w1.heap.size]? = some (.cells #[.slice va ps.length vc, .map (some b1), .map (some b2), .slice ia ps.length ic, .map (some b3)] 62 (0, 0)) ∧ RowKit.Below w1.heap.size w1 W2 from by rw [hW2]; exact box_ck (unhide HC).1)
  rw [← hW2]
  clear hW2
  go_loopw [9] (fun iv wr => ∃ i : Nat, iv = .int .i64 i ∧ i ≤ ps.length ∧ Hid (RowKit.Below W2.heap.size W2 wr ∧ ∀ k q, k < i → ps[k]? = some q → ftA ps k q = [])) (fun iv _ => ps.length - (intOf iv).toNat)
  case atStart => exact ⟨0, rfl, Nat.zero_le _, hide ⟨Below.refl _ _, fun k q h => absurd h (Nat.not_lt_zero _)⟩⟩
  case round =>
    obtain ⟨i, rfl, hile, HF⟩ := hrel
    have hbw := (unhide HF).1
    by_cases hlt : i < ps.length
    · have hlt2 : (i : Int) < (ps.length : Int) := by omega
      obtain ⟨q, hq⟩ : ∃ q, ps[i]? = some q := ⟨_, List.getElem?_eq_getElem hlt⟩
      have e5 := (hbw.block _ (blk_lt (unhide HBX).2.1)).trans (unhide HBX).2.1
      obtain ⟨s0, s1, s2, s3, s4⟩ := five e5
      have CA := hide (faultsAt_any (unhide HSM) ((unhide HBX).1.later hbw) hq)
      have HQ := hide hq
      have HBW := hide hbw
      clear hq e5 hbw
      go_wp2_with fail
      refine (unhide CA).mono ?_
      rintro e w5 ⟨r, rfl, hrow, hb5⟩
      obtain ⟨⟨ra, rn, rk⟩, rfl, hrn⟩ := slice_hd hrow
      simp only at hrn
      subst hrn
      have HB5 := hide (bl_t (unhide HBW) hb5)
      clear CA hb5 s0 s1 s2 s3 s4 hrow
      unfold hv
      by_cases h0 : ftA ps i q = []
      · have hg0 : (ftA ps i q).length = 0 := by rw [h0]; rfl
        rw [hg0]
        have HN := hide (show ∀ k q, k < i + 1 → ps[k]? = some q → ftA ps k q = [] from fun k q2 hk e => by
          by_cases ek : k = i
          · subst ek; rw [unhide HQ] at e; cases e; exact h0
          · exact (unhide HF).2 k q2 (by omega) e)
        clear h0 hg0
        go_wp2_with fail
        go_roundw
        case rel => exact ⟨i + 1, by go_num, by omega, hide ⟨unhide HB5, unhide HN⟩⟩
        case measure => simp [intOf]; omega
      · have hpos : ((ftA ps i q).length : Int) > 0 := by
          have : (ftA ps i q).length ≠ 0 := fun e => h0 (List.length_eq_zero_iff.1 e)
          omega
        have HX := hide (show ¬ ∀ i q, ps[i]? = some q → ftA ps i q = [] from fun h => h0 (h i q (unhide HQ)))
        clear h0
        generalize (ftA ps i q).length = n at *
        go_wp2_with fail
        go_ret
        exact ⟨false, rfl, ⟨fun h => (by cases h), fun h => absurd h (unhide HX)⟩, bl_t (bl_t (unhide HC).2 (unhide HBX).2.2) (unhide HB5)⟩
    · obtain rfl : i = ps.length := by omega
      have HH := hide hbw
      clear hbw
      go_wp2_with fail
      go_ret
      exact ⟨true, rfl, ⟨fun _ k q e => (unhide HF).2 k q (List.getElem?_eq_some_iff.1 e).1 e, fun _ => rfl⟩, bl_t (bl_t (unhide HC).2 (unhide HBX).2.2) (unhide HH)⟩
end Go.Proofs.YtjnbnndocinicaaGreatDoor
