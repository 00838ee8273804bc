import Derived.Test.YtdkpglmdncjnbaaGreatDoorZf12
namespace Go.Proofs.YtdkpglmdncjnbaaGreatDoor
section
open Go.RowKit Go.Maps Go.Shelf
attribute [local go_sem] Oper.semAt_some
attribute [local simp] wide_fn
attribute [local go_sem] wide_fn
def mt (ps : List Pd) (an : Nm) (op : Int) (bd : ByteArray) (p : Nat) : Bool := match ps[p]? with | some q => meetsA an op bd q.nm q.vr q.pl | none => false
def satL (ps : List Pd) (an : Nm) (op : Int) (bd : ByteArray) (P1 P2 : List Nat) : List Nat := (P1 ++ P2).filter (mt ps an op bd)
abbrev encI (p : Nat) : Array Value := #[.int .i64 (p : Int)]
theorem row_at {W wr : World} {base n c : Nat} {a : Option Addr} {l : List Nat} (h : W.ownsRow base 3 1 (.slice a n c) n (ints l)) (hb : RowKit.Below W.heap.size W wr) {j : Nat} (hj : j < l.length) : ∃ g, a = some ⟨g, 0, none⟩ ∧ wr.cell? ⟨g, j, none⟩ = some (.int .i64 (l[j] : Int)) := by
 rcases h.2 with ⟨e, q⟩ | ⟨g, cap, cur, e, _, hg, _⟩
 ·have := h.1
  rw [ints_len] at this
  omega
 ·injection e with e _ _
  subst e
  refine ⟨g, rfl, ?_⟩
  have := h.cells (g := g) rfl j (.int .i64 (l[j] : Int)) (by simp [ints, hj])
  rw [Addr.add_mid, Nat.zero_add] at this
  exact (hb.cell (p := ⟨g, j, none⟩) (blk_lt hg)).trans this
structure Sa (w : World) (Bs Ba : Nat) (v : Value) (b1 b2 : Nat) (an : Nm) (op : Int) (bd : ByteArray) (ps : List Pd) (base : Nat) (H1 H2 : Nm → Option Hd) (F1 F2 : Nm → List Nat) (k1 k2 : Nat) : Prop where
 s : w.heap[Bs]? = some (.cells #[v, .map (some b1), .map (some b2)] 62 (0, 0))
 a : w.heap[Ba]? = some (.cells #[.string an, .int .i64 op, .string bd] 48 (0, 0))
 m1 : Mi w base (.map (some b1)) H1 F1 k1
 m2 : Mi w base (.map (some b2)) H2 F2 k2
 pk : Pks w v ps
 pl : ∀ p ∈ F1 an ++ F2 an, p < ps.length
 an : an.size ≤ maxLen
 bd : bd.size ≤ maxLen
theorem info43 : (Tryz.prog.info? 46).map (·.size) = some 43 := by kernel_rfl
theorem ix0 (X : World) (s1 s2 : Value) : (Instr.index 150 (.agg #[s1, s2]) (.int .i64 0)).run Tryz.prog X = .ok s1 X := by
 simp [Instr.index, go_sem, run_underlying Tryz.underlying150]
theorem ix1 (X : World) (s1 s2 : Value) : (Instr.index 150 (.agg #[s1, s2]) (.int .i64 1)).run Tryz.prog X = .ok s2 X := by
 simp [Instr.index, go_sem, run_underlying Tryz.underlying150]
set_option maxRecDepth 100000 in
set_option maxHeartbeats 8000000 in
theorem sat_r (n : Nat) (_ : 1 ≤ n) {w : World} {Bs Ba : Nat} {v : Value} {b1 b2 : Nat} {an : Nm} {op : Int} {bd : ByteArray} {ps : List Pd} {base : Nat} {H1 H2 : Nm → Option Hd} {F1 F2 : Nm → List Nat} {k1 k2 : Nat} (h : Sa w Bs Ba v b1 b2 an op bd ps base H1 H2 F1 F2 k1 k2) (hl1 : (F1 an).length ≤ 1099511627776) (hl2 : (F2 an).length ≤ 1099511627776) :
 SeqR Fence.wide n Tryz.prog 102 #[.pointer (some ⟨Bs, 0, none⟩), .pointer (some ⟨Ba, 0, none⟩)] encI (satL ps an op bd (F1 an) (F2 an)) w := by
 intro l J Jx W hW hJd hY h0
 have hs := (hW.block _ (blk_lt h.s)).trans h.s
 have ha := (hW.block _ (blk_lt h.a)).trans h.a
 have m1 := h.m1.later hW
 have m2 := h.m2.later hW
 have pk := h.pk.later hW
 obtain ⟨va, vc, rfl⟩ : ∃ a c, v = .slice a ps.length c := let ⟨a, c, e, _⟩ := pk; ⟨a, c, e⟩
 have HAT := hide (show ∀ X : World, RowKit.Below W.heap.size W X → ∀ (p : Nat) (q : Pd), ps[p]? = some q → ∃ (b o : Nat), X.cell? ⟨Ba, 0, none⟩ = some (.string an) ∧ X.cell? ⟨Ba, 1, none⟩ = some (.int .i64 op) ∧ X.cell? ⟨Ba, 2, none⟩ = some (.string bd) ∧ X.cell? ⟨Bs, 0, none⟩ = some (.slice (some ⟨b, o, none⟩) ps.length vc) ∧ (p : Int) < (ps.length : Int) ∧ (Instr.loadAt 46 (.pointer (some ⟨b, o + p * 43, none⟩))).run Tryz.prog X = .ok (.agg q.cs.toArray) X ∧ Calls Tryz.prog 76 #[.agg #[.string an, .int .i64 op, .string bd], .agg q.cs.toArray] X fun e w' => e = .returned (.bool (meetsA an op bd q.nm q.vr q.pl)) ∧ RowKit.Below X.heap.size X w' from fun X hX p q hq => by
  have hs2 := (hX.block _ (blk_lt hs)).trans hs
  have ha2 := (hX.block _ (blk_lt ha)).trans ha
  have hpl := (List.getElem?_eq_some_iff.1 hq).1
  obtain ⟨a, c, e, qq⟩ := pk.later hX
  injection e with e _ _
  obtain ⟨b, o, q1, q2, q3⟩ := qq (by omega)
  obtain ⟨r1, r2, r3, r4⟩ := q3 p q hq
  refine ⟨b, o, (cell_blk ha2 0).1.trans rfl, (cell_blk ha2 1).1.trans rfl, (cell_blk ha2 2).1.trans rfl, ?_, by omega, ?_, ?_⟩
  ·rw [← q1, ← e]; exact (cell_blk hs2 0).1.trans rfl
  ·exact run_loadAt_mid X b (o + p * 43) 46 q.cs _ r1 Tryz.underlying46 rfl (by rw [r2.len]; exact info43)
  ·exact Meets_any an op bd q.nm q.vr q.pv q.pl q.cs h.bd r4 X r2 r3)
 have HPL := hide (show ∀ p ∈ F1 an ++ F2 an, ∃ q, ps[p]? = some q from fun p hp => ⟨_, List.getElem?_eq_getElem (h.pl p hp)⟩)
 have c0 := (cell_blk hs 0).1.trans (show #[Value.slice va ps.length vc, .map (some b1), .map (some b2)][0]? = some (.slice va ps.length vc) from rfl)
 have c1 := (cell_blk hs 1).1.trans (show #[Value.slice va ps.length vc, .map (some b1), .map (some b2)][1]? = some (.map (some b1)) from rfl)
 have c2 := (cell_blk hs 2).1.trans (show #[Value.slice va ps.length vc, .map (some b1), .map (some b2)][2]? = some (.map (some b2)) from rfl)
 have ca := (cell_blk ha 0).1.trans (show #[Value.string an, .int .i64 op, .string bd][0]? = some (.string an) from rfl)
 have lk1 := look1 m1.dm h.an
 have lk2 := look1 m2.dm h.an
 obtain ⟨a1, d1, e1⟩ : ∃ a c, hv0 (H1 an) = .slice a (F1 an).length c := by
  obtain ⟨f, e, en⟩ := slice_hd (m1.own an)
  exact ⟨f.a, f.c, by rw [e, ← en]; rfl⟩
 obtain ⟨a2, d2, e2⟩ : ∃ a c, hv0 (H2 an) = .slice a (F2 an).length c := by
  obtain ⟨f, e, en⟩ := slice_hd (m2.own an)
  exact ⟨f.a, f.c, by rw [e, ← en]; rfl⟩
 have o1 := m1.own an
 have o2 := m2.own an
 rw [e1] at lk1 o1
 rw [e2] at lk2 o2
 have HJ1 := hide (show J W ∧ RowKit.Below W.heap.size W W from ⟨h0, Below.refl _ _⟩)
 have HJD := hide hJd
 have HY := hide hY
 clear e1 e2 m1 m2 pk hs ha h h0 hJd hY hW
 generalize F1 an = P1 at *
 generalize F2 an = P2 at *
 obtain ⟨n1, hn1⟩ : ∃ x, x = P1.length := ⟨_, rfl⟩
 obtain ⟨n2, hn2⟩ : ∃ x, x = P2.length := ⟨_, rfl⟩
 rw [← hn1] at lk1 o1 hl1
 rw [← hn2] at lk2 o2 hl2
 have HN1 := hide hn1
 have HN2 := hide hn2
 have HR1 := hide o1
 have HR2 := hide o2
 clear hn1 hn2 o1 o2
 refine callsIn_of_wp Tryz.func102 rfl trivial ?_ rfl
 simp only [Tryz.ntmps102, List.size_toArray, List.length_cons, List.length_nil, Nat.reduceAdd, Nat.reduceSub, Array.replicate_succ, Array.replicate_zero, List.push_toArray, List.append_toArray, List.nil_append, List.cons_append]
 gi_wp2
 have hx0 := fun X => ix0 X (.slice a1 n1 d1) (.slice a2 n2 d2)
 have hx1 := fun X => ix1 X (.slice a1 n1 d1) (.slice a2 n2 d2)
 refine wpIn_loop_rounds 3 ?_
 rw [roundsIn_succ]
 clear lk1 lk2 c0 c1 c2 ca
 gi_wp2
 gi_loopw [7, 24] (fun _ jv wr => ∃ j : Nat, jv = .int .i64 j ∧ j ≤ n1 ∧ Hid (J wr ∧ RowKit.Below W.heap.size W wr) ∧ Hid (∀ i, i < j → ∀ p, P1[i]? = some p → mt ps an op bd p = false)) (fun _ jv _ => n1 - (intOf jv).toNat)
 case atStart => exact ⟨0, rfl, Nat.zero_le _, HJ1, hide fun i hi => absurd hi (Nat.not_lt_zero _)⟩
 case round =>
  clear HJ1
  obtain ⟨j, rfl, hjle, HJ, HNO⟩ := hrel
  by_cases hlt : j < n1
  ·have hlt2 : (j : Int) < (n1 : Int) := by omega
   have hjp : j < P1.length := by have := unhide HN1; omega
   have bwr := (unhide HJ).2
   obtain ⟨g, rfl, cg⟩ := row_at (unhide HR1) bwr hjp
   have hpm : P1[j]? = some P1[j] := List.getElem?_eq_getElem hjp
   generalize P1[j] = p at *
   obtain ⟨q, hq⟩ := unhide HPL p (by rw [List.mem_append]; exact .inl (List.mem_of_getElem? hpm))
   have bd2 : RowKit.Below W.heap.size W wr.drew := bl_t bwr (Below.refl _ wr).drew
   obtain ⟨pb, po, ha0, ha1, ha2, hs0, hpn, hld, hM⟩ := unhide HAT wr.drew bd2 p q hq
   have HM := hide hM
   have hmt : mt ps an op bd p = meetsA an op bd q.nm q.vr q.pl := by unfold mt; rw [hq]
   rw [← hmt] at HM
   have HPM := hide hpm
   clear hM hmt
   cases hb : mt ps an op bd p with
   | false =>
     rw [hb] at HM
     have HN2 := hide (show ∀ i, i < j + 1 → ∀ p, P1[i]? = some p → mt ps an op bd p = false from fun i hi p' e => by
      by_cases ei : i = j
      ·subst ei; rw [unhide HPM] at e; cases e; exact hb
      ·exact unhide HNO i (by omega) p' e)
     clear hb HNO
     gi_wp2
     refine wpIn_region_any (by kernel_rfl) ?_
     refine rg26f (fun c d v a w h => by cases d <;> exact h) ha0 ha1 ha2 hs0 hpn hld (unhide HM) ?_
     intro W3 hb3
     have HJ3 := hide (And.intro (unhide HJD _ _ (unhide HJ).1 (bl_t (Below.refl _ wr).drew hb3)) (bl_t bd2 hb3))
     clear ha0 ha1 ha2 hs0 hpn hld HM hb3 cg
     gi_wp2
     go_roundw
     case rel => exact ⟨j + 1, by go_num, by omega, HJ3, HN2⟩
     case measure => simp [intOf]; omega
   | true =>
     rw [hb] at HM
     have HIN := hide (show p ∈ satL ps an op bd P1 P2 from List.mem_filter.2 ⟨by rw [List.mem_append]; exact .inl (List.mem_of_getElem? (unhide HPM)), hb⟩)
     clear hb HNO
     gi_wp2
     refine wpIn_region_any (by kernel_rfl) ?_
     refine rg26t (fun c d v a w h => by cases d <;> exact h) ha0 ha1 ha2 hs0 hpn hld (unhide HM) (R := Jx p) (fun W2 hb2 => unhide HY p W2 (unhide HIN) (unhide HJD _ _ (unhide HJ).1 (bl_t (Below.refl _ wr).drew hb2))) ?_
     intro W3 hx3
     have HX := hide hx3
     clear ha0 ha1 ha2 hs0 hpn hld HM hx3 cg
     gi_wp2
     refine bodyPost_ret (results_none rfl _ _ _) rfl ?_
     exact ⟨⟨_, rfl⟩, .inr ⟨p, unhide HIN, unhide HX⟩⟩
  ·obtain rfl : j = n1 := by omega
   have HNA1 := hide (show ∀ p ∈ P1, mt ps an op bd p = false from fun p hp => by
    obtain ⟨i, hi, e⟩ := List.getElem_of_mem hp
    exact unhide HNO i (by have := unhide HN1; omega) p (by rw [List.getElem?_eq_getElem hi, e]))
   clear HNO
   have HJ2 := HJ
   clear HJ
   gi_wp2
   rw [roundsIn_succ]
   gi_wp2
   gi_loopw [7, 24] (fun _ jv wr => ∃ j : Nat, jv = .int .i64 j ∧ j ≤ n2 ∧ Hid (J wr ∧ RowKit.Below W.heap.size W wr) ∧ Hid (∀ i, i < j → ∀ p, P2[i]? = some p → mt ps an op bd p = false)) (fun _ jv _ => n2 - (intOf jv).toNat)
   case atStart => exact ⟨0, rfl, Nat.zero_le _, HJ2, hide fun i hi => absurd hi (Nat.not_lt_zero _)⟩
   case round =>
    clear HJ2
    obtain ⟨j, rfl, hjle, HJ, HNO⟩ := hrel
    by_cases hlt : j < n2
    ·have hlt2 : (j : Int) < (n2 : Int) := by omega
     have hjp : j < P2.length := by have := unhide HN2; omega
     have bwr := (unhide HJ).2
     obtain ⟨g, rfl, cg⟩ := row_at (unhide HR2) bwr hjp
     have hpm : P2[j]? = some P2[j] := List.getElem?_eq_getElem hjp
     generalize P2[j] = p at *
     obtain ⟨q, hq⟩ := unhide HPL p (by rw [List.mem_append]; exact .inr (List.mem_of_getElem? hpm))
     have bd2 : RowKit.Below W.heap.size W wr.drew := bl_t bwr (Below.refl _ wr).drew
     obtain ⟨pb, po, ha0, ha1, ha2, hs0, hpn, hld, hM⟩ := unhide HAT wr.drew bd2 p q hq
     have HM := hide hM
     have hmt : mt ps an op bd p = meetsA an op bd q.nm q.vr q.pl := by unfold mt; rw [hq]
     rw [← hmt] at HM
     have HPM := hide hpm
     clear hM hmt
     cases hb : mt ps an op bd p with
     | false =>
       rw [hb] at HM
       have HN2 := hide (show ∀ i, i < j + 1 → ∀ p, P2[i]? = some p → mt ps an op bd p = false from fun i hi p' e => by
        by_cases ei : i = j
        ·subst ei; rw [unhide HPM] at e; cases e; exact hb
        ·exact unhide HNO i (by omega) p' e)
       clear hb HNO
       gi_wp2
       refine wpIn_region_any (by kernel_rfl) ?_
       refine rg26f (fun c d v a w h => by cases d <;> exact h) ha0 ha1 ha2 hs0 hpn hld (unhide HM) ?_
       intro W3 hb3
       have HJ3 := hide (And.intro (unhide HJD _ _ (unhide HJ).1 (bl_t (Below.refl _ wr).drew hb3)) (bl_t bd2 hb3))
       clear ha0 ha1 ha2 hs0 hpn hld HM hb3 cg
       gi_wp2
       go_roundw
       case rel => exact ⟨j + 1, by go_num, by omega, HJ3, HN2⟩
       case measure => simp [intOf]; omega
     | true =>
       rw [hb] at HM
       have HIN := hide (show p ∈ satL ps an op bd P1 P2 from List.mem_filter.2 ⟨by rw [List.mem_append]; exact .inr (List.mem_of_getElem? (unhide HPM)), hb⟩)
       clear hb HNO
       gi_wp2
       refine wpIn_region_any (by kernel_rfl) ?_
       refine rg26t (fun c d v a w h => by cases d <;> exact h) ha0 ha1 ha2 hs0 hpn hld (unhide HM) (R := Jx p) (fun W2 hb2 => unhide HY p W2 (unhide HIN) (unhide HJD _ _ (unhide HJ).1 (bl_t (Below.refl _ wr).drew hb2))) ?_
       intro W3 hx3
       have HX := hide hx3
       clear ha0 ha1 ha2 hs0 hpn hld HM hx3 cg
       gi_wp2
       refine bodyPost_ret (results_none rfl _ _ _) rfl ?_
       exact ⟨⟨_, rfl⟩, .inr ⟨p, unhide HIN, unhide HX⟩⟩
    ·obtain rfl : j = n2 := by omega
     have HNA2 := hide (show ∀ p ∈ P2, mt ps an op bd p = false from fun p hp => by
      obtain ⟨i, hi, e⟩ := List.getElem_of_mem hp
      exact unhide HNO i (by have := unhide HN2; omega) p (by rw [List.getElem?_eq_getElem hi, e]))
     clear HNO
     have HJ3 := HJ
     clear HJ
     gi_wp2
     rw [roundsIn_succ]
     gi_wp2
     go_end0
     refine ⟨⟨_, rfl⟩, .inl ⟨?_, (unhide HJ3).1⟩⟩
     exact List.filter_eq_nil_iff.2 fun p hp => by
      rcases List.mem_append.1 hp with hp | hp
      ·rw [unhide HNA1 p hp]; decide
      ·rw [unhide HNA2 p hp]; decide
end
section
open Go.RowKit Go.Maps Go.Shelf
set_option maxHeartbeats 1000000 in
theorem satisfiers_any (v d1 d2 : Value) (an : Nm) (op : Int) (bd : ByteArray) (w : World) :
 Calls Tryz.prog 81 #[.agg #[v, d1, d2], .agg #[.string an, .int .i64 op, .string bd]] w fun e w' => e = .returned (.func (.func 102) #[] #[.pointer (some ⟨w.heap.size, 0, none⟩), .pointer (some ⟨w.heap.size + 1, 0, none⟩)]) ∧ w'.heap[w.heap.size]? = some (.cells #[v, d1, d2] 62 (0, 0)) ∧ w'.heap[w.heap.size + 1]? = some (.cells #[.string an, .int .i64 op, .string bd] 48 (0, 0)) ∧ RowKit.Below w.heap.size w w' := by
 have hb1 := (Below.refl w.heap.size w).alloc (Nat.le_refl _) (.cells #[v, d1, d2] 62)
 have hb2 := hb1.alloc (by simp) (.cells #[.string an, .int .i64 op, .string bd] 48)
 have h1 : ((w.alloc (.cells #[v, d1, d2] 62)).alloc (.cells #[.string an, .int .i64 op, .string bd] 48)).heap[w.heap.size]? = some (.cells #[v, d1, d2] 62 (0, 0)) := (Below.heap_alloc _ _ _ (by simp)).trans (World.alloc_heap_new w _)
 have h2 : ((w.alloc (.cells #[v, d1, d2] 62)).alloc (.cells #[.string an, .int .i64 op, .string bd] 48)).heap[w.heap.size + 1]? = some (.cells #[.string an, .int .i64 op, .string bd] 48 (0, 0)) := by
  have := World.alloc_heap_new (w.alloc (.cells #[v, d1, d2] 62)) (.cells #[.string an, .int .i64 op, .string bd] 48)
  rwa [World.size_alloc] at this
 have HR := hide (And.intro h1 (And.intro h2 hb2))
 clear h1 h2 hb1 hb2
 go_enter Tryz.func81, Tryz.ntmps81
 go_wp2
 go_ret
 exact ⟨rfl, unhide HR⟩
abbrev wc (kd : Int) (an : Nm) (op : Int) (bd : ByteArray) : Array Value := #[.int .i64 kd, .string an, .int .i64 op, .string bd]
set_option maxRecDepth 100000 in
set_option maxHeartbeats 4000000 in
theorem grants1_any {w : World} {Bw Bs : Nat} {kd : Int} {an : Nm} {op : Int} {bd : ByteArray} {v d1 d2 : Value} {ps : List Pd} {p : Nat} {q : Pd} (hw : w.heap[Bw]? = some (.cells (wc kd an op bd) 73 (0, 0))) (hs : w.heap[Bs]? = some (.cells #[v, d1, d2] 62 (0, 0))) (pk : Pks w v ps) (hq : ps[p]? = some q) (hbd : bd.size ≤ maxLen) :
 Calls Tryz.prog 84 #[.int .i64 (p : Int), .pointer (some ⟨Bw, 0, none⟩), .pointer (some ⟨Bs, 0, none⟩)] w fun e w' => e = .returned (.bool (fitsA op bd q.vr)) ∧ RowKit.Below w.heap.size w w' := by
 have hpl := (List.getElem?_eq_some_iff.1 hq).1
 obtain ⟨va, vc, rfl, hk⟩ := pk
 obtain ⟨b, o, rfl, hb, hk⟩ := hk (by omega)
 obtain ⟨r1, r2, r3, r4⟩ := hk p q hq
 have w1 := (cell_blk hw 1).1.trans (show (wc kd an op bd)[1]? = some (.string an) from rfl)
 have w2 := (cell_blk hw 2).1.trans (show (wc kd an op bd)[2]? = some (.int .i64 op) from rfl)
 have w3 := (cell_blk hw 3).1.trans (show (wc kd an op bd)[3]? = some (.string bd) from rfl)
 have s0 := (cell_blk hs 0).1.trans (show (#[Value.slice (some ⟨b, o, none⟩) ps.length vc, d1, d2])[0]? = some (.slice (some ⟨b, o, none⟩) ps.length vc) from rfl)
 have q1 := r1 1 _ r2.v
 have hpn : (p : Int) < (ps.length : Int) := by omega
 have c1 := hide (fun X => FitsA_any an op bd q.vr hbd r4 X)
 have HB := hide (And.intro (blk_lt hw) (And.intro (blk_lt hs) hb))
 have HP := hide (fun (w' : World) (hb : RowKit.Below w.heap.size w w') => And.intro ((hb.cell (p := ⟨Bw, 1, none⟩) (unhide HB).1).trans w1) (And.intro ((hb.cell (p := ⟨Bw, 2, none⟩) (unhide HB).1).trans w2) (And.intro ((hb.cell (p := ⟨Bw, 3, none⟩) (unhide HB).1).trans w3) (And.intro ((hb.cell (p := ⟨Bs, 0, none⟩) (unhide HB).2.1).trans s0) ((hb.cell (p := ⟨b, o + p * 43 + 1, none⟩) (unhide HB).2.2).trans q1)))))
 have B0 := hide ((Below.refl w.heap.size w).drew)
 generalize q.vr = vr at *
 clear hw hs hk r1 r2 r3 r4 hbd hq hb hpl
 generalize ps.length = N at *
 go_enter Tryz.func84, Tryz.ntmps84
 go_wp2_with fail
 go_region_held3 (fun w' => w'.cell? ⟨Bw, 1, none⟩ = some (.string an) ∧ w'.cell? ⟨Bw, 2, none⟩ = some (.int .i64 op) ∧ w'.cell? ⟨Bw, 3, none⟩ = some (.string bd) ∧ w'.cell? ⟨Bs, 0, none⟩ = some (.slice (some ⟨b, o, none⟩) N vc) ∧ w'.cell? ⟨b, o + p * 43 + 1, none⟩ = some (.string vr)) (first | exact unhide HP _ (unhide B0) | exact unhide HP _ (unhide B1)) (first | (go_at_call 85; refine (unhide c1 _).mono ?_; rintro x w11 ⟨rfl, hb11⟩; have B1 := hide ((unhide B0).trans (hb11.mono (unhide B0).size)); clear hb11))
 go_wp2_with fail
 go_ret
 exact ⟨rfl, unhide B1⟩
set_option maxRecDepth 100000 in
set_option maxHeartbeats 4000000 in
theorem indexFunc_any {w : World} {base Bw Bs N c : Nat} {a : Option Addr} {l : List Nat} {f : Nat → Bool} (h : w.ownsRow base 3 1 (.slice a N c) N (ints l)) (hl : l.length ≤ 1099511627776) (hc : ∀ p ∈ l, ∀ X, RowKit.Below w.heap.size w X → Calls Tryz.prog 84 #[.int .i64 (p : Int), .pointer (some ⟨Bw, 0, none⟩), .pointer (some ⟨Bs, 0, none⟩)] X fun e w' => e = .returned (.bool (f p)) ∧ RowKit.Below X.heap.size X w') :
 Calls Tryz.prog 104 #[.slice a N c, .func (.func 84) #[] #[.pointer (some ⟨Bw, 0, none⟩), .pointer (some ⟨Bs, 0, none⟩)]] w fun e w' => ∃ r : Int, e = .returned (.int .i64 r) ∧ (0 ≤ r ↔ l.any f = true) ∧ RowKit.Below w.heap.size w w' := by
 have hN : l.length = N := by have := h.1; rw [ints_len, Nat.mul_one] at this; exact this
 have HO := hide h
 have HC := hide hc
 have HN := hide hN
 rw [hN] at hl
 clear h hc hN
 go_enter Tryz.func104, Tryz.ntmps104
 go_wp2_with fail
 go_loopw [8] (fun i wr => ∃ k : Nat, k ≤ N ∧ i = .int .i64 k ∧ Hid (RowKit.Below w.heap.size w wr) ∧ Hid (∀ j p, j < k → l[j]? = some p → f p = false)) (fun i _ => N - (intOf i).toNat)
 case atStart => exact ⟨0, Nat.zero_le _, rfl, hide (Below.refl _ _), hide (fun j _ h => absurd h (Nat.not_lt_zero _))⟩
 case round =>
  obtain ⟨k, hk, rfl, HB, HZ⟩ := hrel
  by_cases hlt : k < N
  ·have hlt2 : (k : Int) < (N : Int) := by omega
   have hjp : k < l.length := by have := unhide HN; omega
   obtain ⟨g, rfl, cg⟩ := row_at (unhide HO) (unhide HB) hjp
   have hpm : l[k]? = some l[k] := List.getElem?_eq_getElem hjp
   generalize l[k] = p at *
   have c1 := hide (unhide HC p (List.mem_of_getElem? hpm) wr (unhide HB))
   have HPM := hide hpm
   clear hpm hjp
   cases hf : f p with
   | true =>
     rw [hf] at c1
     have HA := hide (show l.any f = true from List.any_eq_true.2 ⟨p, List.mem_of_getElem? (unhide HPM), hf⟩)
     clear hf HZ
     go_wp2_with fail
     refine (unhide c1).mono ?_
     rintro e w1 ⟨rfl, hb1⟩
     have B1 := hide hb1
     clear hb1
     go_wp2_with fail
     go_ret
     exact ⟨k, rfl, ⟨fun _ => unhide HA, fun _ => by omega⟩, bl_t (unhide HB) (unhide B1)⟩
   | false =>
     rw [hf] at c1
     have HZ2 := hide (show ∀ j p, j < k + 1 → l[j]? = some p → f p = false from fun j p' hj e => by
      by_cases ej : j = k
      ·subst ej; rw [unhide HPM] at e; cases e; exact hf
      ·exact unhide HZ j p' (by omega) e)
     clear hf HZ
     go_wp2_with fail
     refine (unhide c1).mono ?_
     rintro e w1 ⟨rfl, hb1⟩
     have HB9 := hide (bl_t (unhide HB) hb1)
     clear hb1
     go_wp2_with fail
     go_roundw
     case rel => exact ⟨k + 1, by omega, by go_num, HB9, HZ2⟩
     case measure => simp [intOf]; omega
  ·have HA := hide (show l.any f = false from List.any_eq_false.2 fun p hp => by
    obtain ⟨j, hj, e⟩ := List.getElem_of_mem hp
    rw [unhide HZ j p (by have := unhide HN; omega) (by rw [List.getElem?_eq_getElem hj, e])]
    decide)
   clear HZ
   go_wp2_with fail
   go_ret
   exact ⟨-1, rfl, ⟨fun h => by omega, fun h => by rw [unhide HA] at h; cases h⟩, unhide HB⟩
set_option maxHeartbeats 4000000 in
theorem containsFunc_any {w : World} {base Bw Bs N c : Nat} {a : Option Addr} {l : List Nat} {f : Nat → Bool} (h : w.ownsRow base 3 1 (.slice a N c) N (ints l)) (hl : l.length ≤ 1099511627776) (hc : ∀ p ∈ l, ∀ X, RowKit.Below w.heap.size w X → Calls Tryz.prog 84 #[.int .i64 (p : Int), .pointer (some ⟨Bw, 0, none⟩), .pointer (some ⟨Bs, 0, none⟩)] X fun e w' => e = .returned (.bool (f p)) ∧ RowKit.Below X.heap.size X w') :
 Calls Tryz.prog 83 #[.slice a N c, .func (.func 84) #[] #[.pointer (some ⟨Bw, 0, none⟩), .pointer (some ⟨Bs, 0, none⟩)]] w fun e w' => e = .returned (.bool (l.any f)) ∧ RowKit.Below w.heap.size w w' := by
 have c1 := hide (indexFunc_any h hl hc)
 clear h hl hc
 go_enter Tryz.func83, Tryz.ntmps83
 go_wp2_with (go_at_call 104; refine (unhide c1).mono ?_; rintro e w' ⟨r, rfl, hr, hb⟩; have HR := hide (And.intro hr hb); clear hr hb)
 go_ret
 refine ⟨?_, (unhide HR).2⟩
 have := (unhide HR).1
 by_cases h0 : 0 ≤ r
 ·rw [this.1 h0]; simp [h0]
 ·rw [Bool.eq_false_iff.2 fun h => h0 (this.2 h)]; simp [h0]
end
section
open Go.RowKit Go.Maps Go.Shelf
theorem toList_eq {a b : ByteArray} : (a.toList == b.toList) = true ↔ a = b := by
 constructor
 ·intro h
  have h1 := eq_of_beq h
  rw [Lib.toList_data, Lib.toList_data] at h1
  exact ByteArray.ext (Array.ext' h1)
 ·rintro rfl; exact beq_self_eq_true _
theorem nmP_mem (ps : List Pd) : ∀ (n : Nat) (x : Nm) (p : Nat), p ∈ nmP ps n x ↔ p < n ∧ ∃ q, ps[p]? = some q ∧ q.nm = x
 | 0, x, p => by simp [nmP]
 | n + 1, x, p => by
   have ih := nmP_mem ps n
   unfold nmP
   cases e : ps[n]? with
   | none =>
     simp only
     rw [ih]
     constructor
     ·rintro ⟨h, q⟩; exact ⟨by omega, q⟩
     ·rintro ⟨h, q, h1, h2⟩
      refine ⟨?_, q, h1, h2⟩
      have : p ≠ n := fun ee => by rw [ee, e] at h1; cases h1
      omega
   | some y =>
     simp only
     unfold upF
     by_cases hx : x = y.nm
     ·rw [if_pos hx, List.mem_append, ih, List.mem_singleton]
      constructor
      ·rintro (⟨h, q, h1, h2⟩ | rfl)
       ·exact ⟨by omega, q, h1, h2.trans hx.symm⟩
       ·exact ⟨by omega, y, e, hx.symm⟩
      ·rintro ⟨h, q, h1, h2⟩
       by_cases hp : p = n
       ·exact .inr hp
       ·exact .inl ⟨by omega, q, h1, h2.trans hx⟩
     ·rw [if_neg hx, ih]
      constructor
      ·rintro ⟨h, q⟩; exact ⟨by omega, q⟩
      ·rintro ⟨h, q, h1, h2⟩
       refine ⟨?_, q, h1, h2⟩
       have : p ≠ n := fun ee => by rw [ee, e] at h1; cases h1; exact hx h2.symm
       omega
theorem pvJ_mem (F : Nm → List Nat) (pl : List Nm) (i : Nat) : ∀ (n : Nat) (x : Nm) (p : Nat), p ∈ pvJ F pl i n x ↔ p ∈ F x ∨ (p = i ∧ ∃ j, j < n ∧ pl[j]? = some x)
 | 0, x, p => by simp [pvJ]
 | n + 1, x, p => by
   have ih := pvJ_mem F pl i n
   unfold pvJ
   cases e : pl[n]? with
   | none =>
     simp only
     rw [ih]
     constructor
     ·rintro (h | ⟨h, j, h1, h2⟩)
      ·exact .inl h
      ·exact .inr ⟨h, j, by omega, h2⟩
     ·rintro (h | ⟨h, j, h1, h2⟩)
      ·exact .inl h
      ·refine .inr ⟨h, j, ?_, h2⟩
       have : j ≠ n := fun ee => by rw [ee, e] at h2; cases h2
       omega
   | some y =>
     simp only
     unfold upF
     by_cases hx : x = y
     ·subst hx
      rw [if_pos rfl, List.mem_append, ih, List.mem_singleton]
      constructor
      ·rintro ((h | ⟨h, j, h1, h2⟩) | rfl)
       ·exact .inl h
       ·exact .inr ⟨h, j, by omega, h2⟩
       ·exact .inr ⟨rfl, n, by omega, e⟩
      ·rintro (h | ⟨h, _⟩)
       ·exact .inl (.inl h)
       ·exact .inr h
     ·rw [if_neg hx, ih]
      constructor
      ·rintro (h | ⟨h, j, h1, h2⟩)
       ·exact .inl h
       ·exact .inr ⟨h, j, by omega, h2⟩
      ·rintro (h | ⟨h, j, h1, h2⟩)
       ·exact .inl h
       ·refine .inr ⟨h, j, ?_, h2⟩
        have : j ≠ n := fun ee => by rw [ee, e] at h2; cases h2; exact hx rfl
        omega
theorem pvP_mem (ps : List Pd) : ∀ (n : Nat) (x : Nm) (p : Nat), p ∈ pvP ps n x ↔ p < n ∧ ∃ q, ps[p]? = some q ∧ x ∈ q.pl
 | 0, x, p => by simp [pvP]
 | n + 1, x, p => by
   have ih := pvP_mem ps n
   unfold pvP
   cases e : ps[n]? with
   | none =>
     simp only
     rw [ih]
     constructor
     ·rintro ⟨h, q⟩; exact ⟨by omega, q⟩
     ·rintro ⟨h, q, h1, h2⟩
      refine ⟨?_, q, h1, h2⟩
      have : p ≠ n := fun ee => by rw [ee, e] at h1; cases h1
      omega
   | some y =>
     simp only
     rw [pvJ_mem, ih]
     constructor
     ·rintro (⟨h, q⟩ | ⟨rfl, j, h1, h2⟩)
      ·exact ⟨by omega, q⟩
      ·exact ⟨by omega, y, e, List.mem_of_getElem? h2⟩
     ·rintro ⟨h, q, h1, h2⟩
      by_cases hp : p = n
      ·subst hp
       rw [e] at h1
       cases h1
       obtain ⟨j, hj, ej⟩ := List.getElem_of_mem h2
       exact .inr ⟨rfl, j, hj, by rw [List.getElem?_eq_getElem hj, ej]⟩
      ·exact .inl ⟨by omega, q, h1, h2⟩
def wantP (ps : List Pd) (kd : Int) (an : Nm) (op : Int) (bd : ByteArray) : Bool :=
 if kd = 0 then ps.any fun q => meetsA an op bd q.nm q.vr q.pl else if kd = 1 then !(ps.any fun q => q.nm.toList == an.toList && fitsA op bd q.vr) else true
theorem sat_some (ps : List Pd) (an : Nm) (op : Int) (bd : ByteArray) : satL ps an op bd (nmP ps ps.length an) (pvP ps ps.length an) ≠ [] ↔ (ps.any fun q => meetsA an op bd q.nm q.vr q.pl) = true := by
 rw [List.any_eq_true, show (satL ps an op bd (nmP ps ps.length an) (pvP ps ps.length an) ≠ [] ↔ ∃ p, p ∈ satL ps an op bd (nmP ps ps.length an) (pvP ps ps.length an)) from ⟨List.exists_mem_of_ne_nil _, fun ⟨p, hp⟩ e => by rw [e] at hp; cases hp⟩]
 unfold satL
 constructor
 ·rintro ⟨p, hp⟩
  obtain ⟨hp, hm⟩ := List.mem_filter.1 hp
  unfold mt at hm
  cases e : ps[p]? with
  | none => rw [e] at hm; cases hm
  | some q => rw [e] at hm; exact ⟨q, List.mem_of_getElem? e, hm⟩
 ·rintro ⟨q, hq, hm⟩
  obtain ⟨p, hp, e⟩ := List.getElem_of_mem hq
  have e2 : ps[p]? = some q := by rw [List.getElem?_eq_getElem hp, e]
  refine ⟨p, List.mem_filter.2 ⟨List.mem_append.2 ?_, by unfold mt; rw [e2]; exact hm⟩⟩
  unfold meetsA at hm
  rw [Bool.or_eq_true, Bool.and_eq_true, Bool.and_eq_true] at hm
  rcases hm with ⟨h1, _⟩ | ⟨_, h2⟩
  ·exact .inl ((nmP_mem ps _ _ _).2 ⟨hp, q, e2, toList_eq.1 h1⟩)
  ·exact .inr ((pvP_mem ps _ _ _).2 ⟨hp, q, e2, (Lib.containsS_iff _ _).1 h2⟩)
def ft (ps : List Pd) (op : Int) (bd : ByteArray) (p : Nat) : Bool := match ps[p]? with | some q => fitsA op bd q.vr | none => false
theorem rem_any (ps : List Pd) (an : Nm) (op : Int) (bd : ByteArray) : (nmP ps ps.length an).any (ft ps op bd) = ps.any fun q => q.nm.toList == an.toList && fitsA op bd q.vr := by
 rw [Bool.eq_iff_iff, List.any_eq_true, List.any_eq_true]
 constructor
 ·rintro ⟨p, hp, hf⟩
  obtain ⟨_, q, e, en⟩ := (nmP_mem ps _ _ _).1 hp
  unfold ft at hf
  rw [e] at hf
  refine ⟨q, List.mem_of_getElem? e, ?_⟩
  rw [Bool.and_eq_true]
  exact ⟨toList_eq.2 en, hf⟩
 ·rintro ⟨q, hq, hf⟩
  rw [Bool.and_eq_true] at hf
  obtain ⟨p, hp, e⟩ := List.getElem_of_mem hq
  have e2 : ps[p]? = some q := by rw [List.getElem?_eq_getElem hp, e]
  exact ⟨p, (nmP_mem ps _ _ _).2 ⟨hp, q, e2, toList_eq.1 hf.1⟩, by unfold ft; rw [e2]; exact hf.2⟩
end
section
open Go.RowKit Go.Maps Go.Shelf
def mk1 (D : Nat) : Deferred := { target := .collected D, args := #[] }
def Mks (W : World) (lo : Nat) (Ds : List Nat) : Prop := Ds.Nodup ∧ ∀ D ∈ Ds, lo ≤ D ∧ W.heap[D]? = some (.deferred (some []))
structure Sh (lo : Nat) (W W2 : World) : Prop where
 bel : RowKit.Below lo W W2
 cel : ∀ (b : Nat) cs t z, W.heap[b]? = some (Obj.cells cs t z) → W2.heap[b]? = some (Obj.cells cs t z)
theorem Sh.refl (lo : Nat) (W : World) : Sh lo W W := ⟨Below.refl _ _, fun _ _ _ _ h => h⟩
theorem Sh.trans {lo : Nat} {A B C : World} (h : Sh lo A B) (k : Sh lo B C) : Sh lo A C := ⟨h.bel.trans k.bel, fun b cs t z e => k.cel b cs t z (h.cel b cs t z e)⟩
theorem sh_put {lo : Nat} {W : World} {D : Nat} {o : Obj} (o2 : Obj) (hD : lo ≤ D) (h : W.heap[D]? = some o) (hc : o.isCells = false) (hw : o.isWalk = false) : Sh lo W (W.putObj D o2) := by
 refine ⟨?_, fun b cs t z e => ?_⟩
 ·refine (Below.refl lo W).grown (grownBy_putObj' W D o2) ?_ (fun k e => by cases e; exact hD)
  have := (Array.getElem?_eq_some_iff.1 h).1
  omega
 ·by_cases hb : b = D
  ·subst hb; rw [h] at e; cases e; cases hc
  ·exact (World.putObj_heap_other hb).trans e
theorem Sh.row {lo : Nat} {W W2 : World} (h : Sh lo W W2) {base e size n : Nat} {v : Value} {xs : List Value} (r : W.ownsRow base e size v n xs) : W2.ownsRow base e size v n xs := by
 refine ⟨r.1, ?_⟩
 rcases r.2 with z | ⟨g, cap, cur, h1, h2, h3, h4⟩
 ·exact .inl z
 ·exact .inr ⟨g, cap, cur, h1, h2, h.cel _ _ _ _ h3, h4⟩
theorem leaves_marks {F : Fence} {n : Nat} {P : Program} {fn : Func} {tmps : Array Value} {R : Ending → World → Prop} {lo : Nat} : ∀ (Ds : List Nat) (W : World), Mks W lo Ds → (∀ W2, Sh lo W W2 → LeavesInM F n P fn tmps R [] .returning W2) → LeavesInM F n P fn tmps R (Ds.map mk1) .returning W
 | [], W, _, h => h W (Sh.refl _ _)
 | D :: Ds, W, hM, h => by
   obtain ⟨hn, hm⟩ := hM
   obtain ⟨hD, hk⟩ := hm D (by simp)
   have s1 : Sh lo W (W.putObj D (.deferred none)) := sh_put _ hD hk rfl rfl
   refine ⟨by simp, .inl ⟨_, _, rfl, run_takeDeferred hk, ?_⟩⟩
   refine leaves_marks Ds _ ⟨(List.nodup_cons.1 hn).2, fun D2 h2 => ?_⟩ fun W2 h2 => h W2 (s1.trans h2)
   have hne : D2 ≠ D := fun e => (List.nodup_cons.1 hn).1 (e ▸ h2)
   exact ⟨(hm D2 (by simp [h2])).1, (World.putObj_heap_other hne).trans (hm D2 (by simp [h2])).2⟩
structure Kb (n a b : Nat) (X Y : World) : Prop where
 bel : RowKit.Below n X Y
 ha : Y.heap[a]? = X.heap[a]?
 hb : Y.heap[b]? = X.heap[b]?
theorem Kb.trans {n a b : Nat} {X Y Z : World} (h : Kb n a b X Y) (k : Kb n a b Y Z) : Kb n a b X Z := ⟨h.bel.trans k.bel, k.ha.trans h.ha, k.hb.trans h.hb⟩
theorem Kb.put {n a b m : Nat} (hn : n ≤ m) (ha : a < m) (hb : b < m) (W : World) (l : Nat) (o o2 : Obj) (hl : m ≤ l) (h : W.heap[l]? = some o) (_ : o.isCells = false) (_ : o.isWalk = false) : Kb n a b W (W.putObj l o2) := by
 refine ⟨(Below.refl n W).grown (grownBy_putObj' W l o2) ?_ (fun k e => by cases e; omega), World.putObj_heap_other (by omega), World.putObj_heap_other (by omega)⟩
 have := (Array.getElem?_eq_some_iff.1 h).1
 omega
theorem Kb.alloc {n a b : Nat} (W : World) (o : Obj) (hn : n ≤ W.heap.size) (ha : a < W.heap.size) (hb : b < W.heap.size) : Kb n a b W (W.alloc o) := ⟨(Below.refl n W).alloc hn o, Below.heap_alloc _ _ _ ha, Below.heap_alloc _ _ _ hb⟩
theorem Kb.of {n a b : Nat} {X Y : World} (h : RowKit.Below X.heap.size X Y) (hn : n ≤ X.heap.size) (ha : a < X.heap.size) (hb : b < X.heap.size) : Kb n a b X Y := ⟨h.mono hn, h.block _ ha, h.block _ hb⟩
structure Iw (w0 : World) (Bs Ba : Nat) (S A : Obj) (X : World) : Prop where
 bel : RowKit.Below w0.heap.size w0 X
 s : X.heap[Bs]? = some S
 a : X.heap[Ba]? = some A
theorem Iw.later {w0 : World} {Bs Ba : Nat} {S A : Obj} {X Y : World} (h : Iw w0 Bs Ba S A X) (hb : RowKit.Below X.heap.size X Y) : Iw w0 Bs Ba S A Y := ⟨bl_t h.bel hb, (hb.block _ (blk_lt h.s)).trans h.s, (hb.block _ (blk_lt h.a)).trans h.a⟩
theorem Iw.kb {w0 : World} {Bs Ba : Nat} {S A : Obj} {X Y : World} (h : Iw w0 Bs Ba S A X) (k : Kb w0.heap.size Bs Ba X Y) : Iw w0 Bs Ba S A Y := ⟨h.bel.trans k.bel, k.ha.trans h.s, k.hb.trans h.a⟩
end
end Go.Proofs.YtdkpglmdncjnbaaGreatDoor
