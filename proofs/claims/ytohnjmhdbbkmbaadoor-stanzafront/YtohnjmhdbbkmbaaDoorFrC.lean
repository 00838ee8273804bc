import Derived.Test.YtohnjmhdbbkmbaaDoorFrB
import Derived.Test.YtohnjmhdbbkmbaaDoorSbN
import Derived.Test.YtohnjmhdbbkmbaaDoorSbI
import Derived.Test.YtohnjmhdbbkmbaaDoorStX
import Derived.Test.YtohnjmhdbbkmbaaDoorSwA
namespace Go.Proofs.YtohnjmhdbbkmbaaDoor
open Go.RowKit Go.Shelf
attribute [local go_sem] Oper.semAt_some
attribute [local simp] wide_fn
attribute [local go_sem] wide_fn

theorem below_put {w W : World} {D : Nat} (h : Below w.heap.size w W) (hD : w.heap.size ≤ D) (o : Obj) : Below w.heap.size w (W.putObj D o) :=
  h.trans ⟨rfl, rfl, rfl, by rw [World.putObj_size]; exact Nat.le_refl _, fun i hi => World.putObj_heap_other (by omega)⟩
theorem doc_small (ps : List (List Fd)) (hok : ∀ p ∈ ps, okP p = true) (hsz : (prT ps).length ≤ 134217728) : ps.length ≤ 268435457 ∧ ∀ x ∈ ps, x.length ≤ 268435456 ∧ ∀ f ∈ x, f.ls.length ≤ 268435456 := by
  obtain ⟨l1, l2⟩ := prT_len ps
  refine ⟨by omega, fun x hx => ?_⟩
  have h1 := (okP_parts (hok x hx)).1
  have h2 := par_len x h1
  have h3 := l2 x hx
  refine ⟨by omega, fun f hf => ?_⟩
  have h4 := List.all_eq_true.1 h1 f hf
  have h5 := fld_len f h4
  have h6 := h2.2 f hf
  omega

set_option maxRecDepth 100000 in
set_option maxHeartbeats 4000000 in
theorem front_any (t : Bs) (pa : Option Addr) (tc : Nat) (w : World) (ht : t.length ≤ 140737488351232) (hR : Rb w pa t) (hG : Glob w) :
    Calls Tryd.prog 5 #[.slice pa t.length tc] w fun e w' => e = .returned (.bool true) ∧ Below w.heap.size w w' := by
  obtain ⟨n, er0, hne⟩ : ∃ n er, pOut t = (n, er) := ⟨_, _, rfl⟩
  have cL := hide (lives_any w hG)
  have cC := hide (fun (w1 : World) (hb : Below w.heap.size w w1) => copied_wide t pa tc w1 (by omega) (hR.later hb))
  have HG := hide hG
  by_cases hlt : 16777216 < t.length
  · have hpo : pOut t = (0, 2) := by unfold pOut; rw [if_pos hlt]
    have cP := hide (show ∀ (w2 : World), Below w.heap.size w w2 → ∀ qa qc, Rb w2 qa t → Calls Tryd.prog 11 #[.slice qa t.length qc] w2 fun e W2 => e = .returned (.tuple #[.slice none 0 0, .int .i64 0, .int .i64 2]) ∧ Below w2.heap.size w2 W2 from fun w2 hb qa qc hq => by
      refine (Parse_any t qa qc w2 (by omega) (hG.later (n := w.heap.size) hG.big hb) (fun W hbW => (hq.later hbW).cv qc)).mono ?_
      rintro e W2 ⟨lv, h1, h2, h3, _⟩
      rw [hpo] at h1 h3
      rw [h1, h3 (by decide)]
      exact ⟨rfl, h2⟩)
    have cE := hide (fun (w2 : World) (qa : Option Addr) (qc : Nat) => Each_long t qa qc w2 hlt)
    clear hne hpo hR hG
    refine (callsIn_wide (n := 9)).1 ?_
    refine callsIn_of_wp_marks Tryd.func5 rfl trivial ?_ rfl
    simp only [Tryd.ntmps5, List.size_toArray, List.length_cons, List.length_nil, Nat.reduceAdd, Nat.reduceSub, Array.replicate_succ, Array.replicate_zero, List.push_toArray, List.append_toArray, List.nil_append, List.cons_append]
    gi_wp2_with (first | (gi_at_call 10; refine (callsIn_wide.2 (unhide cL)).mono ?_; rintro e w1 ⟨rfl, hb1⟩; have HB1 := hide hb1; clear hb1) | (gi_at_call 12; have _u := HB4; clear _u; refine (callsIn_wide.2 (unhide cC _ (unhide HB4))).mono ?_; rintro e w5 ⟨qa5, qc5, rfl, ho5, hb5⟩; have HR5 := hide (Rb.of_owns ho5).2; have HX5 := hide ((hb5.block w3.heap.size (by simp)).trans (World.alloc_heap_new w3 (.cells #[.slice none 0 0] 24))); have HB5 := hide (bl_t (unhide HB4) hb5); have HS5 := hide (fun (v : Value) (ps : List (List Fd)) (hd : DocC w3 v ps) => (hd.later ((Below.refl w3.heap.size w3).alloc (Nat.le_refl _) (.cells #[.slice none 0 0] 24))).later hb5); have HZ5 := hide (show w3.heap.size < w5.heap.size by have := hb5.size; simp at this; omega); clear ho5 hb5) | (gi_at_call 12; refine (callsIn_wide.2 (unhide cC w1 (unhide HB1))).mono ?_; rintro e w2 ⟨qa, qc, rfl, ho2, hb2⟩; have HR2 := hide (Rb.of_owns ho2).2; have HB2 := hide (bl_t (unhide HB1) hb2); clear ho2 hb2) | (gi_at_call 11; refine (callsIn_wide.2 (unhide cP w2 (unhide HB2) qa qc (unhide HR2))).mono ?_; rintro e w3 ⟨rfl, hb3⟩; have HB3 := hide (bl_t (unhide HB2) hb3); have HB4 := hide ((unhide HB3).alloc (unhide HB3).size (.cells #[.slice none 0 0] 24)); clear hb3) | (gi_at_call 17; refine (callsIn_wide.2 (unhide cE w5 qa5 qc5)).mono ?_; rintro e w6 ⟨rfl, rfl⟩))
    refine rangeFunc_three rfl (by decide) (gf := 41) (lb := #[]) rfl trivial (enters_of Tryd.func41 (by kernel_rfl) rfl) (encs := encY) (fun _ => rfl) (fun _ _ => False) (fun _ _ _ => True) (fun W => Below w.heap.size w W ∧ W.heap[w3.heap.size]? = some (.cells #[.slice none 0 0] 24 (0, 0)))
      (fun x => { tmps := #[.slice pa t.length tc, undef, .bool false, .slice none 0 0, .int .i64 0, .int .i64 2, .pointer (some ⟨w3.heap.size, 0, none⟩), undef, .slice (some ⟨x.g, 0, none⟩) x.n x.cap, undef, undef, undef, undef, undef, .bool true, .bool false, .tuple #[.slice none 0 0, .int .i64 0, .int .i64 2], .slice pa t.length tc, .slice qa t.length qc, .tuple #[.slice none 0 0, .int .i64 0, .int .i64 2], .slice none 0 0, .int .i64 0, .int .i64 2, .slice pa t.length tc, .slice qa5 t.length qc5, .func (.func 41) #[] #[], .int .i64 x.k, .slice (some ⟨x.g, 0, none⟩) x.n x.cap, undef, undef, undef, undef, undef, undef, undef, undef, undef, undef, undef, undef, undef, undef, undef, undef, undef, undef, undef, undef, undef, undef, undef, undef, undef, undef, undef, undef, undef, undef, undef, undef, undef, undef, undef, undef], defers := [] }) (fun _ _ _ _ _ _ h => h) (fun _ _ _ _ _ _ _ _ h => h.elim) ?fin ?assign (fun _ _ _ _ _ h => h.elim) ?seq ?done
    case fin =>
      rintro W o o2 hl ho ⟨h1, h2⟩
      refine ⟨h1.trans ⟨rfl, rfl, rfl, by rw [World.putObj_size]; exact Nat.le_refl _, fun i hi => World.putObj_heap_other ?_⟩, (World.putObj_heap_other ?_).trans h2⟩
      · have := (unhide HB5).size
        omega
      · have := unhide HZ5
        omega
    case assign =>
      intro l x W K hK
      gi_wp2
      exact hK
    case seq =>
      rintro rc W1 rfl _
      refine (callsIn_wide.2 (each1_y _ _)).mono ?_
      rintro e W2 ⟨hv, rfl⟩
      refine ⟨hv, ⟨((unhide HB5).alloc (unhide HB5).size _).alloc (by have := (unhide HB5).size; simp; omega) _, ?_⟩, ?_, ?_⟩
      · have := unhide HZ5
        rw [Below.heap_alloc _ _ _ (by simp; omega), Below.heap_alloc _ _ _ this]
        exact unhide HX5
      · have := World.alloc_heap_new (w6.alloc (.deferred (some []))) (.loop rc)
        rwa [World.size_alloc] at this
      · rw [Below.heap_alloc _ _ _ (by simp)]
        exact World.alloc_heap_new w6 _
    case done =>
      rintro W ⟨h1, h2⟩ hK
      have c0 := (cell_blk h2 0).1
      have H1 := hide h1
      have HK := hide hK
      clear h1 h2 hK
      gi_wp2
      refine ⟨by simp, .inl ⟨_, _, rfl, run_takeDeferred (unhide HK), ?_⟩⟩
      exact ⟨_, results_tmp (t := 2) (by kernel_rfl) _ _ _, rfl, below_put (unhide H1) (unhide HB5).size _⟩
  have cE := hide (fun (w2 : World) (qa : Option Addr) (qc : Nat) (hq : Rb w2 qa t) => Each_short t qa qc w2 (by omega) (fun W hbW => (hq.later hbW).cv qc))
  obtain ⟨hok, hlen⟩ := gv_ok t
  cases hx : (parseT t).err with
  | none =>
    have hpo : pOut t = (0, 0) := by unfold pOut; rw [if_neg hlt, hx]
    have hgv : gv t = shut (parseT t) := by unfold gv; rw [hx]
    obtain ⟨hll, hls⟩ := doc_small (gv t) hok (by omega)
    have cS := hide (fun (w3 : World) (v u : Value) (h1 : DocC w3 v (gv t)) (h2 : DocC w3 u (gv t)) => Same_yes (gv t) (gv t) v u w3 rfl hll hls h1 h2)
    have cP := hide (show ∀ (w2 : World), Below w.heap.size w w2 → ∀ qa qc, Rb w2 qa t → Calls Tryd.prog 11 #[.slice qa t.length qc] w2 fun e W2 => ∃ va vc, e = .returned (.tuple #[.slice va (gv t).length vc, .int .i64 0, .int .i64 0]) ∧ DocC W2 (.slice va (gv t).length vc) (gv t) ∧ Below w2.heap.size w2 W2 from fun w2 hb qa qc hq => by
      refine (Parse_any t qa qc w2 (by omega) (hG.later (n := w.heap.size) hG.big hb) (fun W hbW => (hq.later hbW).cv qc)).mono ?_
      rintro e W2 ⟨lv, h1, h2, _, h3⟩
      rw [hpo] at h1 h3
      rw [← hgv] at h3
      obtain ⟨vs, v1, v2, v3⟩ := h3 rfl
      have hd : DocC W2 lv (gv t) := doc_of v1 v2 fun i v p i1 i2 => (v3 i v p i1 i2).po.parC
      obtain ⟨va, vc, e1, e2⟩ := hd
      subst e1
      exact ⟨va, vc, h1, ⟨va, vc, rfl, e2⟩, h2⟩)
    clear hne hpo hR hG hok hlen hx hgv hll hls
    refine (callsIn_wide (n := 9)).1 ?_
    refine callsIn_of_wp_marks Tryd.func5 rfl trivial ?_ rfl
    simp only [Tryd.ntmps5, List.size_toArray, List.length_cons, List.length_nil, Nat.reduceAdd, Nat.reduceSub, Array.replicate_succ, Array.replicate_zero, List.push_toArray, List.append_toArray, List.nil_append, List.cons_append]
    gi_wp2_with (first | (gi_at_call 10; refine (callsIn_wide.2 (unhide cL)).mono ?_; rintro e w1 ⟨rfl, hb1⟩; have HB1 := hide hb1; clear hb1) | (gi_at_call 12; have _u := HB4; clear _u; refine (callsIn_wide.2 (unhide cC _ (unhide HB4))).mono ?_; rintro e w5 ⟨qa5, qc5, rfl, ho5, hb5⟩; have HR5 := hide (Rb.of_owns ho5).2; have HX5 := hide ((hb5.block w3.heap.size (by simp)).trans (World.alloc_heap_new w3 (.cells #[.slice none 0 0] 24))); have HB5 := hide (bl_t (unhide HB4) hb5); have HQ5 := hide (bl_t ((Below.refl w3.heap.size w3).alloc (Nat.le_refl _) (.cells #[.slice none 0 0] 24)) hb5); have HZ5 := hide (show w3.heap.size < w5.heap.size by have := hb5.size; simp at this; omega); clear ho5 hb5) | (gi_at_call 12; refine (callsIn_wide.2 (unhide cC w1 (unhide HB1))).mono ?_; rintro e w2 ⟨qa, qc, rfl, ho2, hb2⟩; have HR2 := hide (Rb.of_owns ho2).2; have HB2 := hide (bl_t (unhide HB1) hb2); clear ho2 hb2) | (gi_at_call 11; refine (callsIn_wide.2 (unhide cP w2 (unhide HB2) qa qc (unhide HR2))).mono ?_; rintro e w3 ⟨va, vc, rfl, hd3, hb3⟩; have HD3 := hide hd3; have HB3 := hide (bl_t (unhide HB2) hb3); have HB4 := hide ((unhide HB3).alloc (unhide HB3).size (.cells #[.slice none 0 0] 24)); clear hb3 hd3) | (gi_at_call 17; refine (callsIn_wide.2 (unhide cE w5 qa5 qc5 (unhide HR5))).mono ?_; rintro e w6 ⟨Bk, rfl, hk1, hk2, hb6⟩; have HT6 := hide (And.intro hk1 hk2); have HX6 := hide ((hb6.block w3.heap.size (unhide HZ5)).trans (unhide HX5)); have HB6 := hide (bl_t (unhide HB5) hb6); have HQ6 := hide (bl_t (unhide HQ5) hb6); have HZ6 := hide (Nat.lt_of_lt_of_le (unhide HZ5) hb6.size); clear hk1 hk2 hb6))
    refine rangeFunc_three rfl (by decide) (gf := 42) (lb := #[.pointer (some ⟨Bk, 0, none⟩)]) rfl trivial (enters_of Tryd.func42 (by kernel_rfl) rfl) (encs := encY) (fun _ => rfl) (PreY w3.heap.size) (RelY w3.heap.size)
      (fun W => Env w6 W ∧ (∀ i, i < w6.heap.size → i ≠ w3.heap.size → W.heap[i]? = w6.heap[i]?) ∧ w6.heap.size ≤ W.heap.size ∧ ∃ lv vs, Dn w6.heap.size w3.heap.size W.heap.size W lv vs (gv t))
      (fun x => { tmps := #[.slice pa t.length tc, undef, .bool false, .slice va (gv t).length vc, .int .i64 0, .int .i64 0, .pointer (some ⟨w3.heap.size, 0, none⟩), undef, .slice (some ⟨x.g, 0, none⟩) x.n x.cap, undef, undef, undef, undef, undef, .bool true, .bool false, .tuple #[.slice va (gv t).length vc, .int .i64 0, .int .i64 0], .slice pa t.length tc, .slice qa t.length qc, .tuple #[.slice va (gv t).length vc, .int .i64 0, .int .i64 0], .slice va (gv t).length vc, .int .i64 0, .int .i64 0, .slice pa t.length tc, .slice qa5 t.length qc5, .func (.func 42) #[] #[.pointer (some ⟨Bk, 0, none⟩)], .int .i64 x.k, .slice (some ⟨x.g, 0, none⟩) x.n x.cap, undef, undef, undef, undef, undef, undef, undef, undef, undef, undef, undef, undef, undef, undef, undef, undef, undef, undef, undef, undef, undef, undef, undef, undef, undef, undef, undef, undef, undef, undef, undef, undef, undef, undef, undef, undef], defers := [] }) ?pre ?rel ?fin ?assign ?body ?seq ?done
    case pre =>
      rintro x W o o2 hl ho ⟨a1, a2, a3, a4⟩
      refine ⟨(World.putObj_heap_other (by have := unhide HZ6; omega)).trans a1, ownsRow_same a2 fun g c _ hc => World.putObj_heap_other fun e => ?_, a3, by rw [World.putObj_size]; exact a4⟩
      rw [e, hl] at hc
      cases hc
      cases ho
    case rel =>
      rintro x W W2 o o2 hl ho ho2 hp hr h2
      exact Took.put hl ho2 (by have := unhide HZ6; omega) hr h2
    case fin =>
      rintro W o o2 hl ho ⟨h1, h2, h3, lv, vs, h4⟩
      refine ⟨h1.trans (Env.put W _ o2), fun i hi hne => (World.putObj_heap_other (by omega)).trans (h2 i hi hne), by rw [World.putObj_size]; exact h3, lv, vs, ?_⟩
      rw [World.putObj_size]
      refine h4.keep fun i c t _ _ _ hc => World.putObj_heap_other fun e => ?_
      rw [e, hl] at hc
      cases hc
      cases ho
    case assign =>
      intro l x W K hK
      gi_wp2
      exact hK
    case body =>
      rintro l x W hD ⟨r, hL⟩ ⟨a1, a2, a3, a4⟩
      obtain ⟨i0, hi, hz0, hz1, hz2⟩ := info_parts info39
      have hltB : w3.heap.size < W.heap.size := (Array.getElem?_eq_some_iff.1 a1).1
      have hne : some w3.heap.size ≠ x.lv.ownBlock := fun e => by
        obtain ⟨c, hc, _⟩ := ownsRow_blk a2 e.symm
        rw [a1] at hc
        cases hc
      have c0 := (cell_blk a1 0).1
      have HN := hide hne
      have HRo := hide a2
      have HA1 := hide a1
      have HDL := hide (And.intro hD hL)
      clear hne a2 a1 hD hL
      gi_wp2_with (gi_at_builtin; go_must (refine wpListIn_append_own _ rfl _ _ 24 rfl x.n0 39 i0 (.slice none 0 0) 1 24 Tryd.underlying24 hi hz0 hz1 hz2 rfl (by decide) x.lv x.m x.cs rfl (ownsRow_al (unhide HRo) _) ⟨W.heap.size, 0, none⟩ 1 1 [.slice (some ⟨x.g, 0, none⟩) x.n x.cap] rfl rfl (cell_one_new _ _ _) (by simp [Value.oneCell']) (by unfold maxLen; omega) (by omega) (by simp; omega) ?_); intro v2 w7 hown2 hgrow2 _; have HX2 := hide ((hgrow2.block w3.heap.size (by simp; omega) (unhide HN)).trans ((Below.heap_alloc W _ w3.heap.size hltB).trans (unhide HA1))); have e2 := (cell_blk (unhide HX2) 0).1; have f2 := (cell_blk (unhide HX2) 0).2; have HO2 := hide hown2; have HW2 := hide hgrow2; obtain ⟨g2, cap2, cur2, rfl, -⟩ := slice_of hown2; clear hown2 hgrow2)
      have keep : ∀ (k : Nat) (o : Obj), W.heap[k]? = some o → o.isCells = false → k ≠ w3.heap.size → (w7.setCell ⟨w3.heap.size, 0, none⟩ (.slice (some ⟨g2, 0, none⟩) (x.m + 1) cap2)).heap[k]? = W.heap[k]? := fun k o hk ho hkB => by
        have hklt : k < W.heap.size := (Array.getElem?_eq_some_iff.1 hk).1
        rw [set_other _ _ _ _ _ hkB, (unhide HW2).block k (by simp; omega) (fun e => ?_), Below.heap_alloc _ _ _ hklt]
        obtain ⟨c, hc, _⟩ := ownsRow_blk (unhide HRo) e.symm
        rw [hk] at hc
        cases hc
        cases ho
      exact ⟨⟨keep _ _ (unhide HDL).1 rfl (by have := unhide HZ6; omega), keep _ _ (unhide HDL).2 rfl (by have := unhide HZ6; omega)⟩, W, w7, _, Below.refl _ _, rfl, unhide HW2, unhide HO2, unhide HX2, rfl⟩
    case seq =>
      rintro rc W1 rfl hY
      have hz6 := unhide HZ6
      have hw6 := (unhide HB6).size
      have hbb : Below w6.heap.size w6 ((w6.alloc (.deferred (some []))).alloc (.loop rc)) := ((Below.refl _ w6).alloc (Nat.le_refl _) _).alloc (by simp) _
      have hl1 : ((w6.alloc (.deferred (some []))).alloc (.loop rc)).heap[w6.heap.size + 1]? = some (.loop rc) := by
        have := World.alloc_heap_new (w6.alloc (.deferred (some []))) (.loop rc)
        rwa [World.size_alloc] at this
      have hd1 : ((w6.alloc (.deferred (some []))).alloc (.loop rc)).heap[w6.heap.size]? = some (.deferred (some [])) := by
        rw [Below.heap_alloc _ _ _ (by simp)]
        exact World.alloc_heap_new w6 _
      have hsz1 : ((w6.alloc (.deferred (some []))).alloc (.loop rc)).heap.size = w6.heap.size + 1 + 1 := by simp
      have hgb := (unhide HG).big
      have hw3 := (unhide HB3).size
      refine (callsIn_wide.2 (each2_y t (by omega) Bk (w6.heap.size + 1) w6.heap.size w3.heap.size 7 rc _ ((unhide HG).later (n := w.heap.size) hgb (bl_t (unhide HB6) hbb)) ((hbb.cell (p := ⟨Bk, 0, none⟩) (unhide HT6).1).trans (unhide HT6).2) (by omega) ((hbb.block _ hz6).trans (unhide HX6)) hl1 hd1 hY)).mono ?_
      rintro e W2 ⟨hv, h1, h2, h3, lv, vs, hd⟩
      refine ⟨hv, ⟨(Env.bel hbb).trans h1, fun i hi hne => (h2 i (by omega) hne).trans (hbb.block i hi), by omega, lv, vs, hd.lower (by omega)⟩, (h2 _ (by omega) (by omega)).trans hl1, (h2 _ (by omega) (by omega)).trans hd1⟩
    case done =>
      rintro W ⟨h1, h2, h3, lv, vs, hd⟩ hK
      have hz6 := unhide HZ6
      have hq6 := unhide HQ6
      have hb3W : Below w3.heap.size w3 W := ⟨h1.os.trans hq6.os, h1.tape.trans hq6.tape, h1.output.trans hq6.output, by have := hq6.size; omega, fun i hi => (h2 i (by omega) (by omega)).trans (hq6.block i hi)⟩
      have hbW := bl_t (unhide HB3) hb3W
      have c0 := (cell_blk hd.bx 0).1
      have HDG := hide (doc_of hd.len hd.row fun i v p i1 i2 => (hd.each i v p i1 i2).po.parC)
      have HBW := hide hbW
      have HB3W := hide hb3W
      have HK := hide hK
      have HZW := hide (show w3.heap.size < W.heap.size by omega)
      have HW6 := hide (unhide HB6).size
      have HKl := hide ((Array.getElem?_eq_some_iff.1 hK).1)
      clear h1 h2 h3 hd hK hb3W hbW hq6 hz6
      have HL := hide ((unhide HD3).later (unhide HB3W))
      gi_wp2_with (gi_at_call 16; refine (callsIn_wide.2 (unhide cS W _ _ (unhide HL) (unhide HDG))).mono ?_; rintro e w8 ⟨rfl, hb8⟩; have HB8 := hide hb8; clear hb8)
      refine ⟨by simp, .inl ⟨_, _, rfl, run_takeDeferred (((unhide HB8).block _ (unhide HKl)).trans (unhide HK)), ?_⟩⟩
      exact ⟨_, results_tmp (t := 2) (by kernel_rfl) _ _ _, rfl, below_put (bl_t (unhide HBW) (unhide HB8)) (unhide HW6) _⟩
  | some x =>
    have hpo : pOut t = x := by unfold pOut; rw [if_neg hlt, hx]
    rw [hne] at hpo
    subst hpo
    have hn0 : er0 ≠ 0 ∧ er0 ≠ 2 := by
      have := runL_eok (lnsOf t) n er0 hx
      omega
    have cP := hide (show ∀ (w2 : World), Below w.heap.size w w2 → ∀ qa qc, Rb w2 qa t → Calls Tryd.prog 11 #[.slice qa t.length qc] w2 fun e W2 => e = .returned (.tuple #[.slice none 0 0, .int .i64 n, .int .i64 er0]) ∧ Below w2.heap.size w2 W2 from fun w2 hb qa qc hq => by
      refine (Parse_any t qa qc w2 (by omega) (hG.later (n := w.heap.size) hG.big hb) (fun W hbW => (hq.later hbW).cv qc)).mono ?_
      rintro e W2 ⟨lv, h1, h2, h3, _⟩
      rw [hne] at h1 h3
      rw [h1, h3 hn0.1]
      exact ⟨rfl, h2⟩)
    have e0 : ((er0 : Int) == 0) = false := by simp; omega
    have e2 : ((er0 : Int) == 2) = false := by simp; omega
    have e0' : ¬ ((er0 : Int) = 0) := by omega
    have e2' : ¬ ((er0 : Int) = 2) := by omega
    by_cases hsz : (prT (gv t)).length ≤ 16777216
    · obtain ⟨pe, pp⟩ := parse_print _ hok
      obtain ⟨hok2, _⟩ := parse_ok (prT (gv t))
      have hpo2 : pOut (prT (gv t)) = (0, 0) := by unfold pOut; rw [if_neg (by omega), pe]
      generalize hqs : shut (parseT (prT (gv t))) = qs at *
      have hq : prT qs = prT (gv t) := prT_er _ _ pp
      obtain ⟨hll, hls⟩ := doc_small qs hok2 (by rw [hq]; omega)
      have cR := hide (fun (w3 : World) (v : Value) (hd : DocC w3 v (gv t)) => Print_yes (gv t) v w3 hok hsz hd)
      have cQ := hide (show ∀ (w2 : World), Below w.heap.size w w2 → ∀ qa qc, Rb w2 qa (prT (gv t)) → Calls Tryd.prog 11 #[.slice qa (prT (gv t)).length qc] w2 fun e W2 => ∃ va vc, e = .returned (.tuple #[.slice va qs.length vc, .int .i64 0, .int .i64 0]) ∧ DocC W2 (.slice va qs.length vc) qs ∧ Below w2.heap.size w2 W2 from fun w2 hb qa qc hq => by
        refine (Parse_any (prT (gv t)) qa qc w2 (by omega) (hG.later (n := w.heap.size) hG.big hb) (fun W hbW => (hq.later hbW).cv qc)).mono ?_
        rintro e W2 ⟨lv, h1, h2, _, h3⟩
        rw [hpo2] at h1 h3
        rw [hqs] at h3
        obtain ⟨vs, v1, v2, v3⟩ := h3 rfl
        have hd : DocC W2 lv qs := doc_of v1 v2 fun i v p i1 i2 => (v3 i v p i1 i2).po.parC
        obtain ⟨va, vc, e1, e2⟩ := hd
        subst e1
        exact ⟨va, vc, h1, ⟨va, vc, rfl, e2⟩, h2⟩)
      have cS := hide (fun (w3 : World) (v u : Value) (h1 : DocC w3 v qs) (h2 : DocC w3 u (gv t)) => Same_yes qs (gv t) v u w3 pp hll hls h1 h2)
      clear hne hR hG hok hlen hx hn0 pe pp hok2 hpo2 hqs hq hll hls
      refine (callsIn_wide (n := 9)).1 ?_
      refine callsIn_of_wp_marks Tryd.func5 rfl trivial ?_ rfl
      simp only [Tryd.ntmps5, List.size_toArray, List.length_cons, List.length_nil, Nat.reduceAdd, Nat.reduceSub, Array.replicate_succ, Array.replicate_zero, List.push_toArray, List.append_toArray, List.nil_append, List.cons_append]
      gi_wp2_with (first | (gi_at_call 10; refine (callsIn_wide.2 (unhide cL)).mono ?_; rintro e w1 ⟨rfl, hb1⟩; have HB1 := hide hb1; clear hb1) | (gi_at_call 12; have _u := HB4; clear _u; refine (callsIn_wide.2 (unhide cC _ (unhide HB4))).mono ?_; rintro e w5 ⟨qa5, qc5, rfl, ho5, hb5⟩; have HR5 := hide (Rb.of_owns ho5).2; have HX5 := hide ((hb5.block w3.heap.size (by simp)).trans (World.alloc_heap_new w3 (.cells #[.slice none 0 0] 24))); have HB5 := hide (bl_t (unhide HB4) hb5); have HQ5 := hide (bl_t ((Below.refl w3.heap.size w3).alloc (Nat.le_refl _) (.cells #[.slice none 0 0] 24)) hb5); have HZ5 := hide (show w3.heap.size < w5.heap.size by have := hb5.size; simp at this; omega); clear ho5 hb5) | (gi_at_call 12; refine (callsIn_wide.2 (unhide cC w1 (unhide HB1))).mono ?_; rintro e w2 ⟨qa, qc, rfl, ho2, hb2⟩; have HR2 := hide (Rb.of_owns ho2).2; have HB2 := hide (bl_t (unhide HB1) hb2); clear ho2 hb2) | (gi_at_call 11; refine (callsIn_wide.2 (unhide cP w2 (unhide HB2) qa qc (unhide HR2))).mono ?_; rintro e w3 ⟨rfl, hb3⟩; have HB3 := hide (bl_t (unhide HB2) hb3); have HB4 := hide ((unhide HB3).alloc (unhide HB3).size (.cells #[.slice none 0 0] 24)); clear hb3) | (gi_at_call 17; refine (callsIn_wide.2 (unhide cE w5 qa5 qc5 (unhide HR5))).mono ?_; rintro e w6 ⟨Bk, rfl, hk1, hk2, hb6⟩; have HT6 := hide (And.intro hk1 hk2); have HX6 := hide ((hb6.block w3.heap.size (unhide HZ5)).trans (unhide HX5)); have HB6 := hide (bl_t (unhide HB5) hb6); have HQ6 := hide (bl_t (unhide HQ5) hb6); have HZ6 := hide (Nat.lt_of_lt_of_le (unhide HZ5) hb6.size); clear hk1 hk2 hb6))
      refine rangeFunc_three rfl (by decide) (gf := 42) (lb := #[.pointer (some ⟨Bk, 0, none⟩)]) rfl trivial (enters_of Tryd.func42 (by kernel_rfl) rfl) (encs := encY) (fun _ => rfl) (PreY w3.heap.size) (RelY w3.heap.size)
        (fun W => Env w6 W ∧ (∀ i, i < w6.heap.size → i ≠ w3.heap.size → W.heap[i]? = w6.heap[i]?) ∧ w6.heap.size ≤ W.heap.size ∧ ∃ lv vs, Dn w6.heap.size w3.heap.size W.heap.size W lv vs (gv t))
        (fun x => { tmps := #[.slice pa t.length tc, undef, .bool false, .slice none 0 0, .int .i64 n, .int .i64 er0, .pointer (some ⟨w3.heap.size, 0, none⟩), undef, .slice (some ⟨x.g, 0, none⟩) x.n x.cap, undef, undef, undef, undef, undef, .bool true, .bool false, .tuple #[.slice none 0 0, .int .i64 n, .int .i64 er0], .slice pa t.length tc, .slice qa t.length qc, .tuple #[.slice none 0 0, .int .i64 n, .int .i64 er0], .slice none 0 0, .int .i64 n, .int .i64 er0, .slice pa t.length tc, .slice qa5 t.length qc5, .func (.func 42) #[] #[.pointer (some ⟨Bk, 0, none⟩)], .int .i64 x.k, .slice (some ⟨x.g, 0, none⟩) x.n x.cap, undef, undef, undef, undef, undef, undef, undef, undef, undef, undef, undef, undef, undef, undef, undef, undef, undef, undef, undef, undef, undef, undef, undef, undef, undef, undef, undef, undef, undef, undef, undef, undef, undef, undef, undef, undef], defers := [] }) ?pre ?rel ?fin ?assign ?body ?seq ?done
      case pre =>
        rintro x W o o2 hl ho ⟨a1, a2, a3, a4⟩
        refine ⟨(World.putObj_heap_other (by have := unhide HZ6; omega)).trans a1, ownsRow_same a2 fun g c _ hc => World.putObj_heap_other fun e => ?_, a3, by rw [World.putObj_size]; exact a4⟩
        rw [e, hl] at hc
        cases hc
        cases ho
      case rel =>
        rintro x W W2 o o2 hl ho ho2 hp hr h2
        exact Took.put hl ho2 (by have := unhide HZ6; omega) hr h2
      case fin =>
        rintro W o o2 hl ho ⟨h1, h2, h3, lv, vs, h4⟩
        refine ⟨h1.trans (Env.put W _ o2), fun i hi hne => (World.putObj_heap_other (by omega)).trans (h2 i hi hne), by rw [World.putObj_size]; exact h3, lv, vs, ?_⟩
        rw [World.putObj_size]
        refine h4.keep fun i c t _ _ _ hc => World.putObj_heap_other fun e => ?_
        rw [e, hl] at hc
        cases hc
        cases ho
      case assign =>
        intro l x W K hK
        gi_wp2
        exact hK
      case body =>
        rintro l x W hD ⟨r, hL⟩ ⟨a1, a2, a3, a4⟩
        obtain ⟨i0, hi, hz0, hz1, hz2⟩ := info_parts info39
        have hltB : w3.heap.size < W.heap.size := (Array.getElem?_eq_some_iff.1 a1).1
        have hne : some w3.heap.size ≠ x.lv.ownBlock := fun e => by
          obtain ⟨c, hc, _⟩ := ownsRow_blk a2 e.symm
          rw [a1] at hc
          cases hc
        have c0 := (cell_blk a1 0).1
        have HN := hide hne
        have HRo := hide a2
        have HA1 := hide a1
        have HDL := hide (And.intro hD hL)
        clear hne a2 a1 hD hL
        gi_wp2_with (gi_at_builtin; go_must (refine wpListIn_append_own _ rfl _ _ 24 rfl x.n0 39 i0 (.slice none 0 0) 1 24 Tryd.underlying24 hi hz0 hz1 hz2 rfl (by decide) x.lv x.m x.cs rfl (ownsRow_al (unhide HRo) _) ⟨W.heap.size, 0, none⟩ 1 1 [.slice (some ⟨x.g, 0, none⟩) x.n x.cap] rfl rfl (cell_one_new _ _ _) (by simp [Value.oneCell']) (by unfold maxLen; omega) (by omega) (by simp; omega) ?_); intro v2 w7 hown2 hgrow2 _; have HX2 := hide ((hgrow2.block w3.heap.size (by simp; omega) (unhide HN)).trans ((Below.heap_alloc W _ w3.heap.size hltB).trans (unhide HA1))); have e2 := (cell_blk (unhide HX2) 0).1; have f2 := (cell_blk (unhide HX2) 0).2; have HO2 := hide hown2; have HW2 := hide hgrow2; obtain ⟨g2, cap2, cur2, rfl, -⟩ := slice_of hown2; clear hown2 hgrow2)
        have keep : ∀ (k : Nat) (o : Obj), W.heap[k]? = some o → o.isCells = false → k ≠ w3.heap.size → (w7.setCell ⟨w3.heap.size, 0, none⟩ (.slice (some ⟨g2, 0, none⟩) (x.m + 1) cap2)).heap[k]? = W.heap[k]? := fun k o hk ho hkB => by
          have hklt : k < W.heap.size := (Array.getElem?_eq_some_iff.1 hk).1
          rw [set_other _ _ _ _ _ hkB, (unhide HW2).block k (by simp; omega) (fun e => ?_), Below.heap_alloc _ _ _ hklt]
          obtain ⟨c, hc, _⟩ := ownsRow_blk (unhide HRo) e.symm
          rw [hk] at hc
          cases hc
          cases ho
        exact ⟨⟨keep _ _ (unhide HDL).1 rfl (by have := unhide HZ6; omega), keep _ _ (unhide HDL).2 rfl (by have := unhide HZ6; omega)⟩, W, w7, _, Below.refl _ _, rfl, unhide HW2, unhide HO2, unhide HX2, rfl⟩
      case seq =>
        rintro rc W1 rfl hY
        have hz6 := unhide HZ6
        have hw6 := (unhide HB6).size
        have hbb : Below w6.heap.size w6 ((w6.alloc (.deferred (some []))).alloc (.loop rc)) := ((Below.refl _ w6).alloc (Nat.le_refl _) _).alloc (by simp) _
        have hl1 : ((w6.alloc (.deferred (some []))).alloc (.loop rc)).heap[w6.heap.size + 1]? = some (.loop rc) := by
          have := World.alloc_heap_new (w6.alloc (.deferred (some []))) (.loop rc)
          rwa [World.size_alloc] at this
        have hd1 : ((w6.alloc (.deferred (some []))).alloc (.loop rc)).heap[w6.heap.size]? = some (.deferred (some [])) := by
          rw [Below.heap_alloc _ _ _ (by simp)]
          exact World.alloc_heap_new w6 _
        have hsz1 : ((w6.alloc (.deferred (some []))).alloc (.loop rc)).heap.size = w6.heap.size + 1 + 1 := by simp
        have hgb := (unhide HG).big
        have hw3 := (unhide HB3).size
        refine (callsIn_wide.2 (each2_y t (by omega) Bk (w6.heap.size + 1) w6.heap.size w3.heap.size 7 rc _ ((unhide HG).later (n := w.heap.size) hgb (bl_t (unhide HB6) hbb)) ((hbb.cell (p := ⟨Bk, 0, none⟩) (unhide HT6).1).trans (unhide HT6).2) (by omega) ((hbb.block _ hz6).trans (unhide HX6)) hl1 hd1 hY)).mono ?_
        rintro e W2 ⟨hv, h1, h2, h3, lv, vs, hd⟩
        refine ⟨hv, ⟨(Env.bel hbb).trans h1, fun i hi hne => (h2 i (by omega) hne).trans (hbb.block i hi), by omega, lv, vs, hd.lower (by omega)⟩, (h2 _ (by omega) (by omega)).trans hl1, (h2 _ (by omega) (by omega)).trans hd1⟩
      case done =>
        rintro W ⟨h1, h2, h3, lv, vs, hd⟩ hK
        have hz6 := unhide HZ6
        have hq6 := unhide HQ6
        have hb3W : Below w3.heap.size w3 W := ⟨h1.os.trans hq6.os, h1.tape.trans hq6.tape, h1.output.trans hq6.output, by have := hq6.size; omega, fun i hi => (h2 i (by omega) (by omega)).trans (hq6.block i hi)⟩
        have hbW := bl_t (unhide HB3) hb3W
        have c0 := (cell_blk hd.bx 0).1
        have HDG := hide (doc_of hd.len hd.row fun i v p i1 i2 => (hd.each i v p i1 i2).po.parC)
        have HBW := hide hbW
        have HB3W := hide hb3W
        have HK := hide hK
        have HZW := hide (show w3.heap.size < W.heap.size by omega)
        have HW6 := hide (unhide HB6).size
        have HKl := hide ((Array.getElem?_eq_some_iff.1 hK).1)
        clear h1 h2 h3 hd hK hb3W hbW hq6 hz6
        gi_wp2_with (first | (gi_at_call 14; refine (callsIn_wide.2 (unhide cR W _ (unhide HDG))).mono ?_; rintro e w8 ⟨p8, c8, rfl, ho8, hb8⟩; have HR8 := hide (Rb.of_owns ho8).2; have HB8 := hide hb8; have HDG8 := hide ((unhide HDG).later hb8); have c08 := (hb8.cell (p := ⟨w3.heap.size, 0, none⟩) (unhide HZW)).trans c0; clear ho8 hb8) | (gi_at_call 11; refine (callsIn_wide.2 (unhide cQ w8 (bl_t (unhide HBW) (unhide HB8)) p8 c8 (unhide HR8))).mono ?_; rintro e w9 ⟨v9, c9, rfl, hd9, hb9⟩; have HD9 := hide hd9; have HB9 := hide (bl_t (unhide HB8) hb9); have HDG9 := hide ((unhide HDG8).later hb9); have c09 := (hb9.cell (p := ⟨w3.heap.size, 0, none⟩) (Nat.lt_of_lt_of_le (unhide HZW) (unhide HB8).size)).trans c08; clear hd9 hb9) | (gi_at_call 16; refine (callsIn_wide.2 (unhide cS w9 _ _ (unhide HD9) (unhide HDG9))).mono ?_; rintro e w10 ⟨rfl, hb10⟩; have HB10 := hide (bl_t (unhide HB9) hb10); clear hb10))
        refine ⟨by simp, .inl ⟨_, _, rfl, run_takeDeferred (((unhide HB10).block _ (unhide HKl)).trans (unhide HK)), ?_⟩⟩
        exact ⟨_, results_tmp (t := 2) (by kernel_rfl) _ _ _, rfl, below_put (bl_t (unhide HBW) (unhide HB10)) (unhide HW6) _⟩
    · have cR := hide (fun (w3 : World) (v : Value) (hd : DocC w3 v (gv t)) => Print_long (gv t) v w3 hok (by omega) (by omega) hd)
      clear hne hR hG hok hlen hx hn0
      refine (callsIn_wide (n := 9)).1 ?_
      refine callsIn_of_wp_marks Tryd.func5 rfl trivial ?_ rfl
      simp only [Tryd.ntmps5, List.size_toArray, List.length_cons, List.length_nil, Nat.reduceAdd, Nat.reduceSub, Array.replicate_succ, Array.replicate_zero, List.push_toArray, List.append_toArray, List.nil_append, List.cons_append]
      gi_wp2_with (first | (gi_at_call 10; refine (callsIn_wide.2 (unhide cL)).mono ?_; rintro e w1 ⟨rfl, hb1⟩; have HB1 := hide hb1; clear hb1) | (gi_at_call 12; have _u := HB4; clear _u; refine (callsIn_wide.2 (unhide cC _ (unhide HB4))).mono ?_; rintro e w5 ⟨qa5, qc5, rfl, ho5, hb5⟩; have HR5 := hide (Rb.of_owns ho5).2; have HX5 := hide ((hb5.block w3.heap.size (by simp)).trans (World.alloc_heap_new w3 (.cells #[.slice none 0 0] 24))); have HB5 := hide (bl_t (unhide HB4) hb5); have HQ5 := hide (bl_t ((Below.refl w3.heap.size w3).alloc (Nat.le_refl _) (.cells #[.slice none 0 0] 24)) hb5); have HZ5 := hide (show w3.heap.size < w5.heap.size by have := hb5.size; simp at this; omega); clear ho5 hb5) | (gi_at_call 12; refine (callsIn_wide.2 (unhide cC w1 (unhide HB1))).mono ?_; rintro e w2 ⟨qa, qc, rfl, ho2, hb2⟩; have HR2 := hide (Rb.of_owns ho2).2; have HB2 := hide (bl_t (unhide HB1) hb2); clear ho2 hb2) | (gi_at_call 11; refine (callsIn_wide.2 (unhide cP w2 (unhide HB2) qa qc (unhide HR2))).mono ?_; rintro e w3 ⟨rfl, hb3⟩; have HB3 := hide (bl_t (unhide HB2) hb3); have HB4 := hide ((unhide HB3).alloc (unhide HB3).size (.cells #[.slice none 0 0] 24)); clear hb3) | (gi_at_call 17; refine (callsIn_wide.2 (unhide cE w5 qa5 qc5 (unhide HR5))).mono ?_; rintro e w6 ⟨Bk, rfl, hk1, hk2, hb6⟩; have HT6 := hide (And.intro hk1 hk2); have HX6 := hide ((hb6.block w3.heap.size (unhide HZ5)).trans (unhide HX5)); have HB6 := hide (bl_t (unhide HB5) hb6); have HQ6 := hide (bl_t (unhide HQ5) hb6); have HZ6 := hide (Nat.lt_of_lt_of_le (unhide HZ5) hb6.size); clear hk1 hk2 hb6))
      refine rangeFunc_three rfl (by decide) (gf := 42) (lb := #[.pointer (some ⟨Bk, 0, none⟩)]) rfl trivial (enters_of Tryd.func42 (by kernel_rfl) rfl) (encs := encY) (fun _ => rfl) (PreY w3.heap.size) (RelY w3.heap.size)
        (fun W => Env w6 W ∧ (∀ i, i < w6.heap.size → i ≠ w3.heap.size → W.heap[i]? = w6.heap[i]?) ∧ w6.heap.size ≤ W.heap.size ∧ ∃ lv vs, Dn w6.heap.size w3.heap.size W.heap.size W lv vs (gv t))
        (fun x => { tmps := #[.slice pa t.length tc, undef, .bool false, .slice none 0 0, .int .i64 n, .int .i64 er0, .pointer (some ⟨w3.heap.size, 0, none⟩), undef, .slice (some ⟨x.g, 0, none⟩) x.n x.cap, undef, undef, undef, undef, undef, .bool true, .bool false, .tuple #[.slice none 0 0, .int .i64 n, .int .i64 er0], .slice pa t.length tc, .slice qa t.length qc, .tuple #[.slice none 0 0, .int .i64 n, .int .i64 er0], .slice none 0 0, .int .i64 n, .int .i64 er0, .slice pa t.length tc, .slice qa5 t.length qc5, .func (.func 42) #[] #[.pointer (some ⟨Bk, 0, none⟩)], .int .i64 x.k, .slice (some ⟨x.g, 0, none⟩) x.n x.cap, undef, undef, undef, undef, undef, undef, undef, undef, undef, undef, undef, undef, undef, undef, undef, undef, undef, undef, undef, undef, undef, undef, undef, undef, undef, undef, undef, undef, undef, undef, undef, undef, undef, undef, undef, undef], defers := [] }) ?pre ?rel ?fin ?assign ?body ?seq ?done
      case pre =>
        rintro x W o o2 hl ho ⟨a1, a2, a3, a4⟩
        refine ⟨(World.putObj_heap_other (by have := unhide HZ6; omega)).trans a1, ownsRow_same a2 fun g c _ hc => World.putObj_heap_other fun e => ?_, a3, by rw [World.putObj_size]; exact a4⟩
        rw [e, hl] at hc
        cases hc
        cases ho
      case rel =>
        rintro x W W2 o o2 hl ho ho2 hp hr h2
        exact Took.put hl ho2 (by have := unhide HZ6; omega) hr h2
      case fin =>
        rintro W o o2 hl ho ⟨h1, h2, h3, lv, vs, h4⟩
        refine ⟨h1.trans (Env.put W _ o2), fun i hi hne => (World.putObj_heap_other (by omega)).trans (h2 i hi hne), by rw [World.putObj_size]; exact h3, lv, vs, ?_⟩
        rw [World.putObj_size]
        refine h4.keep fun i c t _ _ _ hc => World.putObj_heap_other fun e => ?_
        rw [e, hl] at hc
        cases hc
        cases ho
      case assign =>
        intro l x W K hK
        gi_wp2
        exact hK
      case body =>
        rintro l x W hD ⟨r, hL⟩ ⟨a1, a2, a3, a4⟩
        obtain ⟨i0, hi, hz0, hz1, hz2⟩ := info_parts info39
        have hltB : w3.heap.size < W.heap.size := (Array.getElem?_eq_some_iff.1 a1).1
        have hne : some w3.heap.size ≠ x.lv.ownBlock := fun e => by
          obtain ⟨c, hc, _⟩ := ownsRow_blk a2 e.symm
          rw [a1] at hc
          cases hc
        have c0 := (cell_blk a1 0).1
        have HN := hide hne
        have HRo := hide a2
        have HA1 := hide a1
        have HDL := hide (And.intro hD hL)
        clear hne a2 a1 hD hL
        gi_wp2_with (gi_at_builtin; go_must (refine wpListIn_append_own _ rfl _ _ 24 rfl x.n0 39 i0 (.slice none 0 0) 1 24 Tryd.underlying24 hi hz0 hz1 hz2 rfl (by decide) x.lv x.m x.cs rfl (ownsRow_al (unhide HRo) _) ⟨W.heap.size, 0, none⟩ 1 1 [.slice (some ⟨x.g, 0, none⟩) x.n x.cap] rfl rfl (cell_one_new _ _ _) (by simp [Value.oneCell']) (by unfold maxLen; omega) (by omega) (by simp; omega) ?_); intro v2 w7 hown2 hgrow2 _; have HX2 := hide ((hgrow2.block w3.heap.size (by simp; omega) (unhide HN)).trans ((Below.heap_alloc W _ w3.heap.size hltB).trans (unhide HA1))); have e2 := (cell_blk (unhide HX2) 0).1; have f2 := (cell_blk (unhide HX2) 0).2; have HO2 := hide hown2; have HW2 := hide hgrow2; obtain ⟨g2, cap2, cur2, rfl, -⟩ := slice_of hown2; clear hown2 hgrow2)
        have keep : ∀ (k : Nat) (o : Obj), W.heap[k]? = some o → o.isCells = false → k ≠ w3.heap.size → (w7.setCell ⟨w3.heap.size, 0, none⟩ (.slice (some ⟨g2, 0, none⟩) (x.m + 1) cap2)).heap[k]? = W.heap[k]? := fun k o hk ho hkB => by
          have hklt : k < W.heap.size := (Array.getElem?_eq_some_iff.1 hk).1
          rw [set_other _ _ _ _ _ hkB, (unhide HW2).block k (by simp; omega) (fun e => ?_), Below.heap_alloc _ _ _ hklt]
          obtain ⟨c, hc, _⟩ := ownsRow_blk (unhide HRo) e.symm
          rw [hk] at hc
          cases hc
          cases ho
        exact ⟨⟨keep _ _ (unhide HDL).1 rfl (by have := unhide HZ6; omega), keep _ _ (unhide HDL).2 rfl (by have := unhide HZ6; omega)⟩, W, w7, _, Below.refl _ _, rfl, unhide HW2, unhide HO2, unhide HX2, rfl⟩
      case seq =>
        rintro rc W1 rfl hY
        have hz6 := unhide HZ6
        have hw6 := (unhide HB6).size
        have hbb : Below w6.heap.size w6 ((w6.alloc (.deferred (some []))).alloc (.loop rc)) := ((Below.refl _ w6).alloc (Nat.le_refl _) _).alloc (by simp) _
        have hl1 : ((w6.alloc (.deferred (some []))).alloc (.loop rc)).heap[w6.heap.size + 1]? = some (.loop rc) := by
          have := World.alloc_heap_new (w6.alloc (.deferred (some []))) (.loop rc)
          rwa [World.size_alloc] at this
        have hd1 : ((w6.alloc (.deferred (some []))).alloc (.loop rc)).heap[w6.heap.size]? = some (.deferred (some [])) := by
          rw [Below.heap_alloc _ _ _ (by simp)]
          exact World.alloc_heap_new w6 _
        have hsz1 : ((w6.alloc (.deferred (some []))).alloc (.loop rc)).heap.size = w6.heap.size + 1 + 1 := by simp
        have hgb := (unhide HG).big
        have hw3 := (unhide HB3).size
        refine (callsIn_wide.2 (each2_y t (by omega) Bk (w6.heap.size + 1) w6.heap.size w3.heap.size 7 rc _ ((unhide HG).later (n := w.heap.size) hgb (bl_t (unhide HB6) hbb)) ((hbb.cell (p := ⟨Bk, 0, none⟩) (unhide HT6).1).trans (unhide HT6).2) (by omega) ((hbb.block _ hz6).trans (unhide HX6)) hl1 hd1 hY)).mono ?_
        rintro e W2 ⟨hv, h1, h2, h3, lv, vs, hd⟩
        refine ⟨hv, ⟨(Env.bel hbb).trans h1, fun i hi hne => (h2 i (by omega) hne).trans (hbb.block i hi), by omega, lv, vs, hd.lower (by omega)⟩, (h2 _ (by omega) (by omega)).trans hl1, (h2 _ (by omega) (by omega)).trans hd1⟩
      case done =>
        rintro W ⟨h1, h2, h3, lv, vs, hd⟩ hK
        have hz6 := unhide HZ6
        have hq6 := unhide HQ6
        have hb3W : Below w3.heap.size w3 W := ⟨h1.os.trans hq6.os, h1.tape.trans hq6.tape, h1.output.trans hq6.output, by have := hq6.size; omega, fun i hi => (h2 i (by omega) (by omega)).trans (hq6.block i hi)⟩
        have hbW := bl_t (unhide HB3) hb3W
        have c0 := (cell_blk hd.bx 0).1
        have HDG := hide (doc_of hd.len hd.row fun i v p i1 i2 => (hd.each i v p i1 i2).po.parC)
        have HBW := hide hbW
        have HB3W := hide hb3W
        have HK := hide hK
        have HZW := hide (show w3.heap.size < W.heap.size by omega)
        have HW6 := hide (unhide HB6).size
        have HKl := hide ((Array.getElem?_eq_some_iff.1 hK).1)
        clear h1 h2 h3 hd hK hb3W hbW hq6 hz6
        gi_wp2_with (gi_at_call 14; refine (callsIn_wide.2 (unhide cR W _ (unhide HDG))).mono ?_; rintro e w8 ⟨rfl, hb8⟩; have HB8 := hide hb8; clear hb8)
        refine ⟨by simp, .inl ⟨_, _, rfl, run_takeDeferred (((unhide HB8).block _ (unhide HKl)).trans (unhide HK)), ?_⟩⟩
        exact ⟨_, results_tmp (t := 2) (by kernel_rfl) _ _ _, rfl, below_put (bl_t (unhide HBW) (unhide HB8)) (unhide HW6) _⟩
end Go.Proofs.YtohnjmhdbbkmbaaDoor
