import Derived.Test.YtohncccejlccbaaLaX
namespace Go.Proofs.Ytohncccejlccbaa
open Go.RowKit

theorem cells6_new (w : World) (a b c d e f : Value) (t : TypeId) : ∀ j u, [a, b, c, d, e, f][j]? = some u → (w.alloc (.cells #[a, b, c, d, e, f] t)).cell? ((⟨w.heap.size, 0, none⟩ : Addr).add j) = some u := by
  intro j u h
  rw [show (⟨w.heap.size, 0, none⟩ : Addr).add j = ⟨w.heap.size, 0 + j, none⟩ by unfold Addr.add; split <;> simp_all, Nat.zero_add, World.cell?_alloc_at _ _ _ _ rfl]
  simpa using h

theorem results_cell1z {fn : Func} {a : Tmp} {t : TypeId} (h : fn.results = #[.cell a t]) (tmps : Array Value) (P : Program) (w : World) (ad : Addr) (v : Value) (ha : tmps.getD a undef = .pointer (some ad)) (hl : (loadVar t ad).run P w = .ok v w) :
    (results fn tmps).run P w = .ok v w := by
  have ha2 : tmps[a]?.getD undef = .pointer (some ad) := by simpa using ha
  simp [results, h, asAddr, ha2, hl]

attribute [local go_sem] World.cell?_alloc_some

set_option maxRecDepth 100000 in
set_option maxHeartbeats 8000000 in
theorem lentAll_any (ps : List (List Gd)) (v : Value) (w : World) (hl : ps.length ≤ 16777216) (hls : ∀ x ∈ ps, x.length ≤ 16777216 ∧ ∀ f ∈ x, f.ls.length ≤ 16777216 ∧ f.ns.length ≤ 16777216) (hD : DocZ w v ps) :
    Calls Try.prog 4 #[v] w fun e w' => ∃ (lg lgc : Nat) (P F : Value) (qs : List Lq) (m1 m2 : Nat), e = .returned (.agg #[.slice (some ⟨lg, 0, none⟩) ps.length lgc, P, F]) ∧ LN (w.heap.size + 2) w' lg lgc P F qs m1 m2 ∧ qs.map (fun q => q.xs.map (·.f)) = ps ∧ Below w.heap.size w w' := by
  obtain ⟨i9, hi9, z9a, z9b, z9c⟩ := info_parts info9
  obtain ⟨i3, hi3, z3a, z3b, z3c⟩ := info_parts info3
  obtain ⟨i49, hi49, z49a, z49b, z49c⟩ := info_parts info49
  obtain ⟨i39, hi39, z39a, z39b, z39c⟩ := info_parts info39
  replace hD := hD.later ((Below.refl w.heap.size w).alloc (Nat.le_refl _) (Obj.cells #[Value.slice none 0 0, Value.slice none 0 0, Value.slice none 0 0] 25))
  obtain ⟨va, vc, rfl, hD⟩ := hD
  have HD := hide hD
  have HLS := hide hls
  clear hD hls
  go_enter Try.func4, Try.ntmps4
  go_wp2
  have HR1 := hide (World.alloc_heap_new w (Obj.cells #[Value.slice none 0 0, Value.slice none 0 0, Value.slice none 0 0] 25))
  have HB1 := hide ((Below.refl w.heap.size w).alloc (Nat.le_refl _) (Obj.cells #[Value.slice none 0 0, Value.slice none 0 0, Value.slice none 0 0] 25))
  have hz1a : (w.alloc (Obj.cells #[Value.slice none 0 0, Value.slice none 0 0, Value.slice none 0 0] 25)).heap.size ≤ w.heap.size + 1 := by simp
  have hz1b : w.heap.size + 1 ≤ (w.alloc (Obj.cells #[Value.slice none 0 0, Value.slice none 0 0, Value.slice none 0 0] 25)).heap.size := by simp
  generalize hw1 : w.alloc (Obj.cells #[Value.slice none 0 0, Value.slice none 0 0, Value.slice none 0 0] 25) = w1 at *
  clear hw1
  have hb2 : Below w1.heap.size w1 (w1.alloc (Obj.cells #[Value.slice none 0 0, Value.slice none 0 0, Value.slice none 0 0] 25)) := (Below.refl _ _).alloc (Nat.le_refl _) _
  generalize hw2 : (w1.alloc (Obj.cells #[Value.slice none 0 0, Value.slice none 0 0, Value.slice none 0 0] 25)) = w2 at *
  go_loopw [4] (fun iv wr => ∃ (i : Nat) (L P F : Value) (qs : List Lq), i ≤ ps.length ∧ iv = .int .i64 i ∧ qs.map (fun q => q.xs.map (·.f)) = ps.take i ∧ Hid (LL (w.heap.size + 2) wr (w.heap.size + 1) L P F qs) ∧ Hid (Below w1.heap.size w1 wr)) (fun iv _ => ps.length - (intOf iv).toNat)
  case atStart =>
    refine ⟨0, .slice none 0 0, .slice none 0 0, .slice none 0 0, [], Nat.zero_le _, rfl, rfl, hide ⟨?_, World.ownsRow_nil _ _ _ _, World.ownsRow_nil _ _ _ _, World.ownsRow_nil _ _ _ _, (fun g hg => by cases hg), (fun g hg => by cases hg), (fun q hq => by cases hq), List.Pairwise.nil⟩, hide hb2⟩
    rw [← hw2]
    have h := World.alloc_heap_new w1 (Obj.cells #[Value.slice none 0 0, Value.slice none 0 0, Value.slice none 0 0] 25)
    rw [show w1.heap.size = w.heap.size + 1 by omega] at h
    exact h
  case round =>
    obtain ⟨i, L, P, F, qs, hi, rfl, hqs, HLL, HB⟩ := hrel
    have hql : qs.length = i := by have := congrArg List.length hqs; rw [List.length_map, List.length_take] at this; omega
    have HQS := hide hqs
    clear hqs
    rename World => W2
    by_cases hlt : i < ps.length
    · obtain ⟨g, o, rfl, hd⟩ := unhide HD (by omega)
      obtain ⟨u, u1, u2⟩ := hd i _ (List.getElem?_eq_getElem hlt)
      obtain ⟨q1, q2⟩ := unhide HLS _ (List.getElem_mem hlt)
      obtain ⟨ua, uc, rfl, -, hf⟩ := u2
      have HU := hide u1
      have HF := hide hf
      have HQ := hide q2
      have HP := hide (show ps[i]? = some ps[i] from List.getElem?_eq_getElem hlt)
      have hz2 := (unhide HB).size
      clear hd hf u1 q2
      generalize ps[i] = p at *
      go_wp2
      go_loopw [5, 6, 7] (fun pv ov iv wr => ∃ (k : Nat) (q q' : Value) (xs : List Lf), k ≤ p.length ∧ iv = .int .i64 k ∧ pv = q ∧ ov = q' ∧ xs.map (·.f) = p.take k ∧ Hid (LP W2.heap.size wr q q' xs) ∧ Hid (Below W2.heap.size W2 wr)) (fun _ _ iv _ => p.length - (intOf iv).toNat)
      case atStart => exact ⟨0, _, _, [], Nat.zero_le _, rfl, rfl, rfl, rfl, hide ⟨World.ownsRow_nil _ _ _ _, World.ownsRow_nil _ _ _ _, (fun g hg => by cases hg), (fun x hx => by cases hx), List.Pairwise.nil⟩, hide (Below.refl _ _)⟩
      case round =>
        obtain ⟨k, q, q', xs, hk, rfl, rfl, rfl, hxs, HPO, HB2⟩ := hrel
        rename World => W
        have dU := cell_later (cell_later (unhide HU) (unhide HB)) (unhide HB2)
        by_cases hlt2 : k < p.length
        · obtain ⟨gg, oo, rfl, hf⟩ := unhide HF (by omega)
          have fc := ((hf k _ (List.getElem?_eq_getElem hlt2)).later (unhide HB)).later (unhide HB2)
          have f1 := unhide HQ _ (List.getElem_mem hlt2)
          have HT := hide (show p.take (k + 1) = p.take k ++ [p[k]] from List.take_succ_eq_append_getElem hlt2)
          have hxl : xs.length = k := by have := congrArg List.length hxs; rw [List.length_map, List.length_take] at this; omega
          have HX1 := hide hxs
          clear hf hxs
          generalize p[k] = f at *
          obtain ⟨nm, ls, ns⟩ := f
          simp only at f1
          obtain ⟨f1, ez⟩ := f1
          have e0 := fc.nm
          obtain ⟨la, lc, e1, _, es⟩ := fc.ls
          obtain ⟨na, nc, e5, en⟩ := fc.ns
          have eo : ∀ u ∈ intz ns, u.oneCell' = true := by simp [intz, Value.oneCell']
          have hil : (intz ns).length = ns.length := by simp [intz]
          simp only at e0 e1 e5 es en
          have HIL := hide hil
          clear hil
          have HES := hide es
          have HEN := hide en
          have HEO := hide eo
          have hz3 := (unhide HB2).size
          clear fc es en eo
          generalize hnl : ls.length = nl at *
          have HNL := hide hnl
          clear hnl
          generalize hnn : ns.length = nn at *
          have HNN := hide hnn
          clear hnn
          go_wp2
          have HBW1 := hide (show Below W.heap.size W (W.alloc (.cells #[.string (ba nm), .slice none 0 0, .slice none 0 0] 30)) from (Below.refl _ _).alloc (Nat.le_refl _) _)
          have HBX1 := hide (World.alloc_heap_new W (.cells #[.string (ba nm), .slice none 0 0, .slice none 0 0] 30))
          have HS1 := hide (show (W.alloc (.cells #[.string (ba nm), .slice none 0 0, .slice none 0 0] 30)).heap.size = W.heap.size + 1 by simp)
          have HW1 := hide (show W.alloc (.cells #[.string (ba nm), .slice none 0 0, .slice none 0 0] 30) = W.alloc (.cells #[.string (ba nm), .slice none 0 0, .slice none 0 0] 30) from rfl)
          generalize hW1 : W.alloc (.cells #[.string (ba nm), .slice none 0 0, .slice none 0 0] 30) = W1 at *
          replace HW1 := hide hW1
          clear hW1
          have HKp := hide (show ∀ W', Below W.heap.size W W' → W'.cell? ⟨g, o + i, none⟩ = some (.slice (some ⟨gg, oo, none⟩) p.length uc) ∧ W'.cell? ⟨gg, oo + k * 3 + 1, none⟩ = some (.slice la nl lc) from fun W' hb => ⟨cell_later dU hb, cell_later e1 hb⟩)
          have HKq := hide (show ∀ W', Below W.heap.size W W' → W'.cell? ⟨g, o + i, none⟩ = some (.slice (some ⟨gg, oo, none⟩) p.length uc) ∧ W'.cell? ⟨gg, oo + k * 3 + 2, none⟩ = some (.slice na nn nc) from fun W' hb => ⟨cell_later dU hb, cell_later e5 hb⟩)
          have d15 := (cell_blk (unhide HBX1) 1).1
          apply merge
          case h =>
            intro KEY
            obtain ⟨d1U, d11⟩ := unhide HKp W1 (unhide HBW1)
            go_region_law (refine step_app (by rfl) _ _ 27 (by rfl) W2.heap.size 9 i9 (.string ⟨#[]⟩) 16 Try.underlying27 hi9 z9a z9b z9c rfl (by rfl) la nl lc (strs ls) (by rfl) (by rw [strs, List.length_map]; exact unhide HNL) (show Cl W1 la (strs ls) from (unhide HES).later (unhide HBW1)) (by simp [strs, Value.oneCell']) (by unfold maxLen; omega) (by omega) (by show W2.heap.size ≤ W1.heap.size; have := unhide HS1; omega) ?_; intro v2 w2 hown2 hgrow2 hv2; have HBX2 := hide ((hgrow2.block W.heap.size (by show W.heap.size < W1.heap.size; have := unhide HS1; omega) (by simp)).trans (unhide HBX1)); have d2 := (cell_blk (unhide HBX2) 1).1; have f2 := (cell_blk (unhide HBX2) 1).2; have HO2 := hide (show w2.ownsRow W2.heap.size 9 1 v2 nl (strs ls) from hown2); have HB12 := hide (show Below W1.heap.size W1 w2 from ⟨hgrow2.os, hgrow2.tape, hgrow2.output, hgrow2.size, fun k hk => hgrow2.block k hk (by simp)⟩); have HV2 := hide (show v2.ownBlock = none ∨ v2.ownBlock = some W1.heap.size from hv2); obtain ⟨a2, cap2, rfl, -, -⟩ := own_cap (unhide HO2); clear hown2 hgrow2 hv2)
            all_goals (clear d2 f2; revert a2 cap2 w2; first | exact unhide KEY | (trace "no"; sorry))
          intro w2 HBX2 HB12 a2 cap2 HO2 HV2
          have HG2 := hide (show (Value.slice a2 nl cap2).ownBlock = none ∨ (Value.slice a2 nl cap2).ownBlock = some (W.heap.size + 1) by
            rw [← unhide HS1]; exact unhide HV2)
          have HBW3 := hide (below_set (bl_t (unhide HBW1) (unhide HB12)) W.heap.size 1 (.slice a2 nl cap2) (Nat.le_refl _))
          have HBX3 := hide (show (w2.setCell ⟨W.heap.size, 1, none⟩ (.slice a2 nl cap2)).heap[W.heap.size]? = some (.cells #[.string (ba nm), .slice a2 nl cap2, .slice none 0 0] 30 (0, 0)) from set_blk (unhide HBX2) 1 _)
          have HO3 := hide (show (w2.setCell ⟨W.heap.size, 1, none⟩ (.slice a2 nl cap2)).ownsRow W2.heap.size 9 1 (.slice a2 nl cap2) nl (strs ls) from ownsRow_same (unhide HO2) fun g c hg hc => set_other _ _ _ _ _ (fun e => by
            subst e
            have := (unhide HBX2).symm.trans hc
            cases this))
          have HZ3 := hide (set_size w2 W.heap.size 1 (.slice a2 nl cap2))
          have HZ12 := hide (show W.heap.size + 1 ≤ w2.heap.size by have h := (unhide HB12).size; rw [unhide HS1] at h; exact h)
          clear HBX1 HBX2 d15 HO2 HBW1
          generalize hW3 : w2.setCell ⟨W.heap.size, 1, none⟩ (.slice a2 nl cap2) = W3 at *
          have HW3 := hide hW3
          clear hW3
          have d35 := (cell_blk (unhide HBX3) 1).1
          have d36 := (cell_blk (unhide HBX3) 1).2
          have hz35 : W2.heap.size ≤ W3.heap.size := Nat.le_trans hz3 (unhide HBW3).size
          have HGj := hide (show ∀ j, (Value.slice a2 nl cap2).ownBlock = some j → j = W.heap.size + 1 from fun j e => by
            rcases unhide HG2 with q | q
            · rw [q] at e; cases e
            · rw [q] at e; cases e; rfl)
          have HNE := hide (show some W.heap.size ≠ (Value.slice a2 nl cap2).ownBlock from fun e => by
            obtain ⟨c', h1, _⟩ := ownsRow_blk (unhide HO3) e.symm
            have := (unhide HBX3).symm.trans h1
            cases this)
          have HLT := hide (show W.heap.size + 1 ≤ W3.heap.size by rw [unhide HZ3]; exact unhide HZ12)
          go_wp2_with (at_builtin; go_must (refine wpList_append_lies _ rfl _ _ 27 rfl W2.heap.size 9 i9 (.string ⟨#[]⟩) 1 16 Try.underlying27 hi9 z9a z9b z9c rfl (by decide) (.slice a2 nl cap2) nl (strs ls) rfl ((unhide HO3).alloc _) ⟨_, 0, none⟩ 2 2 markS rfl rfl (cells2_new _ _ _ _) (by simp [markS, Value.oneCell']) (by decide) (by unfold maxLen; omega) (by omega) (by simp; omega) (W3.heap.size + 1) (by simp) ?_); intro lb lcp w4 hown4 hgrow4 hv4 hl4; have HO4 := hide (show w4.ownsRow W2.heap.size 9 1 (.slice (some ⟨lb, 0, none⟩) (nl + 2) lcp) (nl + 2) (strs ls ++ markS) from hown4); have HBX4 := hide ((hgrow4.block W.heap.size (by have := unhide HLT; simp; omega) (unhide HNE)).trans ((Below.heap_alloc W3 _ W.heap.size (by have := unhide HLT; omega)).trans (unhide HBX3))); have d4 := (cell_blk (unhide HBX4) 1).1; have f4 := (cell_blk (unhide HBX4) 1).2; have HLB := hide (show W.heap.size < lb ∧ lb < w4.heap.size from ⟨hv4.elim (fun e => by have := unhide HGj _ e; omega) (fun e => by have := unhide HLT; omega), hl4⟩); have HB34 := hide ((unhide HBW3).alloc (Nat.le_trans (by have := unhide HLT; omega) (Nat.le_refl W3.heap.size)) _ |>.grown hgrow4 (by have := unhide HLT; simp; omega) (fun j e => by have := unhide HGj _ e; omega)); clear hown4 hgrow4 hv4 hl4)
          have HBW5 := hide (below_set (unhide HB34) W.heap.size 1 (.slice (some ⟨lb, 0, none⟩) (nl + 2) lcp) (Nat.le_refl _))
          have HBX5 := hide (show (w4.setCell ⟨W.heap.size, 1, none⟩ (.slice (some ⟨lb, 0, none⟩) (nl + 2) lcp)).heap[W.heap.size]? = some (.cells #[.string (ba nm), .slice (some ⟨lb, 0, none⟩) (nl + 2) lcp, .slice none 0 0] 30 (0, 0)) from set_blk (unhide HBX4) 1 _)
          have HO5 := hide (show (w4.setCell ⟨W.heap.size, 1, none⟩ (.slice (some ⟨lb, 0, none⟩) (nl + 2) lcp)).ownsRow W2.heap.size 9 1 (.slice (some ⟨lb, 0, none⟩) (nl + 2) lcp) (nl + 2) (strs ls ++ markS) from ownsRow_same (unhide HO4) fun g c hg hc => set_other _ _ _ _ _ (fun e => by
            subst e
            have := (unhide HBX4).symm.trans hc
            cases this))
          have HLB5 := hide (show W.heap.size < lb ∧ lb < (w4.setCell ⟨W.heap.size, 1, none⟩ (.slice (some ⟨lb, 0, none⟩) (nl + 2) lcp)).heap.size by rw [set_size]; exact unhide HLB)
          clear HBX3 HBX4 d35 d36 d4 f4 HO3 HO4 HBW3 HB34 HGj HNE HLT HG2 HW3 HZ3 HZ12 HLB HB12 HV2 hz35
          generalize hW5 : w4.setCell ⟨W.heap.size, 1, none⟩ (.slice (some ⟨lb, 0, none⟩) (nl + 2) lcp) = W5 at *
          clear hW5
          have hcap5 : nl + 2 ≤ lcp := by
            rcases (unhide HO5).2 with ⟨h1, _⟩ | ⟨g, cap, cur, h1, _, _, hc, _⟩
            · cases h1
            · cases h1; exact hc
          have hcap5z : (nl : Int) ≤ (lcp : Int) := by omega
          have hnl0 : (0 : Int) ≤ (nl : Int) := by omega
          obtain ⟨d5U, d51⟩ := unhide HKp W5 (unhide HBW5)
          have d5 := (cell_blk (unhide HBX5) 1).1
          have f5 := (cell_blk (unhide HBX5) 1).2
          go_region
          have HBW7 := hide ((below_set (unhide HBW5) W.heap.size 1 (.slice (some ⟨lb, 0, none⟩) nl lcp) (Nat.le_refl _)).drew)
          have HBX7 := hide (show (W5.setCell ⟨W.heap.size, 1, none⟩ (.slice (some ⟨lb, 0, none⟩) nl lcp)).drew.heap[W.heap.size]? = some (.cells #[.string (ba nm), .slice (some ⟨lb, 0, none⟩) nl lcp, .slice none 0 0] 30 (0, 0)) from set_blk (unhide HBX5) 1 _)
          have HO7 := hide (show (W5.setCell ⟨W.heap.size, 1, none⟩ (.slice (some ⟨lb, 0, none⟩) nl lcp)).drew.ownsRow W2.heap.size 9 1 (.slice (some ⟨lb, 0, none⟩) (nl + 2) lcp) (nl + 2) (strs ls ++ markS) from ownsRow_same (unhide HO5) fun g c hg hc => set_other W5 _ _ _ _ (fun e => by
            subst e
            have := (unhide HBX5).symm.trans hc
            cases this))
          have HLB7 := hide (show W.heap.size < lb ∧ lb < (W5.setCell ⟨W.heap.size, 1, none⟩ (.slice (some ⟨lb, 0, none⟩) nl lcp)).drew.heap.size by show W.heap.size < lb ∧ lb < (W5.setCell ⟨W.heap.size, 1, none⟩ (.slice (some ⟨lb, 0, none⟩) nl lcp)).heap.size; rw [set_size]; exact unhide HLB5)
          clear HBX5 d5U d51 d5 f5 HO5 HLB5 HBW5 hcap5 hcap5z hnl0
          generalize hW7 : (W5.setCell ⟨W.heap.size, 1, none⟩ (.slice (some ⟨lb, 0, none⟩) nl lcp)).drew = W7 at *
          clear hW7
          go_wp2
          apply merge
          case h =>
            intro KEY
            obtain ⟨d7U, d75⟩ := unhide HKq W7 (unhide HBW7)
            have d72 := (cell_blk (unhide HBX7) 2).1
            go_region_law (refine step_app (by rfl) _ _ 28 (by rfl) W2.heap.size 3 i3 (.int .i64 0) 8 Try.underlying28 hi3 z3a z3b z3c rfl (by rfl) na nn nc (intz ns) (by rfl) (unhide HIL) (show Cl W7 na (intz ns) from (unhide HEN).later (unhide HBW7)) (unhide HEO) (by unfold maxLen; omega) (by omega) (by show W2.heap.size ≤ W7.heap.size; have := (unhide HBW7).size; omega) ?_; intro v8 w8 hown8 hgrow8 hv8; have HBX8 := hide ((hgrow8.block W.heap.size (by show W.heap.size < W7.heap.size; have := unhide HLB7; omega) (by simp)).trans (unhide HBX7)); have d8 := (cell_blk (unhide HBX8) 2).1; have f8 := (cell_blk (unhide HBX8) 2).2; have HO8 := hide (show w8.ownsRow W2.heap.size 3 1 v8 nn (intz ns) from hown8); have HB78 := hide (show Below W7.heap.size W7 w8 from ⟨hgrow8.os, hgrow8.tape, hgrow8.output, hgrow8.size, fun k hk => hgrow8.block k hk (by simp)⟩); have HV8 := hide (show v8.ownBlock = none ∨ v8.ownBlock = some W7.heap.size from hv8); obtain ⟨a8, cap8, rfl, -, -⟩ := own_cap (unhide HO8); clear hown8 hgrow8 hv8)
            all_goals (clear d8 f8; revert a8 cap8 w8; exact unhide KEY)
          intro w8 HBX8 HB78 a8 cap8 HO8 HV8
          have HGj := hide (show ∀ j, (Value.slice a8 nn cap8).ownBlock = some j → j = W7.heap.size from fun j e => by
            rcases unhide HV8 with q | q
            · rw [q] at e; cases e
            · rw [q] at e; cases e; rfl)
          have HBW9 := hide (below_set (bl_t (unhide HBW7) (unhide HB78)) W.heap.size 2 (.slice a8 nn cap8) (Nat.le_refl _))
          have HBX9 := hide (show (w8.setCell ⟨W.heap.size, 2, none⟩ (.slice a8 nn cap8)).heap[W.heap.size]? = some (.cells #[.string (ba nm), .slice (some ⟨lb, 0, none⟩) nl lcp, .slice a8 nn cap8] 30 (0, 0)) from set_blk (unhide HBX8) 2 _)
          have HO9 := hide (show (w8.setCell ⟨W.heap.size, 2, none⟩ (.slice a8 nn cap8)).ownsRow W2.heap.size 3 1 (.slice a8 nn cap8) nn (intz ns) from ownsRow_same (unhide HO8) fun g c hg hc => set_other _ _ _ _ _ (fun e => by
            subst e
            have := (unhide HBX8).symm.trans hc
            cases this))
          have HP9 := hide (show (w8.setCell ⟨W.heap.size, 2, none⟩ (.slice a8 nn cap8)).ownsRow W2.heap.size 9 1 (.slice (some ⟨lb, 0, none⟩) (nl + 2) lcp) (nl + 2) (strs ls ++ markS) from ownsRow_same (unhide HO7) fun g c hg hc => (set_other _ _ _ _ _ (fun e => by
            subst e
            have := (unhide HBX7).symm.trans hc
            cases this)).trans ((unhide HB78).block g (Array.getElem?_eq_some_iff.1 hc).1))
          have HLT := hide (show W.heap.size < W7.heap.size ∧ lb < W7.heap.size ∧ W.heap.size < lb ∧ W7.heap.size ≤ (w8.setCell ⟨W.heap.size, 2, none⟩ (.slice a8 nn cap8)).heap.size by
            rw [set_size]
            have h1 := unhide HLB7
            have h2 := (unhide HB78).size
            omega)
          clear HBX7 HBX8 HO8 HO7 HB78 HBW7 HLB7 HV8
          generalize hW9 : w8.setCell ⟨W.heap.size, 2, none⟩ (.slice a8 nn cap8) = W9 at *
          clear hW9
          have d95 := (cell_blk (unhide HBX9) 2).1
          have d96 := (cell_blk (unhide HBX9) 2).2
          have hz95 : W2.heap.size ≤ W9.heap.size := Nat.le_trans hz3 (unhide HBW9).size
          have HNE := hide (show some W.heap.size ≠ (Value.slice a8 nn cap8).ownBlock from fun e => by
            obtain ⟨c', h1, _⟩ := ownsRow_blk (unhide HO9) e.symm
            have := (unhide HBX9).symm.trans h1
            cases this)
          have HNF := hide (show some lb ≠ (Value.slice a8 nn cap8).ownBlock from fun e => by
            have h1 := unhide HGj _ e.symm
            have h2 := unhide HLT
            omega)
          go_wp2_with (at_builtin; go_must (refine wpList_append_lies _ rfl _ _ 28 rfl W2.heap.size 3 i3 (.int .i64 0) 1 8 Try.underlying28 hi3 z3a z3b z3c rfl (by decide) (.slice a8 nn cap8) nn (intz ns) rfl ((unhide HO9).alloc _) ⟨_, 0, none⟩ 2 2 markN rfl rfl (cells2_new _ _ _ _) (by simp [markN, Value.oneCell']) (by decide) (by unfold maxLen; omega) (by omega) (by simp; omega) (W9.heap.size + 1) (by simp) ?_); intro ab acp w10 hown10 hgrow10 hv10 hl10; have HO10 := hide (show w10.ownsRow W2.heap.size 3 1 (.slice (some ⟨ab, 0, none⟩) (nn + 2) acp) (nn + 2) (intz ns ++ markN) from hown10); have HBX10 := hide ((hgrow10.block W.heap.size (by have := unhide HLT; simp; omega) (unhide HNE)).trans ((Below.heap_alloc W9 _ W.heap.size (by have := unhide HLT; omega)).trans (unhide HBX9))); have d10 := (cell_blk (unhide HBX10) 2).1; have f10 := (cell_blk (unhide HBX10) 2).2; have HP10 := hide (show w10.ownsRow W2.heap.size 9 1 (.slice (some ⟨lb, 0, none⟩) (nl + 2) lcp) (nl + 2) (strs ls ++ markS) from ownsRow_same (unhide HP9) fun g c hg hc => by (have hgl : g = lb := (by cases hg; rfl); subst hgl; exact (hgrow10.block g (by have := unhide HLT; simp; omega) (unhide HNF)).trans (Below.heap_alloc W9 _ g (by have := unhide HLT; omega)))); have HAB := hide (show W.heap.size < ab ∧ ab < w10.heap.size ∧ lb < w10.heap.size from ⟨hv10.elim (fun e => by have h1 := unhide HGj _ e; have := unhide HLT; omega) (fun e => by have := unhide HLT; omega), hl10, by have h1 := hgrow10.size; have := unhide HLT; simp at h1; omega⟩); have HB910 := hide ((unhide HBW9).alloc (Nat.le_trans (by have := unhide HLT; omega) (Nat.le_refl W9.heap.size)) _ |>.grown hgrow10 (by have := unhide HLT; simp; omega) (fun j e => by have h1 := unhide HGj _ e; have := unhide HLT; omega)); clear hown10 hgrow10 hv10 hl10)
          have HBW11 := hide (below_set (unhide HB910) W.heap.size 2 (.slice (some ⟨ab, 0, none⟩) (nn + 2) acp) (Nat.le_refl _))
          have HBX11 := hide (show (w10.setCell ⟨W.heap.size, 2, none⟩ (.slice (some ⟨ab, 0, none⟩) (nn + 2) acp)).heap[W.heap.size]? = some (.cells #[.string (ba nm), .slice (some ⟨lb, 0, none⟩) nl lcp, .slice (some ⟨ab, 0, none⟩) (nn + 2) acp] 30 (0, 0)) from set_blk (unhide HBX10) 2 _)
          have HO11 := hide (show (w10.setCell ⟨W.heap.size, 2, none⟩ (.slice (some ⟨ab, 0, none⟩) (nn + 2) acp)).ownsRow W2.heap.size 3 1 (.slice (some ⟨ab, 0, none⟩) (nn + 2) acp) (nn + 2) (intz ns ++ markN) from ownsRow_same (unhide HO10) fun g c hg hc => set_other _ _ _ _ _ (fun e => by
            subst e
            have := (unhide HBX10).symm.trans hc
            cases this))
          have HP11 := hide (show (w10.setCell ⟨W.heap.size, 2, none⟩ (.slice (some ⟨ab, 0, none⟩) (nn + 2) acp)).ownsRow W2.heap.size 9 1 (.slice (some ⟨lb, 0, none⟩) (nl + 2) lcp) (nl + 2) (strs ls ++ markS) from ownsRow_same (unhide HP10) fun g c hg hc => set_other _ _ _ _ _ (fun e => by
            subst e
            have := (unhide HBX10).symm.trans hc
            cases this))
          have HLB11 := hide (show W.heap.size < lb ∧ W.heap.size < ab ∧ ab < (w10.setCell ⟨W.heap.size, 2, none⟩ (.slice (some ⟨ab, 0, none⟩) (nn + 2) acp)).heap.size ∧ lb < (w10.setCell ⟨W.heap.size, 2, none⟩ (.slice (some ⟨ab, 0, none⟩) (nn + 2) acp)).heap.size by
            rw [set_size]
            have h1 := unhide HAB
            have h2 := unhide HLT
            omega)
          clear HBX9 HBX10 d95 d96 d10 f10 HO9 HO10 HP9 HP10 HBW9 HB910 HGj HNE HNF HLT HAB hz95
          generalize hW11 : w10.setCell ⟨W.heap.size, 2, none⟩ (.slice (some ⟨ab, 0, none⟩) (nn + 2) acp) = W11 at *
          clear hW11
          have hcap11 : nn + 2 ≤ acp := by
            rcases (unhide HO11).2 with ⟨h1, _⟩ | ⟨g, cap, cur, h1, _, _, hc, _⟩
            · cases h1
            · cases h1; exact hc
          have hcap11z : (nn : Int) ≤ (acp : Int) := by omega
          have hnn0 : (0 : Int) ≤ (nn : Int) := by omega
          obtain ⟨d11U, d115⟩ := unhide HKq W11 (unhide HBW11)
          have d112 := (cell_blk (unhide HBX11) 2).1
          have f112 := (cell_blk (unhide HBX11) 2).2
          go_region
          have HBW13 := hide ((below_set (unhide HBW11) W.heap.size 2 (.slice (some ⟨ab, 0, none⟩) nn acp) (Nat.le_refl _)).drew)
          have HBX13 := hide (show (W11.setCell ⟨W.heap.size, 2, none⟩ (.slice (some ⟨ab, 0, none⟩) nn acp)).drew.heap[W.heap.size]? = some (.cells #[.string (ba nm), .slice (some ⟨lb, 0, none⟩) nl lcp, .slice (some ⟨ab, 0, none⟩) nn acp] 30 (0, 0)) from set_blk (unhide HBX11) 2 _)
          have HO13 := hide (show (W11.setCell ⟨W.heap.size, 2, none⟩ (.slice (some ⟨ab, 0, none⟩) nn acp)).drew.ownsRow W2.heap.size 3 1 (.slice (some ⟨ab, 0, none⟩) (nn + 2) acp) (nn + 2) (intz ns ++ markN) from ownsRow_same (unhide HO11) fun g c hg hc => set_other W11 _ _ _ _ (fun e => by
            subst e
            have := (unhide HBX11).symm.trans hc
            cases this))
          have HP13 := hide (show (W11.setCell ⟨W.heap.size, 2, none⟩ (.slice (some ⟨ab, 0, none⟩) nn acp)).drew.ownsRow W2.heap.size 9 1 (.slice (some ⟨lb, 0, none⟩) (nl + 2) lcp) (nl + 2) (strs ls ++ markS) from ownsRow_same (unhide HP11) fun g c hg hc => set_other W11 _ _ _ _ (fun e => by
            subst e
            have := (unhide HBX11).symm.trans hc
            cases this))
          have HLB13 := hide (show W.heap.size < lb ∧ W.heap.size < ab ∧ ab < (W11.setCell ⟨W.heap.size, 2, none⟩ (.slice (some ⟨ab, 0, none⟩) nn acp)).drew.heap.size ∧ lb < (W11.setCell ⟨W.heap.size, 2, none⟩ (.slice (some ⟨ab, 0, none⟩) nn acp)).drew.heap.size by
            show W.heap.size < lb ∧ W.heap.size < ab ∧ ab < (W11.setCell ⟨W.heap.size, 2, none⟩ (.slice (some ⟨ab, 0, none⟩) nn acp)).heap.size ∧ lb < (W11.setCell ⟨W.heap.size, 2, none⟩ (.slice (some ⟨ab, 0, none⟩) nn acp)).heap.size
            rw [set_size]
            exact unhide HLB11)
          clear HBX11 d11U d115 d112 f112 HO11 HP11 HLB11 HBW11 hcap11 hcap11z hnn0
          generalize hW13 : (W11.setCell ⟨W.heap.size, 2, none⟩ (.slice (some ⟨ab, 0, none⟩) nn acp)).drew = W13 at *
          clear hW13
          have y0 := (cell_blk (unhide HBX13) 0).1
          have y1 := (cell_blk (unhide HBX13) 1).1
          have y2 := (cell_blk (unhide HBX13) 2).1
          have HRp := hide (ownsRow_bl (unhide HPO).p (unhide HBW13))
          have HRo := hide (ownsRow_bl (unhide HPO).o (unhide HBW13))
          have hz13 : W2.heap.size ≤ W13.heap.size := Nat.le_trans hz3 (unhide HBW13).size
          have hlb13 : W.heap.size < W13.heap.size := by have := unhide HLB13; omega
          have HNo := hide (show ∀ j, u6.ownBlock = some j → j < W.heap.size ∧ some j ≠ u5.ownBlock from fun j e => ⟨(ownsRow_blk (unhide HPO).o e).choose_spec.2.2, fun q => (unhide HPO).po j q.symm e⟩)
          have HNp := hide (show some W.heap.size ≠ u5.ownBlock from fun e => by have := (ownsRow_blk (unhide HPO).p e.symm).choose_spec.2.2; omega)
          go_wp2_with (first | (at_builtin; (refine wpList_append_lies _ rfl _ _ 22 rfl W2.heap.size 30 i49 (.agg #[.string ⟨#[]⟩, .slice none 0 0, .slice none 0 0]) 3 64 Try.underlying22 hi49 z49a z49b z49c rfl (by decide) u5 xs.length (xs.flatMap cellsL) rfl ((unhide HRp).alloc _) ⟨_, 0, none⟩ 1 1 [.string (ba nm), .slice (some ⟨lb, 0, none⟩) nl lcp, .slice (some ⟨ab, 0, none⟩) nn acp] rfl rfl (cells3_new _ _ _ _ _) (by simp [Value.oneCell']) (by decide) (by unfold maxLen; omega) (by omega) (by simp; omega) (W13.heap.size + 1) (by simp) ?_); intro pb pcp w15 hown15 hgrow15 hv15 hl15; have HO15 := hide hown15; have HG15 := hide hgrow15; have HV15 := hide hv15; have HL15 := hide hl15; have HBX15 := hide ((hgrow15.block W.heap.size (by simp; omega) (unhide HNp)).trans ((Below.heap_alloc W13 _ W.heap.size hlb13).trans (unhide HBX13))); have HRo15 := hide (show w15.ownsRow W2.heap.size 30 3 u6 xs.length (xs.flatMap cellsL) from ownsRow_same (unhide HRo) fun g c hg hc => (hgrow15.block g (by have := (unhide HNo g hg).1; simp; omega) (unhide HNo g hg).2).trans (Below.heap_alloc W13 _ g (by have := (unhide HNo g hg).1; omega))); have x0 := (cell_blk (unhide HBX15) 0).1; have x1 := (cell_blk (unhide HBX15) 1).1; have x2 := (cell_blk (unhide HBX15) 2).1; have hz15 : W13.heap.size + 1 ≤ w15.heap.size := (by have := hgrow15.size; simpa using this); clear y0 y1 y2 hown15 hgrow15 hv15 hl15) | (at_builtin; go_must (refine wpList_append_lies _ rfl _ _ 22 rfl W2.heap.size 30 i49 (.agg #[.string ⟨#[]⟩, .slice none 0 0, .slice none 0 0]) 3 64 Try.underlying22 hi49 z49a z49b z49c rfl (by decide) u6 xs.length (xs.flatMap cellsL) rfl ((unhide HRo15).alloc _) ⟨_, 0, none⟩ 1 1 [.string (ba nm), .slice (some ⟨lb, 0, none⟩) nl lcp, .slice (some ⟨ab, 0, none⟩) nn acp] rfl rfl (cells3_new _ _ _ _ _) (by simp [Value.oneCell']) (by decide) (by unfold maxLen; omega) (by omega) (by simp; omega) (w15.heap.size + 1) (by simp) ?_); intro ob ocp w17 hown17 hgrow17 hv17 hl17; have HO17 := hide hown17; have HG17 := hide hgrow17; have HV17 := hide hv17; have HL17 := hide hl17; clear hown17 hgrow17 hv17 hl17))
          have HLM := hide (LP_more (x := ⟨⟨nm, ls, ns⟩, lb, lcp, ab, acp⟩) (unhide HPO) hz3 (unhide HBW13) (by show W13.ownsRow W2.heap.size 9 1 (.slice (some ⟨lb, 0, none⟩) (ls.length + 2) lcp) (ls.length + 2) (strs ls ++ markS); rw [unhide HNL]; exact unhide HP13) (by show W13.ownsRow W2.heap.size 3 1 (.slice (some ⟨ab, 0, none⟩) (ns.length + 2) acp) (ns.length + 2) (intz ns ++ markN); rw [unhide HNN]; exact unhide HO13) (unhide HLB13) (unhide HG15) (by show w15.ownsRow W2.heap.size 30 3 (.slice (some ⟨pb, 0, none⟩) (xs.length + 1) pcp) (xs.length + 1) (xs.flatMap cellsL ++ [.string (ba nm), .slice (some ⟨lb, 0, none⟩) ls.length lcp, .slice (some ⟨ab, 0, none⟩) ns.length acp]); rw [unhide HNL, unhide HNN]; exact unhide HO15) (unhide HV15) (unhide HG17) (by show w17.ownsRow W2.heap.size 30 3 (.slice (some ⟨ob, 0, none⟩) (xs.length + 1) ocp) (xs.length + 1) (xs.flatMap cellsL ++ [.string (ba nm), .slice (some ⟨lb, 0, none⟩) ls.length lcp, .slice (some ⟨ab, 0, none⟩) ns.length acp]); rw [unhide HNL, unhide HNN]; exact unhide HO17) (unhide HV17))
          go_roundw
          case rel => exact ⟨k + 1, _, _, xs ++ [⟨⟨nm, ls, ns⟩, lb, lcp, ab, acp⟩], by omega, by go_num, rfl, rfl, by rw [unhide HT, ← unhide HX1]; simp, hide (by have h := (unhide HLM).1; rw [hxl] at h; exact h), hide ((unhide HB2).trans (unhide HLM).2)⟩
          case measure => simp [intOf]; omega
        · obtain rfl : k = p.length := by omega
          have hxl : xs.length = p.length := by have := congrArg List.length hxs; rw [List.length_map, List.length_take] at this; omega
          have HX1 := hide (show xs.map (·.f) = p by rw [hxs, List.take_length])
          have hz3 := (unhide HB2).size
          have HRp := hide (unhide HPO).p
          obtain ⟨oa, oc, rfl⟩ : ∃ oa oc, u6 = .slice oa p.length oc := by
            rcases (unhide HPO).o.2 with ⟨h1, h2⟩ | ⟨g, cap, cur, h1, _⟩
            · exact ⟨none, 0, by rw [h1, ← hxl, h2]⟩
            · exact ⟨_, cap, by rw [h1, hxl]⟩
          clear hxs
          go_wp2_with (at_builtin; go_must (refine wpList_append_lies _ rfl _ _ 22 rfl W2.heap.size 30 i49 (.agg #[.string ⟨#[]⟩, .slice none 0 0, .slice none 0 0]) 3 64 Try.underlying22 hi49 z49a z49b z49c rfl (by decide) u5 xs.length (xs.flatMap cellsL) rfl ((unhide HRp).alloc _) ⟨_, 0, none⟩ 2 2 [.string ⟨#[42]⟩, .slice none 0 0, .slice none 0 0, .string ⟨#[42, 42]⟩, .slice none 0 0, .slice none 0 0] rfl rfl (cells6_new _ _ _ _ _ _ _ _) (by simp [Value.oneCell']) (by decide) (by unfold maxLen; omega) (by omega) (by simp; omega) (W.heap.size + 1) (by simp) ?_); intro pb pcp w15 hown15 hgrow15 hv15 hl15; have HO15 := hide hown15; have HG15 := hide hgrow15; have HV15 := hide hv15; have HL15 := hide hl15; clear hown15 hgrow15 hv15 hl15)
          have HE15 := hide (LP_end (lo := w.heap.size + 2) (unhide HPO) (by have h1 := (Array.getElem?_eq_some_iff.1 (unhide HLL).x).1; omega) hz3 (unhide HG15) (unhide HO15))
          have HSp := hide (show ((qs ++ [(⟨xs, pb, pcp, .slice oa p.length oc⟩ : Lq)]).flatMap fun q => q.xs.map (·.lb)).Pairwise (· < ·) from by
            rw [List.flatMap_append]
            refine List.pairwise_append.2 ⟨(unhide HLL).s, by simpa using (unhide HPO).s, fun a ha b hb => ?_⟩
            obtain ⟨q, hq, ha⟩ := List.mem_flatMap.1 ha
            obtain ⟨y, hy, rfl⟩ := List.mem_map.1 ha
            have h1 := (((unhide HLL).q q hq).f y hy).2
            simp at hb
            obtain ⟨z, hz, rfl⟩ := hb
            have h2 := ((unhide HPO).f z hz).2.1
            omega)
          have HB15 := hide (show Below W2.heap.size W2 w15 from (unhide HB2).trans (unhide HE15).2)
          have HLL15 := hide ((unhide HLL).later (unhide HB15))
          have dU15 := cell_later (cell_later (unhide HU) (unhide HB)) (unhide HB15)
          have hcapp : p.length + 2 ≤ pcp := by
            rcases (unhide HO15).2 with ⟨h1, _⟩ | ⟨g, cap, cur, h1, _, _, hc, _⟩
            · cases h1
            · cases h1; omega
          have hcappz : (p.length : Int) ≤ (pcp : Int) := by omega
          have hp0 : (0 : Int) ≤ (p.length : Int) := by omega
          have hz15 : w.heap.size + 2 ≤ w15.heap.size := by
            have h1 := (Array.getElem?_eq_some_iff.1 (unhide HLL15).x).1
            omega
          have HM15 := hide (show LM (w.heap.size + 2) w15 (w.heap.size + 1) L P F (qs.map pcell) (qs.map pcell) (qs.map (·.ov)) (qs ++ [⟨xs, pb, pcp, .slice oa p.length oc⟩]) from by
            have h := (unhide HLL15).lm
            exact ⟨h.x, h.l, h.p, h.f, h.lp, h.pf, fun q hq => by
              rcases List.mem_append.1 hq with hq | hq
              · exact h.q q hq
              · rw [List.mem_singleton.1 hq]; exact (unhide HE15).1⟩)
          have hla1 : (qs.map pcell).length = i := by rw [List.length_map]; exact hql
          have hfa1 : (qs.map (·.ov)).length = i := by rw [List.length_map]; exact hql
          have HLa := hide (show (qs ++ [(⟨xs, pb, pcp, .slice oa p.length oc⟩ : Lq)]).map pcell = qs.map pcell ++ [.slice (some ⟨pb, 0, none⟩) p.length pcp] by simp [pcell, hxl])
          have HFa := hide (show (qs ++ [(⟨xs, pb, pcp, .slice oa p.length oc⟩ : Lq)]).map (·.ov) = qs.map (·.ov) ++ [.slice oa p.length oc] by simp)
          have HBw15 := hide (bl_t (unhide HB) (unhide HB15))
          clear HO15 HG15 HV15 HL15 HRp HLL15 dU15
          generalize hla : qs.map pcell = la at *
          generalize hfa : qs.map (·.ov) = fa at *
          clear hla hfa
          apply merge
          case h =>
            intro KEY
            have dU15 := cell_later (unhide HU) (unhide HBw15)
            have dX0 := (cell_blk (unhide HM15).x 0).1
            go_region_law (refine step_append_lies _ (by rfl) _ _ 23 (by rfl) (w.heap.size + 2) 22 i39 (.slice none 0 0) 1 24 Try.underlying23 hi39 z39a z39b z39c rfl (by decide) L la.length la (by rfl) ((unhide HM15).drew.l.alloc _) ⟨_, 0, none⟩ 1 1 [.slice (some ⟨pb, 0, none⟩) p.length pcp] (by rfl) rfl (cell_one_new _ _ _) (by simp [Value.oneCell']) (by decide) (by unfold maxLen; omega) (by omega) (by simp; omega) (w15.heap.size + 1) (by simp) ?_; intro lg lgc w20 hown20 hgrow20 hv20 hl20; have HA20 := hide ((unhide HM15).drew.appL (B := w1.heap.size) hz15 (by omega) (by omega) hgrow20 hown20 hv20); have HX20 := hide ((hgrow20.block (w.heap.size + 1) (by simp; omega) (fun e => by have := (ownsRow_blk (unhide HM15).l e.symm).choose_spec.2.1; omega)).trans ((Below.heap_alloc w15.drew _ (w.heap.size + 1) (by show w.heap.size + 1 < w15.heap.size; omega)).trans (unhide HM15).x)); have d20 := (cell_blk (unhide HX20) 0).1; have f20 := (cell_blk (unhide HX20) 0).2; clear hown20 hgrow20 hv20 hl20)
            all_goals (clear d20 f20 HX20; revert lg lgc w20; exact unhide KEY)
          intro lg lgc w20 HA20
          rw [hla1] at HA20
          have HM21 := hide (unhide HA20).1
          have HBw21 := hide (show Below w1.heap.size w1 (w20.setCell ⟨w.heap.size + 1, 0, none⟩ (.slice (some ⟨lg, 0, none⟩) (i + 1) lgc)) from (unhide HBw15).drew.trans (unhide HA20).2)
          clear HA20 HM15
          generalize hW21 : w20.setCell ⟨w.heap.size + 1, 0, none⟩ (.slice (some ⟨lg, 0, none⟩) (i + 1) lgc) = W21 at *
          clear hW21
          have hz21 : w.heap.size + 2 ≤ W21.heap.size := by
            have h1 := (Array.getElem?_eq_some_iff.1 (unhide HM21).x).1
            omega
          go_wp2
          apply merge
          case h =>
            intro KEY
            have dU21 := cell_later (unhide HU) (unhide HBw21)
            have dX1 := (cell_blk (unhide HM21).x 1).1
            go_region_law (refine step_append_lies _ (by rfl) _ _ 23 (by rfl) (w.heap.size + 2) 22 i39 (.slice none 0 0) 1 24 Try.underlying23 hi39 z39a z39b z39c rfl (by decide) P la.length la (by rfl) ((unhide HM21).drew.p.alloc _) ⟨_, 0, none⟩ 1 1 [.slice (some ⟨pb, 0, none⟩) p.length pcp] (by rfl) rfl (cell_one_new _ _ _) (by simp [Value.oneCell']) (by decide) (by unfold maxLen; omega) (by omega) (by simp; omega) (W21.heap.size + 1) (by simp) ?_; intro mg mgc w22 hown22 hgrow22 hv22 hl22; have HA22 := hide ((unhide HM21).drew.appP (B := w1.heap.size) hz21 (by omega) (by omega) hgrow22 hown22 hv22); have HX22 := hide ((hgrow22.block (w.heap.size + 1) (by simp; omega) (fun e => by have := (ownsRow_blk (unhide HM21).p e.symm).choose_spec.2.1; omega)).trans ((Below.heap_alloc W21.drew _ (w.heap.size + 1) (by show w.heap.size + 1 < W21.heap.size; omega)).trans (unhide HM21).x)); have d22 := (cell_blk (unhide HX22) 1).1; have f22 := (cell_blk (unhide HX22) 1).2; clear hown22 hgrow22 hv22 hl22)
            all_goals (clear d22 f22 HX22; revert mg mgc w22; exact unhide KEY)
          intro mg mgc w22 HA22
          rw [hla1] at HA22
          have HM23 := hide (unhide HA22).1
          have HBw23 := hide (show Below w1.heap.size w1 (w22.setCell ⟨w.heap.size + 1, 1, none⟩ (.slice (some ⟨mg, 0, none⟩) (i + 1) mgc)) from (unhide HBw21).drew.trans (unhide HA22).2)
          clear HA22 HM21
          generalize hW23 : w22.setCell ⟨w.heap.size + 1, 1, none⟩ (.slice (some ⟨mg, 0, none⟩) (i + 1) mgc) = W23 at *
          clear hW23
          have hz23 : w.heap.size + 2 ≤ W23.heap.size := by
            have h1 := (Array.getElem?_eq_some_iff.1 (unhide HM23).x).1
            omega
          have dX2 := (cell_blk (unhide HM23).x 2).1
          go_wp2_with (at_builtin; go_must (refine wpList_append_lies _ rfl _ _ 23 rfl (w.heap.size + 2) 22 i39 (.slice none 0 0) 1 24 Try.underlying23 hi39 z39a z39b z39c rfl (by decide) F fa.length fa rfl ((unhide HM23).f.alloc _) ⟨_, 0, none⟩ 1 1 [.slice oa p.length oc] rfl rfl (cell_one_new _ _ _) (by simp [Value.oneCell']) (by decide) (by unfold maxLen; omega) (by omega) (by simp; omega) (W23.heap.size + 1) (by simp) ?_); intro ng ngc w24 hown24 hgrow24 hv24 hl24; have HA24 := hide ((unhide HM23).appF (B := w1.heap.size) hz23 (by omega) (by omega) hgrow24 hown24 hv24); have HX24 := hide ((hgrow24.block (w.heap.size + 1) (by simp; omega) (fun e => by have := (ownsRow_blk (unhide HM23).f e.symm).choose_spec.2.1; omega)).trans ((Below.heap_alloc W23 _ (w.heap.size + 1) (by omega)).trans (unhide HM23).x)); have d24 := (cell_blk (unhide HX24) 2).1; have f24 := (cell_blk (unhide HX24) 2).2; clear hown24 hgrow24 hv24 hl24)
          go_roundw
          case rel =>
            refine ⟨i + 1, _, _, _, qs ++ [⟨xs, pb, pcp, .slice oa p.length oc⟩], by omega, by go_num, ?_, hide (by have h := (unhide HA24).1; rw [hfa1, ← unhide HLa, ← unhide HFa] at h; exact h.ll (unhide HSp)), hide (by have h := (unhide HA24).2; rw [hfa1] at h; exact (unhide HBw23).trans h)⟩
            rw [List.map_append, unhide HQS, List.take_add_one, unhide HP]
            simp [unhide HX1]
          case measure => simp [intOf]; omega
    · obtain rfl : i = ps.length := by omega
      obtain ⟨pa0, pc0, rfl, -, -⟩ := own_cap (unhide HLL).p
      obtain ⟨fa0, fc0, rfl, -, -⟩ := own_cap (unhide HLL).f
      have HM := hide (unhide HLL).lm
      have HR2 := hide (((unhide HB).block w.heap.size (by omega)).trans (unhide HR1))
      have dX0 := (cell_blk (unhide HLL).x 0).1
      have hz2 := (unhide HB).size
      have hzX : w.heap.size + 2 ≤ W2.heap.size := by
        have h1 := (Array.getElem?_eq_some_iff.1 (unhide HLL).x).1
        omega
      have hla1 : (qs.map pcell).length = ps.length := by rw [List.length_map]; exact hql
      generalize hla : qs.map pcell = la at *
      have HLA := hide hla
      clear hla
      have HC0 := hide (show ∀ j u, [Value.slice (some ⟨W2.heap.size, 0, none⟩) 1 1, .slice (some ⟨W2.heap.size + 1, 0, none⟩) 1 1][j]? = some u → (((W2.alloc (.cells #[.string ⟨#[42]⟩, .slice none 0 0, .slice none 0 0] 30)).alloc (.cells #[.string ⟨#[42, 42]⟩, .slice none 0 0, .slice none 0 0] 30)).alloc (.cells #[.slice (some ⟨W2.heap.size, 0, none⟩) 1 1, .slice (some ⟨W2.heap.size + 1, 0, none⟩) 1 1] 22)).cell? ((⟨W2.heap.size + 1 + 1, 0, none⟩ : Addr).add j) = some u from by
        have h := cells2_new ((W2.alloc (.cells #[.string ⟨#[42]⟩, .slice none 0 0, .slice none 0 0] 30)).alloc (.cells #[.string ⟨#[42, 42]⟩, .slice none 0 0, .slice none 0 0] 30)) (.slice (some ⟨W2.heap.size, 0, none⟩) 1 1) (.slice (some ⟨W2.heap.size + 1, 0, none⟩) 1 1) 22
        rw [show ((W2.alloc (.cells #[.string ⟨#[42]⟩, .slice none 0 0, .slice none 0 0] 30)).alloc (.cells #[.string ⟨#[42, 42]⟩, .slice none 0 0, .slice none 0 0] 30)).heap.size = W2.heap.size + 1 + 1 by simp] at h
        exact h)
      have HL0 := hide (((unhide HM).l.alloc (.cells #[.string ⟨#[42]⟩, .slice none 0 0, .slice none 0 0] 30)).alloc (.cells #[.string ⟨#[42, 42]⟩, .slice none 0 0, .slice none 0 0] 30))
      go_wp2_with (at_builtin; go_must (refine wpList_append_lies _ rfl _ _ 23 rfl (w.heap.size + 2) 22 i39 (.slice none 0 0) 1 24 Try.underlying23 hi39 z39a z39b z39c rfl (by decide) L la.length la rfl ((unhide HL0).alloc _) ⟨_, 0, none⟩ 2 2 [.slice (some ⟨W2.heap.size, 0, none⟩) 1 1, .slice (some ⟨W2.heap.size + 1, 0, none⟩) 1 1] rfl rfl (unhide HC0) (by simp [Value.oneCell']) (by decide) (by unfold maxLen; omega) (by omega) (by simp; omega) (W2.heap.size + 3) (by simp) ?_); intro lg lgc w24 hown24 hgrow24 hv24 hl24; have HX24 := hide ((hgrow24.block (w.heap.size + 1) (by simp; omega) (fun e => by have := (ownsRow_blk (unhide HM).l e.symm).choose_spec.2.1; omega)).trans ((Below.heap_alloc _ _ (w.heap.size + 1) (by simp; omega)).trans ((Below.heap_alloc _ _ (w.heap.size + 1) (by simp; omega)).trans ((Below.heap_alloc _ _ (w.heap.size + 1) (by omega)).trans (unhide HM).x)))); have d24 := (cell_blk (unhide HX24) 0).1; have f24 := (cell_blk (unhide HX24) 0).2; have HO24 := hide hown24; have HG24 := hide hgrow24; have HV24 := hide hv24; have e1 := (cell_blk (unhide HX24) 1).1; have e2 := (cell_blk (unhide HX24) 2).1; have HR24 := hide ((hgrow24.block w.heap.size (by simp; omega) (fun e => by have := (ownsRow_blk (unhide HM).l e.symm).choose_spec.2.1; omega)).trans ((Below.heap_alloc _ _ w.heap.size (by simp; omega)).trans ((Below.heap_alloc _ _ w.heap.size (by simp; omega)).trans ((Below.heap_alloc _ _ w.heap.size (by omega)).trans (unhide HR2))))); have r0 := (cell_blk (unhide HR24) 0).2; have r1 := (cell_blk (unhide HR24) 1).2; have r2 := (cell_blk (unhide HR24) 2).2; have q0 := (cell_blk (unhide HR24) 0).1; have q1 := (cell_blk (unhide HR24) 1).1; have q2 := (cell_blk (unhide HR24) 2).1; have hcap24 : ps.length + 2 ≤ lgc := (by obtain ⟨_, _, e, h, _⟩ := own_cap hown24; cases e; omega); have hcap24z : (ps.length : Int) ≤ (lgc : Int) := (by omega); clear hown24 hgrow24 hv24 hl24)
      have HK := hide (show ∀ k, k ≠ w.heap.size + 1 → k ≠ w.heap.size → (((((w24.setCell ⟨w.heap.size + 1, 0, none⟩ (.slice (some ⟨lg, 0, none⟩) (ps.length + 2) lgc)).setCell ⟨w.heap.size + 1, 0, none⟩ (.slice (some ⟨lg, 0, none⟩) ps.length lgc)).setCell ⟨w.heap.size, 0, none⟩ (.slice (some ⟨lg, 0, none⟩) ps.length lgc)).setCell ⟨w.heap.size, 1, none⟩ (.slice pa0 ps.length pc0)).setCell ⟨w.heap.size, 2, none⟩ (.slice fa0 ps.length fc0)).heap[k]? = w24.heap[k]? from fun k h1 h2 =>
        (set_other _ _ _ _ _ h2).trans ((set_other _ _ _ _ _ h2).trans ((set_other _ _ _ _ _ h2).trans ((set_other _ _ _ _ _ h1).trans (set_other _ _ _ _ _ h1)))))
      have HS := hide (show (((((w24.setCell ⟨w.heap.size + 1, 0, none⟩ (.slice (some ⟨lg, 0, none⟩) (ps.length + 2) lgc)).setCell ⟨w.heap.size + 1, 0, none⟩ (.slice (some ⟨lg, 0, none⟩) ps.length lgc)).setCell ⟨w.heap.size, 0, none⟩ (.slice (some ⟨lg, 0, none⟩) ps.length lgc)).setCell ⟨w.heap.size, 1, none⟩ (.slice pa0 ps.length pc0)).setCell ⟨w.heap.size, 2, none⟩ (.slice fa0 ps.length fc0)).heap.size = w24.heap.size by simp only [set_size])
      have HRF := hide (set_blk (set_blk (set_blk ((set_other _ (w.heap.size + 1) 0 (.slice (some ⟨lg, 0, none⟩) ps.length lgc) _ (by omega)).trans ((set_other _ (w.heap.size + 1) 0 (.slice (some ⟨lg, 0, none⟩) (ps.length + 2) lgc) _ (by omega)).trans (unhide HR24))) 0 (.slice (some ⟨lg, 0, none⟩) ps.length lgc)) 1 (.slice pa0 ps.length pc0)) 2 (.slice fa0 ps.length fc0))
      have HBF := hide (show Below w.heap.size w (((((w24.setCell ⟨w.heap.size + 1, 0, none⟩ (.slice (some ⟨lg, 0, none⟩) (ps.length + 2) lgc)).setCell ⟨w.heap.size + 1, 0, none⟩ (.slice (some ⟨lg, 0, none⟩) ps.length lgc)).setCell ⟨w.heap.size, 0, none⟩ (.slice (some ⟨lg, 0, none⟩) ps.length lgc)).setCell ⟨w.heap.size, 1, none⟩ (.slice pa0 ps.length pc0)).setCell ⟨w.heap.size, 2, none⟩ (.slice fa0 ps.length fc0)) from below_set (below_set (below_set (below_set (below_set (bl_t (unhide HB1) ((((unhide HB).alloc (by omega) _).alloc (by simp; omega) _).alloc (by simp; omega) _ |>.grown (unhide HG24) (by simp; omega) (fun j e => by have := (ownsRow_blk (unhide HM).l e).choose_spec.2.1; omega))) _ 0 _ (by omega)) _ 0 _ (by omega)) _ 0 _ (by omega)) _ 1 _ (by omega)) _ 2 _ (by omega))
      generalize (((((w24.setCell ⟨w.heap.size + 1, 0, none⟩ (.slice (some ⟨lg, 0, none⟩) (ps.length + 2) lgc)).setCell ⟨w.heap.size + 1, 0, none⟩ (.slice (some ⟨lg, 0, none⟩) ps.length lgc)).setCell ⟨w.heap.size, 0, none⟩ (.slice (some ⟨lg, 0, none⟩) ps.length lgc)).setCell ⟨w.heap.size, 1, none⟩ (.slice pa0 ps.length pc0)).setCell ⟨w.heap.size, 2, none⟩ (.slice fa0 ps.length fc0)) = WF at *
      have c0 := (cell_blk (unhide HRF) 0).1
      have c1 := (cell_blk (unhide HRF) 1).1
      have c2 := (cell_blk (unhide HRF) 2).1
      simp at c0 c1 c2
      refine bodyPost_ret (results_cell1z (show Try.f4.results = #[.cell 2 25] from Try.results4) _ _ _ ⟨w.heap.size, 0, none⟩ (.agg #[.slice (some ⟨lg, 0, none⟩) ps.length lgc, .slice pa0 ps.length pc0, .slice fa0 ps.length fc0]) rfl (by simp [loadVar, go_sem, c0, c1, c2])) rfl ?_
      refine ⟨lg, lgc, _, _, qs, W2.heap.size, W2.heap.size + 1, rfl, ?_, unhide HQS |>.trans (List.take_length ..), ?_⟩
      · have h := (unhide HLL).fin hzX (by omega) (by omega) (unhide HR2) (unhide HG24) (by rw [unhide HLA, hql, ← hla1]; exact unhide HO24) (fun k a b => unhide HK k a b) (unhide HS)
        rw [hql] at h
        exact h
      · exact unhide HBF

end Go.Proofs.Ytohncccejlccbaa
