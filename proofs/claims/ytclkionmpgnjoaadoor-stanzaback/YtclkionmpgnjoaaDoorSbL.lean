import Derived.Test.YtclkionmpgnjoaaDoorSbK
namespace Go.Proofs.YtclkionmpgnjoaaDoor
open Go.RowKit
attribute [local go_sem] World.cell?_alloc_some

theorem PO.keep {b0 : Nat} {W W' : World} {v : Value} {p : List Fd} (h : PO b0 W v p) (hk : ∀ (k : Nat) (c : Array Value) (t : TypeId), (t = 49 ∨ t = 9 ∨ t = 3) → W.heap[k]? = some (Obj.cells c t (0, 0)) → W'.heap[k]? = W.heap[k]?) : PO 0 W' v p := by
  obtain ⟨xs, h1, h2, h3⟩ := h
  exact ⟨xs, h1, (ownsRow_same h2 fun g c _ hg => hk g c 49 (.inl rfl) hg).mono (Nat.zero_le _), fun x hx => ⟨ownsRow_same (h3 x hx).l fun g c _ hg => hk g c 9 (.inr (.inl rfl)) hg, ownsRow_same (h3 x hx).a fun g c _ hg => hk g c 3 (.inr (.inr rfl)) hg⟩⟩
theorem twin_more {W2 W w8 : World} {vs : List Value} {ps : List (List Fd)} {i b0 : Nat} {v1 : Value} {p1 : List Fd} (he : ∀ (j : Nat) v p, vs[j]? = some v → ps[j]? = some p → PO 0 W2 v p) (hb : Below W2.heap.size W2 W) (hp : PO b0 W v1 p1) (hvs : vs.length = i) (hpi : ps[i]? = some p1)
    (hk : ∀ (k : Nat) (c : Array Value) (t : TypeId), (t = 49 ∨ t = 9 ∨ t = 3) → W.heap[k]? = some (Obj.cells c t (0, 0)) → w8.heap[k]? = W.heap[k]?) : ∀ (j : Nat) v p, (vs ++ [v1])[j]? = some v → ps[j]? = some p → PO 0 w8 v p := by
  intro j v p h1 h2
  by_cases hj : j < vs.length
  · rw [List.getElem?_append_left hj] at h1
    have h := he j v p h1 h2
    have h' : PO 0 W v p := h.keep fun k c t _ hc => hb.block k (Array.getElem?_eq_some_iff.1 hc).1
    exact h'.keep hk
  · rw [List.getElem?_append_right (by omega)] at h1
    have hj0 : j - vs.length = 0 := by
      have := (List.getElem?_eq_some_iff.1 h1).1
      simp at this
      omega
    rw [hj0] at h1
    cases h1
    obtain rfl : j = i := by omega
    rw [hpi] at h2
    cases h2
    exact hp.keep hk

set_option maxRecDepth 100000 in
set_option maxHeartbeats 8000000 in
theorem twin_yes (ps : List (List Fd)) (v : Value) (w : World) (hl : ps.length ≤ 268435457) (hls : ∀ x ∈ ps, x.length ≤ 268435456 ∧ ∀ f ∈ x, f.ls.length ≤ 268435456 ∧ f.ls ≠ [] ∧ f.ns.length = f.ls.length) (hD : DocC w v ps) :
    Calls Tryd.prog 15 #[v] w fun e w' => ∃ u, e = .returned u ∧ DocC w' u ps ∧ Below w.heap.size w w' := by
  obtain ⟨i9, hi9, z9a, z9b, z9c⟩ := info_parts info9
  obtain ⟨i3, hi3, z3a, z3b, z3c⟩ := info_parts info3
  obtain ⟨i49, hi49, z49a, z49b, z49c⟩ := info_parts info49
  obtain ⟨i39, hi39, z39a, z39b, z39c⟩ := info_parts info39
  obtain ⟨va, vc, rfl, hD⟩ := hD
  have HD := hide hD
  have HLS := hide hls
  clear hD hls
  go_enter Tryd.func15, Tryd.ntmps15
  go_wp2
  go_loopw [3, 4] (fun lv iv wr => ∃ (i : Nat) (l : Value) (vs : List Value), i ≤ ps.length ∧ iv = .int .i64 i ∧ lv = l ∧ vs.length = i ∧ Hid (wr.ownsRow w.heap.size 39 1 l i vs) ∧ Hid (∀ (j : Nat) v p, vs[j]? = some v → ps[j]? = some p → PO 0 wr v p) ∧ Hid (Below w.heap.size w wr)) (fun _ iv _ => ps.length - (intOf iv).toNat)
  case atStart => exact ⟨0, .slice none 0 0, [], Nat.zero_le _, rfl, rfl, rfl, hide (World.ownsRow_nil _ _ _ _), hide (fun j v p h => by cases h), hide (Below.refl _ _)⟩
  case round =>
    obtain ⟨i, l, vs, hi, rfl, rfl, hvs, HO, HE, HB⟩ := hrel
    rename World => W2
    by_cases hlt : i < ps.length
    · obtain ⟨g, o, rfl, hd⟩ := unhide HD (by omega)
      obtain ⟨u, u1, u2⟩ := hd i _ (List.getElem?_eq_getElem hlt)
      obtain ⟨q1, q2⟩ := unhide HLS _ (List.getElem_mem hlt)
      obtain ⟨ua, uc, rfl, hf⟩ := u2
      have HU := hide u1
      have HF := hide hf
      have HQ := hide q2
      have HP := hide (show ps[i]? = some ps[i] from List.getElem?_eq_getElem hlt)
      have hz2 := (unhide HB).size
      clear hd hf u1 q2
      generalize ps[i] = p at *
      go_wp2
      go_loopw [5, 6] (fun pv iv wr => ∃ (k : Nat) (q : Value), k ≤ p.length ∧ iv = .int .i64 k ∧ pv = q ∧ Hid (PO W2.heap.size wr q (p.take k)) ∧ Hid (Below W2.heap.size W2 wr)) (fun _ iv _ => p.length - (intOf iv).toNat)
      case atStart => exact ⟨0, _, Nat.zero_le _, rfl, rfl, hide ⟨[], rfl, World.ownsRow_nil _ _ _ _, fun x hx => by cases hx⟩, hide (Below.refl _ _)⟩
      case round =>
        obtain ⟨k, q, hk, rfl, rfl, HPO, HB2⟩ := hrel
        rename World => W
        have dU := cell_later (cell_later (unhide HU) (unhide HB)) (unhide HB2)
        by_cases hlt2 : k < p.length
        · obtain ⟨gg, oo, rfl, hf⟩ := unhide HF (by omega)
          have fc := ((hf k _ (List.getElem?_eq_getElem hlt2)).later (unhide HB)).later (unhide HB2)
          obtain ⟨f1, f2, f3⟩ := unhide HQ _ (List.getElem_mem hlt2)
          have HT := hide (show p.take (k + 1) = p.take k ++ [p[k]] from List.take_succ_eq_append_getElem hlt2)
          obtain ⟨xs, x1, x2, x3⟩ := unhide HPO
          have hxl : xs.length = k := by have := congrArg List.length x1; rw [List.length_map, List.length_take] at this; omega
          have HX := hide (And.intro x2 x3)
          have HX1 := hide x1
          clear hf x1 x2 x3
          generalize p[k] = f at *
          obtain ⟨nm, ls, ns⟩ := f
          simp only at f1 f2 f3
          cases ls with
          | nil => exact absurd rfl f2
          | cons a r =>
          cases ns with
          | nil => simp at f3
          | cons m ms =>
          have hms : ms.length = r.length := by simpa using f3
          have hr : r.length + 1 ≤ 268435456 := by simpa using f1
          have e0 := fc.nm
          obtain ⟨b, qo, c, e1, _, _, es⟩ := fc.ls
          obtain ⟨na, nc, e5, e6⟩ := fc.ns
          obtain ⟨nb, no, rfl, en⟩ := e6 (by simp [ints])
          simp only [List.length_cons] at e0 e1 e5
          rw [hms] at e5
          have HES := hide es
          have HEN := hide en
          have hz3 := (unhide HB2).size
          clear fc es en e6 f1 f2 f3
          go_wp2
          have HBW1 := hide (show Below W.heap.size W (W.alloc (.cells #[.string (ba nm), .slice none 0 0, .slice none 0 0] 49)) from (Below.refl _ _).alloc (Nat.le_refl _) _)
          have HBX1 := hide (World.alloc_heap_new W (.cells #[.string (ba nm), .slice none 0 0, .slice none 0 0] 49))
          have HS1 := hide (show (W.alloc (.cells #[.string (ba nm), .slice none 0 0, .slice none 0 0] 49)).heap.size = W.heap.size + 1 by simp)
          have HW1 := hide (show W.alloc (.cells #[.string (ba nm), .slice none 0 0, .slice none 0 0] 49) = W.alloc (.cells #[.string (ba nm), .slice none 0 0, .slice none 0 0] 49) from rfl)
          generalize hW1 : W.alloc (.cells #[.string (ba nm), .slice none 0 0, .slice none 0 0] 49) = W1 at *
          replace HW1 := hide hW1
          clear hW1
          have d1U := cell_later dU (unhide HBW1)
          have d11 := cell_later e1 (unhide HBW1)
          have d15 := (cell_blk (unhide HBX1) 1).1
          go_region_law (refine step_append_own (by rfl) _ _ 46 (by rfl) W2.heap.size 9 i9 (.string ⟨#[]⟩) 1 16 Tryd.underlying46 hi9 z9a z9b z9c rfl (by decide) (.slice none 0 0) 0 [] (by rfl) (World.ownsRow_nil _ _ _ _) ⟨b, qo, none⟩ (r.length + 1) c (strs (a :: r)) (by rfl) (by simp [strs]) (fun j u h => by rw [Addr.add_lit]; exact (show W1.cell? ⟨b, qo + j, none⟩ = some u from cell_later (unhide HES j u h) (unhide HBW1))) (by simp [strs, Value.oneCell']) (by unfold maxLen; omega) (by omega) (by show W2.heap.size ≤ W1.heap.size; have := unhide HS1; omega) ?_; intro v2 w2 hown2 hgrow2 hv2; have HBX2 := hide ((hgrow2.block W.heap.size (by show W.heap.size < W1.heap.size; have := unhide HS1; omega) (by simp [Value.ownBlock])).trans (unhide HBX1)); have d2 := (cell_blk (unhide HBX2) 1).1; have f2 := (cell_blk (unhide HBX2) 1).2; have HO2 := hide (show w2.ownsRow W2.heap.size 9 1 v2 (r.length + 1) (strs (a :: r)) by simpa using hown2); have HB12 := hide (show Below W1.heap.size W1 w2 from ⟨hgrow2.os, hgrow2.tape, hgrow2.output, hgrow2.size, fun k hk => hgrow2.block k hk (by simp [Value.ownBlock])⟩); have HV2 := hide (show v2.ownBlock = none ∨ v2.ownBlock = some W1.heap.size from hv2); obtain ⟨g2, cap2, cur2, rfl, -⟩ := slice_of (unhide HO2); clear hown2 hgrow2 hv2)
          all_goals
            have HG2 := hide (show g2 = W.heap.size + 1 by
              rcases unhide HV2 with h | h
              · simp [Value.ownBlock] at h
              · have h3 : g2 = W1.heap.size := by simpa [Value.ownBlock] using h
                rw [h3]; exact unhide HS1)
            have HB2a := hide (show Below (W.heap.size + 1) (W.alloc (.cells #[.string (ba nm), .slice none 0 0, .slice none 0 0] 49)) w2 by
              rw [unhide HW1, ← unhide HS1]; exact unhide HB12)
            have HBW3 := hide (show Below W.heap.size W (w2.setCell ⟨W.heap.size, 1, none⟩ (.slice (some ⟨g2, 0, none⟩) (r.length + 1) cap2)) from by
              have b := bl_t (unhide HBW1) (unhide HB12)
              exact ⟨b.os, b.tape, b.output, by rw [set_size]; exact b.size, fun k hk => (set_other _ _ _ _ _ (by omega)).trans (b.block k hk)⟩)
            have HBX3 := hide (show (w2.setCell ⟨W.heap.size, 1, none⟩ (.slice (some ⟨g2, 0, none⟩) (r.length + 1) cap2)).heap[W.heap.size]? = some (.cells #[.string (ba nm), .slice (some ⟨g2, 0, none⟩) (r.length + 1) cap2, .slice none 0 0] 49 (0, 0)) from set_blk (unhide HBX2) 1 _)
            have HS3 := hide (set_size w2 W.heap.size 1 (.slice (some ⟨g2, 0, none⟩) (r.length + 1) cap2))
            have HZ12 := hide (show W.heap.size + 1 ≤ w2.heap.size by have h := (unhide HB12).size; rw [unhide HS1] at h; exact h)
            clear HBX1 HBX2 d1U d11 d15 d2 f2 HBW1 HB12 HV2
            generalize hW3 : w2.setCell ⟨W.heap.size, 1, none⟩ (.slice (some ⟨g2, 0, none⟩) (r.length + 1) cap2) = W3 at *
            have HW3 := hide hW3
            clear hW3
            have d3U := cell_later dU (unhide HBW3)
            have d35 := cell_later e5 (unhide HBW3)
            have d32 := (cell_blk (unhide HBX3) 2).1
            go_wp2
            go_region_law (refine step_append_own (by rfl) _ _ 47 (by rfl) W2.heap.size 3 i3 (.int .i64 0) 1 8 Tryd.underlying47 hi3 z3a z3b z3c rfl (by decide) (.slice none 0 0) 0 [] (by rfl) (World.ownsRow_nil _ _ _ _) ⟨nb, no, none⟩ (r.length + 1) nc (ints (m :: ms)) (by rfl) (by simp [ints, hms]) (fun j u h => by rw [Addr.add_lit]; exact (show W3.cell? ⟨nb, no + j, none⟩ = some u from cell_later (unhide HEN j u h) (unhide HBW3))) (by simp [ints, Value.oneCell']) (by unfold maxLen; omega) (by omega) (by show W2.heap.size ≤ W3.heap.size; have h1 := unhide HS3; have h2 := unhide HZ12; omega) ?_; intro v4 w4 hown4 hgrow4 hv4; have HBX4 := hide ((hgrow4.block W.heap.size (by show W.heap.size < W3.heap.size; have h1 := unhide HS3; have h2 := unhide HZ12; omega) (by simp [Value.ownBlock])).trans (unhide HBX3)); have d4 := (cell_blk (unhide HBX4) 2).1; have f4 := (cell_blk (unhide HBX4) 2).2; have HO4 := hide (show w4.ownsRow W2.heap.size 3 1 v4 (r.length + 1) (ints (m :: ms)) by simpa using hown4); have HB34 := hide (show Below W3.heap.size W3 w4 from ⟨hgrow4.os, hgrow4.tape, hgrow4.output, hgrow4.size, fun k hk => hgrow4.block k hk (by simp [Value.ownBlock])⟩); have HV4 := hide (show v4.ownBlock = none ∨ v4.ownBlock = some W3.heap.size from hv4); obtain ⟨g4, cap4, cur4, rfl, -⟩ := slice_of (unhide HO4); clear hown4 hgrow4 hv4)
            all_goals
              have HG4 := hide (show g4 = w2.heap.size by
                rcases unhide HV4 with h | h
                · simp [Value.ownBlock] at h
                · have h3 : g4 = W3.heap.size := by simpa [Value.ownBlock] using h
                  rw [h3]; exact unhide HS3)
              have HB4a := hide (show Below w2.heap.size (w2.setCell ⟨W.heap.size, 1, none⟩ (.slice (some ⟨g2, 0, none⟩) (r.length + 1) cap2)) w4 by
                rw [unhide HW3, ← unhide HS3]; exact unhide HB34)
              have HBW5 := hide (show Below W.heap.size W (w4.setCell ⟨W.heap.size, 2, none⟩ (.slice (some ⟨g4, 0, none⟩) (r.length + 1) cap4)) from by
                have b := bl_t (unhide HBW3) (unhide HB34)
                exact ⟨b.os, b.tape, b.output, by rw [set_size]; exact b.size, fun k hk => (set_other _ _ _ _ _ (by omega)).trans (b.block k hk)⟩)
              have HBX5 := hide (show (w4.setCell ⟨W.heap.size, 2, none⟩ (.slice (some ⟨g4, 0, none⟩) (r.length + 1) cap4)).heap[W.heap.size]? = some (.cells #[.string (ba nm), .slice (some ⟨g2, 0, none⟩) (r.length + 1) cap2, .slice (some ⟨g4, 0, none⟩) (r.length + 1) cap4] 49 (0, 0)) from set_blk (unhide HBX4) 2 _)
              clear HBX3 HBX4 d3U d35 d32 d4 f4 HBW3 HB34 HV4 HS3
              generalize hW5 : w4.setCell ⟨W.heap.size, 2, none⟩ (.slice (some ⟨g4, 0, none⟩) (r.length + 1) cap4) = W5 at *
              have HW5 := hide hW5
              clear hW5
              have y0 := (cell_blk (unhide HBX5) 0).1
              have y1 := (cell_blk (unhide HBX5) 1).1
              have y2 := (cell_blk (unhide HBX5) 2).1
              have HR5 := hide (ownsRow_bl (unhide HX).1 (unhide HBW5))
              have hz5 : W2.heap.size ≤ W5.heap.size := Nat.le_trans hz3 (unhide HBW5).size
              clear HBX5
              go_wp2_with (at_builtin; go_must (refine wpList_append_own _ rfl _ _ 39 rfl W2.heap.size 49 i49 (.agg #[.string ⟨#[]⟩, .slice none 0 0, .slice none 0 0]) 3 64 Tryd.underlying39 hi49 z49a z49b z49c rfl (by decide) _ _ _ rfl ((unhide HR5).alloc _) ⟨_, 0, none⟩ 1 1 [.string (ba nm), .slice (some ⟨g2, 0, none⟩) (r.length + 1) cap2, .slice (some ⟨g4, 0, none⟩) (r.length + 1) cap4] rfl rfl (cells3_new _ _ _ _ _) (by simp [Value.oneCell']) (by unfold maxLen; omega) (by omega) (by simp; omega) ?_); intro v7 w7 hown7 hgrow7 _; have HF7 := hide (twin_field W2.heap.size W w2 w4 w7 _ v7 xs ⟨nm, a :: r, m :: ms⟩ g2 cap2 g4 cap4 (r.length + 1) (r.length + 1) _ _ rfl (by simp [hms]) hz3 (unhide HX).1 (unhide HX).2 (unhide HB2a) (unhide HO2) (unhide HG2) (unhide HB4a) (unhide HO4) (unhide HG4) (by rw [unhide HW5]; exact hgrow7) hown7); clear hown7 hgrow7)
              go_roundw
              case rel => exact ⟨k + 1, v7, by omega, by go_num, rfl, hide (by rw [unhide HT, ← unhide HX1]; exact (unhide HF7).1), hide ((unhide HB2).trans (unhide HF7).2)⟩
              case measure => simp [intOf]; omega
        · obtain rfl : k = p.length := by omega
          have HPO2 := hide (show PO W2.heap.size W u5 p by have h := unhide HPO; rw [List.take_length] at h; exact h)
          clear HPO
          obtain ⟨pa5, c5, rfl, _⟩ := (unhide HPO2).parC
          have HR3 := hide (ownsRow_bl (unhide HO) (unhide HB2))
          have hz3 := (unhide HB2).size
          go_wp2_with (at_builtin; go_must (refine wpList_append_own _ rfl _ _ 24 rfl w.heap.size 39 i39 (.slice none 0 0) 1 24 Tryd.underlying24 hi39 z39a z39b z39c rfl (by decide) _ _ _ rfl ((unhide HR3).alloc _) ⟨_, 0, none⟩ 1 1 [_] rfl rfl (cell_one_new _ _ _) (by simp [Value.oneCell']) (by unfold maxLen; omega) (by omega) (by simp; omega) ?_); intro v8 w8 hown8 hgrow8 _; have HO8 := hide hown8; have HK8 := hide (show ∀ (k : Nat) (c : Array Value) (t : TypeId), (t = 49 ∨ t = 9 ∨ t = 3) → W.heap[k]? = some (Obj.cells c t (0, 0)) → w8.heap[k]? = W.heap[k]? from fun k c t ht hc => (hgrow8.block k (by have := (Array.getElem?_eq_some_iff.1 hc).1; simp; omega) (fun e => by obtain ⟨c', h1, _⟩ := ownsRow_blk (unhide HR3) e.symm; rw [hc] at h1; cases h1; simp at ht)).trans (Below.heap_alloc W _ k (Array.getElem?_eq_some_iff.1 hc).1)); have HB8 := hide ((bl_t (unhide HB) (unhide HB2)).alloc (Nat.le_trans hz2 hz3) _ |>.grown hgrow8 (by simp; omega) (fun j e => ((unhide HR3).lt j e).1)); clear hown8 hgrow8)
          go_roundw
          case rel => exact ⟨i + 1, v8, vs ++ [.slice pa5 p.length c5], by omega, by go_num, rfl, by simp [hvs], HO8, hide (twin_more (unhide HE) (unhide HB2) (unhide HPO2) hvs (unhide HP) (unhide HK8)), HB8⟩
          case measure => simp [intOf]; omega
    · obtain rfl : i = ps.length := by omega
      go_wp2
      go_ret
      exact ⟨_, rfl, doc_of hvs (by rw [hvs]; exact unhide HO) (fun j v p h1 h2 => (unhide HE j v p h1 h2).parC), unhide HB⟩

end Go.Proofs.YtclkionmpgnjoaaDoor
