import Derived.Test.YtohnjmhdbbkmbaaDoorSgE
namespace Go.Proofs.YtohnjmhdbbkmbaaDoor
open Go.RowKit
attribute [local go_sem] World.cell?_alloc_some

set_option maxRecDepth 100000 in
set_option maxHeartbeats 8000000 in
theorem twin_any (ps : List (List Fd)) (v : Value) (w : World) (hl : ps.length ≤ 16777216) (hls : ∀ x ∈ ps, x.length ≤ 16777216 ∧ ∀ f ∈ x, f.ls.length ≤ 16777216) (hD : DocG w v ps) :
    Calls Tryd.prog 15 #[v] w fun e w' => ∃ u, e = .returned u ∧ DocG w' u ps ∧ Below w.heap.size w w' := by
  obtain ⟨i9, hi9, z9a, z9b, z9c⟩ := info_parts info9
  obtain ⟨i3, hi3, z3a, z3b, z3c⟩ := info_parts info3
  obtain ⟨i49, hi49, z49a, z49b, z49c⟩ := info_parts info49
  obtain ⟨i39, hi39, z39a, z39b, z39c⟩ := info_parts info39
  obtain ⟨va, vc, rfl, hD⟩ := hD
  have HD := hide hD
  have HLS := hide hls
  clear hD hls
  go_enter Tryd.func15, Tryd.ntmps15
  go_wp2
  go_loopw [3, 4] (fun lv iv wr => ∃ (i : Nat) (l : Value) (vs : List Value), i ≤ ps.length ∧ iv = .int .i64 i ∧ lv = l ∧ vs.length = i ∧ Hid (wr.ownsRow w.heap.size 39 1 l i vs) ∧ Hid (∀ (j : Nat) v p, vs[j]? = some v → ps[j]? = some p → PT 0 wr v p) ∧ Hid (Below w.heap.size w wr)) (fun _ iv _ => ps.length - (intOf iv).toNat)
  case atStart => exact ⟨0, .slice none 0 0, [], Nat.zero_le _, rfl, rfl, rfl, hide (World.ownsRow_nil _ _ _ _), hide (fun j v p h => by cases h), hide (Below.refl _ _)⟩
  case round =>
    obtain ⟨i, l, vs, hi, rfl, rfl, hvs, HO, HE, HB⟩ := hrel
    rename World => W2
    by_cases hlt : i < ps.length
    · obtain ⟨g, o, rfl, hd⟩ := unhide HD (by omega)
      obtain ⟨u, u1, u2⟩ := hd i _ (List.getElem?_eq_getElem hlt)
      obtain ⟨q1, q2⟩ := unhide HLS _ (List.getElem_mem hlt)
      obtain ⟨ua, uc, rfl, hf⟩ := u2
      have HU := hide u1
      have HF := hide hf
      have HQ := hide q2
      have HP := hide (show ps[i]? = some ps[i] from List.getElem?_eq_getElem hlt)
      have hz2 := (unhide HB).size
      clear hd hf u1 q2
      generalize ps[i] = p at *
      go_wp2
      go_loopw [5, 6] (fun pv iv wr => ∃ (k : Nat) (q : Value), k ≤ p.length ∧ iv = .int .i64 k ∧ pv = q ∧ Hid (PT W2.heap.size wr q (p.take k)) ∧ Hid (Below W2.heap.size W2 wr)) (fun _ iv _ => p.length - (intOf iv).toNat)
      case atStart => exact ⟨0, _, Nat.zero_le _, rfl, rfl, hide ⟨[], rfl, World.ownsRow_nil _ _ _ _, fun x hx => by cases hx⟩, hide (Below.refl _ _)⟩
      case round =>
        obtain ⟨k, q, hk, rfl, rfl, HPO, HB2⟩ := hrel
        rename World => W
        have dU := cell_later (cell_later (unhide HU) (unhide HB)) (unhide HB2)
        by_cases hlt2 : k < p.length
        · obtain ⟨gg, oo, rfl, hf⟩ := unhide HF (by omega)
          have fc := ((hf k _ (List.getElem?_eq_getElem hlt2)).later (unhide HB)).later (unhide HB2)
          have f1 := unhide HQ _ (List.getElem_mem hlt2)
          have HT := hide (show p.take (k + 1) = p.take k ++ [p[k]] from List.take_succ_eq_append_getElem hlt2)
          obtain ⟨xs, x1, x2, x3⟩ := unhide HPO
          have hxl : xs.length = k := by have := congrArg List.length x1; rw [List.length_map, List.length_take] at this; omega
          have HX := hide (And.intro x2 x3)
          have HX1 := hide x1
          clear hf x1 x2 x3
          generalize p[k] = f at *
          obtain ⟨nm, ls, ns⟩ := f
          simp only at f1
          have e0 := fc.nm
          obtain ⟨la, lc, e1, _, es⟩ := fc.ls
          obtain ⟨na, nc, az, e5, en, eo, ez⟩ := fc.ns
          simp only at e0 e1 e5 es
          have HES := hide es
          have HEN := hide en
          have HEO := hide eo
          have hz3 := (unhide HB2).size
          clear fc es en eo
          generalize hnl : ls.length = nl at *
          have HNL := hide hnl
          clear hnl
          generalize hnn : az.length = nn at *
          have HNN := hide hnn
          clear hnn
          go_wp2
          have HBW1 := hide (show Below W.heap.size W (W.alloc (.cells #[.string (ba nm), .slice none 0 0, .slice none 0 0] 49)) from (Below.refl _ _).alloc (Nat.le_refl _) _)
          have HBX1 := hide (World.alloc_heap_new W (.cells #[.string (ba nm), .slice none 0 0, .slice none 0 0] 49))
          have HS1 := hide (show (W.alloc (.cells #[.string (ba nm), .slice none 0 0, .slice none 0 0] 49)).heap.size = W.heap.size + 1 by simp)
          have HW1 := hide (show W.alloc (.cells #[.string (ba nm), .slice none 0 0, .slice none 0 0] 49) = W.alloc (.cells #[.string (ba nm), .slice none 0 0, .slice none 0 0] 49) from rfl)
          generalize hW1 : W.alloc (.cells #[.string (ba nm), .slice none 0 0, .slice none 0 0] 49) = W1 at *
          replace HW1 := hide hW1
          clear hW1
          have d1U := cell_later dU (unhide HBW1)
          have d11 := cell_later e1 (unhide HBW1)
          have d15 := (cell_blk (unhide HBX1) 1).1
          go_region_law (refine step_app (by rfl) _ _ 46 (by rfl) W2.heap.size 9 i9 (.string ⟨#[]⟩) 16 Tryd.underlying46 hi9 z9a z9b z9c rfl (by rfl) la nl lc (strs ls) (by rfl) (by rw [strs, List.length_map]; exact unhide HNL) (show Cl W1 la (strs ls) from (unhide HES).later (unhide HBW1)) (by simp [strs, Value.oneCell']) (by unfold maxLen; omega) (by omega) (by show W2.heap.size ≤ W1.heap.size; have := unhide HS1; omega) ?_; intro v2 w2 hown2 hgrow2 hv2; have HBX2 := hide ((hgrow2.block W.heap.size (by show W.heap.size < W1.heap.size; have := unhide HS1; omega) (by simp)).trans (unhide HBX1)); have d2 := (cell_blk (unhide HBX2) 1).1; have f2 := (cell_blk (unhide HBX2) 1).2; have HO2 := hide (show w2.ownsRow W2.heap.size 9 1 v2 nl (strs ls) from hown2); have HB12 := hide (show Below W1.heap.size W1 w2 from ⟨hgrow2.os, hgrow2.tape, hgrow2.output, hgrow2.size, fun k hk => hgrow2.block k hk (by simp)⟩); have HV2 := hide (show v2.ownBlock = none ∨ v2.ownBlock = some W1.heap.size from hv2); obtain ⟨a2, cap2, rfl, -, -⟩ := own_cap (unhide HO2); clear hown2 hgrow2 hv2)
          all_goals
            have HG2 := hide (show (Value.slice a2 nl cap2).ownBlock = none ∨ (Value.slice a2 nl cap2).ownBlock = some (W.heap.size + 1) by
              rw [← unhide HS1]; exact unhide HV2)
            have HB2a := hide (show Below (W.heap.size + 1) (W.alloc (.cells #[.string (ba nm), .slice none 0 0, .slice none 0 0] 49)) w2 by
              rw [unhide HW1, ← unhide HS1]; exact unhide HB12)
            have HBW3 := hide (show Below W.heap.size W (w2.setCell ⟨W.heap.size, 1, none⟩ (.slice a2 nl cap2)) from by
              have b := bl_t (unhide HBW1) (unhide HB12)
              exact ⟨b.os, b.tape, b.output, by rw [set_size]; exact b.size, fun k hk => (set_other _ _ _ _ _ (by omega)).trans (b.block k hk)⟩)
            have HBX3 := hide (show (w2.setCell ⟨W.heap.size, 1, none⟩ (.slice a2 nl cap2)).heap[W.heap.size]? = some (.cells #[.string (ba nm), .slice a2 nl cap2, .slice none 0 0] 49 (0, 0)) from set_blk (unhide HBX2) 1 _)
            have HS3 := hide (set_size w2 W.heap.size 1 (.slice a2 nl cap2))
            have HZ12 := hide (show W.heap.size + 1 ≤ w2.heap.size by have h := (unhide HB12).size; rw [unhide HS1] at h; exact h)
            clear HBX1 HBX2 d1U d11 d15 d2 f2 HBW1 HB12 HV2
            generalize hW3 : w2.setCell ⟨W.heap.size, 1, none⟩ (.slice a2 nl cap2) = W3 at *
            have HW3 := hide hW3
            clear hW3
            have d3U := cell_later dU (unhide HBW3)
            have d35 := cell_later e5 (unhide HBW3)
            have d32 := (cell_blk (unhide HBX3) 2).1
            go_wp2
            go_region_law (refine step_app (by rfl) _ _ 47 (by rfl) W2.heap.size 3 i3 (.int .i64 0) 8 Tryd.underlying47 hi3 z3a z3b z3c rfl (by rfl) na nn nc az (by rfl) (unhide HNN) (show Cl W3 na az from (unhide HEN).later (unhide HBW3)) (unhide HEO) (by unfold maxLen; omega) (by omega) (by show W2.heap.size ≤ W3.heap.size; have h1 := unhide HS3; have h2 := unhide HZ12; omega) ?_; intro v4 w4 hown4 hgrow4 hv4; have HBX4 := hide ((hgrow4.block W.heap.size (by show W.heap.size < W3.heap.size; have h1 := unhide HS3; have h2 := unhide HZ12; omega) (by simp)).trans (unhide HBX3)); have d4 := (cell_blk (unhide HBX4) 2).1; have f4 := (cell_blk (unhide HBX4) 2).2; have HO4 := hide (show w4.ownsRow W2.heap.size 3 1 v4 nn az from hown4); have HB34 := hide (show Below W3.heap.size W3 w4 from ⟨hgrow4.os, hgrow4.tape, hgrow4.output, hgrow4.size, fun k hk => hgrow4.block k hk (by simp)⟩); have HV4 := hide (show v4.ownBlock = none ∨ v4.ownBlock = some W3.heap.size from hv4); obtain ⟨a4, cap4, rfl, -, -⟩ := own_cap (unhide HO4); clear hown4 hgrow4 hv4)
            all_goals
              have HG4 := hide (show (Value.slice a4 nn cap4).ownBlock = none ∨ (Value.slice a4 nn cap4).ownBlock = some w2.heap.size by
                rw [← unhide HS3]; exact unhide HV4)
              have HB4a := hide (show Below w2.heap.size (w2.setCell ⟨W.heap.size, 1, none⟩ (.slice a2 nl cap2)) w4 by
                rw [unhide HW3, ← unhide HS3]; exact unhide HB34)
              have HBW5 := hide (show Below W.heap.size W (w4.setCell ⟨W.heap.size, 2, none⟩ (.slice a4 nn cap4)) from by
                have b := bl_t (unhide HBW3) (unhide HB34)
                exact ⟨b.os, b.tape, b.output, by rw [set_size]; exact b.size, fun k hk => (set_other _ _ _ _ _ (by omega)).trans (b.block k hk)⟩)
              have HBX5 := hide (show (w4.setCell ⟨W.heap.size, 2, none⟩ (.slice a4 nn cap4)).heap[W.heap.size]? = some (.cells #[.string (ba nm), .slice a2 nl cap2, .slice a4 nn cap4] 49 (0, 0)) from set_blk (unhide HBX4) 2 _)
              clear HBX3 HBX4 d3U d35 d32 d4 f4 HBW3 HB34 HV4 HS3
              generalize hW5 : w4.setCell ⟨W.heap.size, 2, none⟩ (.slice a4 nn cap4) = W5 at *
              have HW5 := hide hW5
              clear hW5
              have y0 := (cell_blk (unhide HBX5) 0).1
              have y1 := (cell_blk (unhide HBX5) 1).1
              have y2 := (cell_blk (unhide HBX5) 2).1
              have HR5 := hide (ownsRow_bl (unhide HX).1 (unhide HBW5))
              have hz5 : W2.heap.size ≤ W5.heap.size := Nat.le_trans hz3 (unhide HBW5).size
              clear HBX5
              go_wp2_with (at_builtin; go_must (refine wpList_append_own _ rfl _ _ 39 rfl W2.heap.size 49 i49 (.agg #[.string ⟨#[]⟩, .slice none 0 0, .slice none 0 0]) 3 64 Tryd.underlying39 hi49 z49a z49b z49c rfl (by decide) _ _ _ rfl ((unhide HR5).alloc _) ⟨_, 0, none⟩ 1 1 [.string (ba nm), .slice a2 nl cap2, .slice a4 nn cap4] rfl rfl (cells3_new _ _ _ _ _) (by simp [Value.oneCell']) (by unfold maxLen; omega) (by omega) (by simp; omega) ?_); intro v7 w7 hown7 hgrow7 _; have HF7 := hide (twin_fieldT W2.heap.size W w2 w4 w7 _ v7 xs ⟨nm, ls, ns⟩ _ _ az _ _ hz3 (unhide HEO) (by rw [unhide HNN]; exact ez) (unhide HX).1 (unhide HX).2 (unhide HB2a) (by show w2.ownsRow W2.heap.size 9 1 _ ls.length (strs ls); rw [unhide HNL]; exact unhide HO2) (unhide HG2) (unhide HB4a) (by rw [unhide HNN]; exact unhide HO4) (unhide HG4) (by rw [unhide HW5]; exact hgrow7) hown7); clear hown7 hgrow7)
              go_roundw
              case rel => exact ⟨k + 1, v7, by omega, by go_num, rfl, hide (by rw [unhide HT, ← unhide HX1]; exact (unhide HF7).1), hide ((unhide HB2).trans (unhide HF7).2)⟩
              case measure => simp [intOf]; omega
        · obtain rfl : k = p.length := by omega
          have HPO2 := hide (show PT W2.heap.size W u5 p by have h := unhide HPO; rw [List.take_length] at h; exact h)
          clear HPO
          obtain ⟨pa5, c5, rfl, _⟩ := (unhide HPO2).parG
          have HR3 := hide (ownsRow_bl (unhide HO) (unhide HB2))
          have hz3 := (unhide HB2).size
          go_wp2_with (at_builtin; go_must (refine wpList_append_own _ rfl _ _ 24 rfl w.heap.size 39 i39 (.slice none 0 0) 1 24 Tryd.underlying24 hi39 z39a z39b z39c rfl (by decide) _ _ _ rfl ((unhide HR3).alloc _) ⟨_, 0, none⟩ 1 1 [_] rfl rfl (cell_one_new _ _ _) (by simp [Value.oneCell']) (by unfold maxLen; omega) (by omega) (by simp; omega) ?_); intro v8 w8 hown8 hgrow8 _; have HO8 := hide hown8; have HK8 := hide (show ∀ (k : Nat) (c : Array Value) (t : TypeId), (t = 49 ∨ t = 9 ∨ t = 3) → W.heap[k]? = some (Obj.cells c t (0, 0)) → w8.heap[k]? = W.heap[k]? from fun k c t ht hc => (hgrow8.block k (by have := (Array.getElem?_eq_some_iff.1 hc).1; simp; omega) (fun e => by obtain ⟨c', h1, _⟩ := ownsRow_blk (unhide HR3) e.symm; rw [hc] at h1; cases h1; simp at ht)).trans (Below.heap_alloc W _ k (Array.getElem?_eq_some_iff.1 hc).1)); have HB8 := hide ((bl_t (unhide HB) (unhide HB2)).alloc (Nat.le_trans hz2 hz3) _ |>.grown hgrow8 (by simp; omega) (fun j e => ((unhide HR3).lt j e).1)); clear hown8 hgrow8)
          go_roundw
          case rel => exact ⟨i + 1, v8, vs ++ [.slice pa5 p.length c5], by omega, by go_num, rfl, by simp [hvs], HO8, hide (PT_more (unhide HE) (unhide HB2) (unhide HPO2) hvs (unhide HP) (unhide HK8)), HB8⟩
          case measure => simp [intOf]; omega
    · obtain rfl : i = ps.length := by omega
      go_wp2
      go_ret
      exact ⟨_, rfl, docG_of hvs (by rw [hvs]; exact unhide HO) (fun j v p h1 h2 => (unhide HE j v p h1 h2).parG), unhide HB⟩

end Go.Proofs.YtohnjmhdbbkmbaaDoor
