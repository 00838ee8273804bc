import Derived.Test.YtcdajbfoneifaaaDoorApI
namespace Go.Proofs.YtcdajbfoneifaaaDoor
open Go.RowKit

theorem owns_cellT {W : World} {base : Nat} {g n cap : Nat} {xs : List Value} (h : W.ownsRow base 24 1 (.slice (some ⟨g, 0, none⟩) n cap) n xs) (k : Nat) (u : Value) (hk : xs[k]? = some u) : W.cell? ⟨g, k, none⟩ = some u := by
  have := h.cells (g := g) rfl k u hk
  by_cases e : k = 0
  · subst e; simpa [Addr.add] using this
  · simpa [Addr.add, e] using this

theorem cell_one_newI (w : World) (v : Value) (t : TypeId) : ∀ j u, ([v] : List Value)[j]? = some u → (w.alloc (.cells #[v] t)).cell? ((⟨w.heap.size, 0, none⟩ : Addr).add j) = some u := fun j u hj => by
  have e : j = 0 := by
    cases j with
    | zero => rfl
    | succ j => simp at hj
  subst e
  simp at hj
  subst hj
  simp [Addr.add]
theorem ownsRow_succ' {W : World} {base e size m : Nat} {v : Value} {xs : List Value} (h : W.ownsRow base e size v (m + 1) xs) : ∃ g cap, v = .slice (some ⟨g, 0, none⟩) (m + 1) cap := by
  rcases h.2 with ⟨_, h0⟩ | ⟨g, c, cur, h1, _⟩
  · omega
  · exact ⟨g, c, h1⟩
set_option maxRecDepth 8000 in
set_option maxHeartbeats 4000000 in
theorem placesApart_any (base Lb : Nat) (vv : Nat → Value) (N : Nat → Nat) (f0 : Nat → List Value) (hN : ∀ i, i < 5 → N i ≤ 2097170) (lc : Nat) (w : World) (h0 : PA w base Lb vv N f0) :
    Calls Tryd.prog 12 #[.slice (some ⟨Lb, 0, none⟩) 5 lc] w fun e w' => e = .returned (.bool true) ∧ Below base w w' := by
  have H0 := hide h0
  have HN := hide hN
  clear h0 hN
  go_enter Tryd.func12, Tryd.ntmps12
  go_wp2_with fail
  go_loopw [3, 4] (fun iv _ wr => ∃ (i : Nat) (f : Nat → List Value), i ≤ 5 ∧ iv = .int .i64 i ∧ Hid (PA wr base Lb vv N f ∧ (∀ j, j < i → f j = List.replicate (N j) (.int .i64 (mi j))) ∧ Below base w wr)) (fun iv _ _ => 5 - (intOf iv).toNat)
  case atStart => exact ⟨0, f0, by omega, rfl, hide ⟨unhide H0, fun j h => absurd h (Nat.not_lt_zero _), Below.refl _ _⟩⟩
  case round =>
    clear H0
    obtain ⟨i, f, hi, rfl, HI⟩ := hrel
    by_cases hlt : i < 5
    · have hl := (unhide HI).1.lst i hlt
      have hrow := (unhide HI).1.row i hlt
      have hNi := unhide HN i hlt
      have hlt' : (i : Int) < 5 := by omega
      go_wp2_with fail
      go_loopw [4] (fun kv wr => ∃ (k : Nat) (f : Nat → List Value), k ≤ N i ∧ kv = .int .i64 k ∧ wr.cell? ⟨Lb, i, none⟩ = some (vv i) ∧ Hid (PA wr base Lb vv N f ∧ (∀ j, j < i → f j = List.replicate (N j) (.int .i64 (mi j))) ∧ (∀ m, m < k → (f i)[m]? = some (.int .i64 (mi i))) ∧ Below base w wr)) (fun kv _ => N i - (intOf kv).toNat)
      case atStart => exact ⟨0, f, Nat.zero_le _, rfl, hl, hide ⟨(unhide HI).1, (unhide HI).2.1, fun m h => absurd h (Nat.not_lt_zero _), (unhide HI).2.2⟩⟩
      case round =>
        clear HI hl hrow
        obtain ⟨k, f, hk, rfl, hl, HI⟩ := hrel
        have hrow := (unhide HI).1.row i hlt
        by_cases hk2 : k < N i
        · obtain ⟨g, cap, hv, hbg, hgl⟩ : ∃ g cap, vv i = .slice (some ⟨g, 0, none⟩) (N i) cap ∧ base ≤ g ∧ g < wr.heap.size := by
            rcases hrow.2 with ⟨_, h0⟩ | ⟨g, cap, cur, h1, h2, h3, _⟩
            · omega
            · exact ⟨g, cap, h1, h2, (Array.getElem?_eq_some_iff.1 h3).1⟩
          have HW5 := hide ((unhide HI).1.write i hlt g cap hv k (.int .i64 (mi i)))
          have hrow2 := hrow
          rw [hv] at hl hrow2
          obtain ⟨z, hz⟩ : ∃ z, (f i)[k]? = some z := ⟨_, List.getElem?_eq_getElem (by have := hrow.1; omega)⟩
          have hcg : wr.cell? ⟨g, k, none⟩ = some z := owns_cell hrow2 k _ hz
          have hfg : wr.frozen? ⟨g, k, none⟩ = false := hrow2.frozenAt k
          have HFL := hide hrow.1
          have HV := hide hv
          have hLl := (unhide HI).1.lt
          have HB := hide (unhide HI).2.2.2
          clear hrow hrow2 hv hz
          have hm : (-1 : Int) - (i : Int) = mi i := rfl
          have hmr : IntKind.i64.wrap (-1 - (i : Int)) = mi i := by rw [IntKind.wrap_i64]; unfold mi; omega
          have hlN := (unhide HW5).1.lst i hlt
          have HP := hide (unhide HW5)
          clear HW5
          go_wp2_with fail
          clear hcg hfg hl
          go_roundw
          case rel =>
              refine ⟨k + 1, _, by omega, by go_num, hlN, hide ⟨(unhide HP).1, fun j hj => ?_, fun m hm => ?_, ?_⟩⟩
              · rw [if_neg (by omega)]; exact (unhide HI).2.1 j hj
              · rw [if_pos rfl, List.getElem?_set]
                have hfl := unhide HFL
                by_cases e : k = m
                · rw [if_pos e, if_pos (by omega)]
                · rw [if_neg e]; exact (unhide HI).2.2.1 m (by omega)
              · exact (unhide HB).trans (unhide HP).2
          case measure => simp [intOf]; omega
        · obtain ⟨va, vc, hv⟩ : ∃ a c, vv i = .slice a (N i) c := by
            rcases hrow.2 with ⟨h1, h2⟩ | ⟨g, cap, cur, h1, _⟩
            · exact ⟨none, 0, by rw [h1, h2]⟩
            · exact ⟨_, _, h1⟩
          rw [hv] at hl
          have HFL := hide hrow.1
          clear hrow hv
          go_wp2_with fail
          go_roundw
          case rel =>
            refine ⟨i + 1, f, by omega, by go_num, hide ⟨(unhide HI).1, fun j hj => ?_, (unhide HI).2.2.2⟩⟩
            by_cases e : j = i
            · subst e
              apply List.ext_getElem?
              intro m
              have hfl := unhide HFL
              by_cases hm : m < N j
              · rw [(unhide HI).2.2.1 m (by omega), List.getElem?_replicate, if_pos hm]
              · rw [List.getElem?_eq_none (by omega), List.getElem?_replicate, if_neg hm]
            · exact (unhide HI).2.1 j (by omega)
          case measure => simp [intOf]; omega
    · obtain rfl : i = 5 := by omega
      have HQ := hide (show Q2 wr base Lb vv N 0 (.slice none 0 0) (fun _ => 0) (fun _ => 0) from
        ⟨⟨(unhide HI).1.lst, fun m hm => by have := (unhide HI).1.row m hm; rw [(unhide HI).2.1 m hm] at this; exact this, (unhide HI).1.apart, (unhide HI).1.far, (unhide HI).1.lt, (unhide HI).1.base_le⟩, World.ownsRow_nil _ _ _ _, by simp [Value.ownBlock], fun j hj => absurd hj (Nat.not_lt_zero _), fun j hj => absurd hj (Nat.not_lt_zero _), fun j hj => absurd hj (Nat.not_lt_zero _)⟩)
      have HB := hide (unhide HI).2.2
      clear HI hlt hi
      obtain ⟨i0, hi0, hz0, hz1, hz2⟩ := info_parts infoI
      obtain ⟨i1, hi1, hy0, hy1, hy2⟩ := info_parts infoT
      go_wp2_with fail
      go_loopw [5, 6, 7, 8] (fun lw iv _ _ wr => ∃ (i : Nat) (h hc : Nat → Nat) (lv : Value), i ≤ 5 ∧ iv = .int .i64 i ∧ lw = lv ∧ Hid (Q2 wr base Lb vv N i lv h hc ∧ Below base w wr)) (fun _ iv _ _ _ => 5 - (intOf iv).toNat)
      case atStart => exact ⟨0, _, _, _, by omega, rfl, rfl, hide ⟨unhide HQ, unhide HB⟩⟩
      case round =>
        clear HQ HB
        obtain ⟨i, h, hc, lv, hi, rfl, rfl, HQ⟩ := hrel
        by_cases hlt : i < 5
        · have hlt' : (i : Int) < 5 := by omega
          have hNi := unhide HN i hlt
          have hl := (unhide HQ).1.pa.lst i hlt
          obtain ⟨va, vc, hv⟩ : ∃ a c, vv i = .slice a (N i) c := by
            rcases ((unhide HQ).1.pa.row i hlt).2 with ⟨h1, h2⟩ | ⟨g, cap, cur, h1, _⟩
            · exact ⟨none, 0, by rw [h1, h2]⟩
            · exact ⟨_, _, h1⟩
          have HQ3 := hide (show Q3 wr base Lb vv N i u5 h hc 0 (.slice va (N i + 0) vc) from
            ⟨(unhide HQ).1, by rw [GL_zero, Nat.add_zero, ← hv]; exact (unhide HQ).1.pa.row i hlt, .inl (by rw [Nat.add_zero, ← hv]), by rw [Nat.add_zero, ← hv]; exact (unhide HQ).1.pa.far i hlt, fun j hj => by rw [Nat.add_zero, ← hv]; exact (unhide HQ).1.sep j hj i (Nat.le_refl _) hlt⟩)
          rw [hv] at hl
          clear hv
          go_wp2_with fail
          go_loopw [7, 8] (fun xv kv wr => ∃ (k : Nat) (a : Option Addr) (c : Nat), k ≤ 64 ∧ kv = .int .i64 k ∧ xv = .slice a (N i + k) c ∧ Hid (Q3 wr base Lb vv N i u5 h hc k (.slice a (N i + k) c) ∧ Below base w wr)) (fun _ kv _ => 64 - (intOf kv).toNat)
          case atStart => exact ⟨0, va, vc, by omega, rfl, rfl, hide ⟨unhide HQ3, (unhide HQ).2⟩⟩
          case round =>
            clear HQ HQ3 hl
            obtain ⟨k, a, c, hk, rfl, rfl, HQ⟩ := hrel
            by_cases hk2 : k < 64
            · have hk3 : (k : Int) < 64 := by omega
              have hbl : base ≤ wr.heap.size := Nat.le_trans (unhide HQ).1.q.pa.base_le (Nat.le_of_lt (unhide HQ).1.q.pa.lt)
              have HB5 := hide (unhide HQ).2
              have hq6 := (unhide HQ).1.later ((Below.refl wr.heap.size wr).alloc (Nat.le_refl _) (.cells #[.int .i64 (pli i)] 3))
              have HQ6 := hide hq6
              have HX := hide hq6.x
              have hm : (-1000 : Int) - (i : Int) = pli i := rfl
              have hmr : IntKind.i64.wrap (-1000 - (i : Int)) = pli i := by rw [IntKind.wrap_i64]; unfold pli; omega
              clear hq6 HQ
              by_cases hroom : ∃ g, a = some ⟨g, 0, none⟩ ∧ N i + k + 1 ≤ c
              · obtain ⟨g, rfl, hrm⟩ := hroom
                go_wp2_with (at_builtin; go_must (refine wpList_append_fits _ rfl _ _ 24 rfl base 3 i0 1 Tryd.underlying24 hi0 hz1 g (N i + k) c (GL (N i) k i) rfl (unhide HX) ⟨_, 0, none⟩ 1 1 [.int .i64 (pli i)] rfl rfl (cell_one_newI _ _ _) (by simp [Value.oneCell']) (by omega) ?_); intro w7 hown' hgrow; have HQ7 := hide ((unhide HQ6).fits hlt hown' hgrow); have HB7 := hide (((unhide HB5).alloc hbl (.cells #[.int .i64 (pli i)] 3)).grown hgrow (by simp; omega) (fun j e => ((unhide HX).lt j e).1)); clear hown' hgrow)
                go_roundw
                case rel => exact ⟨k + 1, some ⟨g, 0, none⟩, c, by omega, by go_num, rfl, hide ⟨unhide HQ7, unhide HB7⟩⟩
                case measure => simp [intOf]; omega
              · have hform : (a = none ∧ N i + k = 0 ∧ c = 0) ∨ ∃ g, a = some ⟨g, 0, none⟩ ∧ c < N i + k + 1 := by
                  rcases (unhide HX).2 with ⟨e, e2⟩ | ⟨g, cap, cur, e, _⟩
                  · injection e with e3 e4 e5
                    exact .inl ⟨e3, e2, e5⟩
                  · injection e with e3 e4 e5
                    refine .inr ⟨g, e3, ?_⟩
                    by_cases h9 : N i + k + 1 ≤ c
                    · exact absurd ⟨g, e3, h9⟩ hroom
                    · omega
                have hnone : a = none → N i + k = 0 ∧ c = 0 := fun e => by
                  rcases hform with ⟨_, e1, e2⟩ | ⟨g, e1, _⟩
                  · exact ⟨e1, e2⟩
                  · rw [e] at e1; cases e1
                have hfull : c < N i + k + 1 := by
                  rcases hform with ⟨_, e1, e2⟩ | ⟨g, _, e1⟩
                  · omega
                  · exact e1
                have holds : ∀ b, a = some b → ∀ j u, (GL (N i) k i)[j]? = some u → (wr.alloc (.cells #[.int .i64 (pli i)] 3)).cell? (b.add j) = some u := fun b hb j u hj => by
                  rcases hform with ⟨e, _, _⟩ | ⟨g, e1, _⟩
                  · rw [e] at hb; cases hb
                  · rw [e1] at hb
                    cases hb
                    exact (unhide HX).cells (g := g) (by rw [e1]; rfl) j u hj
                have Hh := hide holds
                have Hn := hide hnone
                clear hform hroom holds hnone
                go_wp2_with (at_builtin; go_must (refine wpList_append_grows _ rfl _ _ 24 rfl 3 i0 (.int .i64 0) 1 8 Tryd.underlying24 hi0 hz0 hz1 hz2 rfl (by decide) a (N i + k) c (GL (N i) k i) rfl (unhide Hn) (unhide HX).1 (unhide Hh) ⟨_, 0, none⟩ 1 1 [.int .i64 (pli i)] rfl rfl (cell_one_newI _ _ _) (by simp [Value.oneCell']) (by omega) (by unfold maxLen; omega) (by omega) ?_); intro v' w7 hown' hgrow; have hq7 := (unhide HQ6).grows hown' hgrow; obtain ⟨g', cap', rfl⟩ := ownsRow_succ' hown'; have HQ7 := hide hq7; have HB7 := hide (((unhide HB5).alloc hbl (.cells #[.int .i64 (pli i)] 3)).grown hgrow (by simp; omega) (fun j e => by cases e)); clear hown' hgrow hq7)
                go_roundw
                case rel => exact ⟨k + 1, _, _, by omega, by go_num, rfl, hide ⟨unhide HQ7, unhide HB7⟩⟩
                case measure => simp [intOf]; omega
            · obtain rfl : k = 64 := by omega
              obtain ⟨g, rfl⟩ : ∃ g, a = some ⟨g, 0, none⟩ := by
                rcases (unhide HQ).1.x.2 with ⟨_, e2⟩ | ⟨g, cap, cur, e, _⟩
                · omega
                · injection e with e3 e4 e5
                  exact ⟨g, e3⟩
              have hbl : base ≤ wr.heap.size := Nat.le_trans (unhide HQ).1.q.pa.base_le (Nat.le_of_lt (unhide HQ).1.q.pa.lt)
              have HQ6 := hide ((unhide HQ).1.later ((Below.refl wr.heap.size wr).alloc (Nat.le_refl _) (.cells #[.slice (some ⟨g, 0, none⟩) (N i + 64) c] 24)))
              have HB5 := hide (unhide HQ).2
              clear HQ hk2
              go_wp2_with (at_builtin; go_must (refine wpList_append_lies _ rfl _ _ 38 rfl base 24 i1 (.slice none 0 0) 1 24 Tryd.underlying38 hi1 hy0 hy1 hy2 rfl (by decide) _ i _ rfl (unhide HQ6).q.own ⟨_, 0, none⟩ 1 1 [.slice (some ⟨g, 0, none⟩) (N i + 64) c] rfl rfl (cell_one_newI _ _ _) (by simp [Value.oneCell']) (by decide) (by unfold maxLen; omega) (by omega) (by simp; omega) _ rfl ?_); intro G cap w7 hown' hgrow hat _; have HQ7 := hide ((unhide HQ6).put hlt hown' hgrow (by rcases hat with e | e; exact .inl e; exact .inr (Nat.le_of_eq e.symm))); have HB7 := hide (((unhide HB5).alloc hbl (.cells #[.slice (some ⟨g, 0, none⟩) (N i + 64) c] 24)).grown hgrow (by simp; omega) (fun j e => ((unhide HQ6).q.own.lt j e).1)); clear hown' hgrow hat)
              go_roundw
              case rel => exact ⟨i + 1, _, _, _, by omega, by go_num, rfl, hide ⟨unhide HQ7, unhide HB7⟩⟩
              case measure => simp [intOf]; omega
        · obtain rfl : i = 5 := by omega
          obtain ⟨G, gc, rfl⟩ : ∃ G cap, u5 = .slice (some ⟨G, 0, none⟩) 5 cap := by
            rcases (unhide HQ).1.own.2 with ⟨_, e2⟩ | ⟨g, cap, cur, e, _⟩
            · omega
            · exact ⟨g, cap, e⟩
          clear hlt hi hi0 hz0 hz1 hz2 hi1 hy0 hy1 hy2
          go_wp2_with fail
          rw [show ((5 : Nat) : Int) = 5 from rfl]
          go_loopw [9, 10] (fun iv _ wr => ∃ i : Nat, i ≤ 5 ∧ iv = .int .i64 i ∧ Hid (Q2 wr base Lb vv N 5 (.slice (some ⟨G, 0, none⟩) 5 gc) h hc ∧ Below base w wr)) (fun iv _ _ => 5 - (intOf iv).toNat)
          case atStart => exact ⟨0, by omega, rfl, HQ⟩
          case round =>
            clear HQ
            obtain ⟨i, hi, rfl, HQ⟩ := hrel
            by_cases hlt : i < 5
            · have hlt' : (i : Int) < 5 := by omega
              have hNi := unhide HN i hlt
              go_wp2_with fail
              go_loopw [10] (fun kv wr => ∃ k : Nat, k ≤ N i + 64 ∧ kv = .int .i64 k ∧ Hid (Q2 wr base Lb vv N 5 (.slice (some ⟨G, 0, none⟩) 5 gc) h hc ∧ Below base w wr)) (fun kv _ => N i + 64 - (intOf kv).toNat)
              case atStart => exact ⟨0, Nat.zero_le _, rfl, HQ⟩
              case round =>
                clear HQ
                obtain ⟨k, hk, rfl, HQ⟩ := hrel
                have cG : wr.cell? ⟨G, i, none⟩ = some (.slice (some ⟨h i, 0, none⟩) (N i + 64) (hc i)) := owns_cellT (unhide HQ).1.own i _ (by simp [hlt])
                have gG : G < wr.heap.size := ((unhide HQ).1.own.lt G rfl).2
                have gH : h i < wr.heap.size := (((unhide HQ).1.rows i hlt).lt (h i) rfl).2
                have gL := (unhide HQ).1.pa.lt
                have cL := (unhide HQ).1.pa.lst i hlt
                have hbl : base ≤ wr.heap.size := Nat.le_trans (unhide HQ).1.pa.base_le (Nat.le_of_lt gL)
                by_cases hk2 : k < N i + 64
                · by_cases hk3 : k < N i
                  · obtain ⟨g, c, hv, gg⟩ : ∃ g c, vv i = .slice (some ⟨g, 0, none⟩) (N i) c ∧ g < wr.heap.size := by
                      rcases ((unhide HQ).1.pa.row i hlt).2 with ⟨_, e2⟩ | ⟨g, cap, cur, e, _, e3, _⟩
                      · omega
                      · exact ⟨g, cap, e, (Array.getElem?_eq_some_iff.1 e3).1⟩
                    have cg : wr.cell? ⟨g, k, none⟩ = some (.int .i64 (mi i)) := owns_cell (by rw [← hv]; exact (unhide HQ).1.pa.row i hlt) k _ (by rw [List.getElem?_replicate, if_pos hk3])
                    have ch : wr.cell? ⟨h i, k, none⟩ = some (.int .i64 (mi i)) := owns_cell ((unhide HQ).1.rows i hlt) k _ (by unfold GL; rw [List.getElem?_append_left (by simpa using hk3), List.getElem?_replicate, if_pos hk3])
                    rw [hv] at cL
                    clear hv
                    have hm : (-1 : Int) - (i : Int) = mi i := rfl
                    have hmr : IntKind.i64.wrap (-1 - (i : Int)) = mi i := by rw [IntKind.wrap_i64]; unfold mi; omega
                    have hmm : (mi i != mi i) = false := by simp
                    have j1 : (k : Int) < (N i : Int) := by omega
                    have j5 : (k : Int) < (N i : Int) + 64 := by omega
                    have j2 : ¬ (N i : Int) ≤ (k : Int) := by omega
                    have HQ9 := HQ
                    clear HQ
                    go_wp2_with fail
                    go_roundw
                    case rel => exact ⟨k + 1, by omega, by go_num, HQ9⟩
                    case measure => simp [intOf]; omega
                  · obtain ⟨va, vc, hv⟩ : ∃ a c, vv i = .slice a (N i) c := by
                      rcases ((unhide HQ).1.pa.row i hlt).2 with ⟨h1, h2⟩ | ⟨g, cap, cur, h1, _⟩
                      · exact ⟨none, 0, by rw [h1, h2]⟩
                      · exact ⟨_, _, h1⟩
                    have ch : wr.cell? ⟨h i, k, none⟩ = some (.int .i64 (pli i)) := owns_cell ((unhide HQ).1.rows i hlt) k _ (by unfold GL; rw [List.getElem?_append_right (by simp; omega), List.getElem?_replicate, if_pos (by simp; omega)])
                    rw [hv] at cL
                    clear hv
                    have hm : (-1000 : Int) - (i : Int) = pli i := rfl
                    have hmr : IntKind.i64.wrap (-1000 - (i : Int)) = pli i := by rw [IntKind.wrap_i64]; unfold pli; omega
                    have hmm : (pli i != pli i) = false := by simp
                    have j1 : ¬ (k : Int) < (N i : Int) := by omega
                    have j5 : (k : Int) < (N i : Int) + 64 := by omega
                    have j2 : (N i : Int) ≤ (k : Int) := by omega
                    have HQ9 := HQ
                    clear HQ
                    go_wp2_with fail
                    go_roundw
                    case rel => exact ⟨k + 1, by omega, by go_num, HQ9⟩
                    case measure => simp [intOf]; omega
                · have j5 : ¬ (k : Int) < (N i : Int) + 64 := by omega
                  have HQ9 := HQ
                  clear HQ
                  go_wp2_with fail
                  go_roundw
                  case rel => exact ⟨i + 1, by omega, by go_num, HQ9⟩
                  case measure => simp [intOf]; omega
            · obtain rfl : i = 5 := by omega
              have HQ9 := hide (unhide HQ).2
              clear HQ
              go_wp2_with fail
              go_ret
              exact ⟨rfl, unhide HQ9⟩
end Go.Proofs.YtcdajbfoneifaaaDoor
