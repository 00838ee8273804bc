import Derived.Test.YtfnbclehlikbkaaApartQ
namespace Go.Proofs.Ytfnbclehlikbkaa
open Go.RowKit

theorem owns_cellS {W : World} {base : Nat} {g n cap : Nat} {xs : List Value} (h : W.ownsRow base 22 1 (.slice (some ⟨g, 0, none⟩) n cap) n xs) (k : Nat) (u : Value) (hk : xs[k]? = some u) : W.cell? ⟨g, k, none⟩ = some u := by
  have := h.cells (g := g) rfl k u hk
  by_cases e : k = 0
  · subst e; simpa [Addr.add] using this
  · simpa [Addr.add, e] using this

theorem keepA {w0 W W' : World} {b1 b2 b3 b4 o1 o2 o3 o4 : Nat} {v1 v2 v3 v4 : Value} (hb : Below W.heap.size W W') (h1 : W.cell? ⟨b1, o1, none⟩ = some v1) (h2 : W.cell? ⟨b2, o2, none⟩ = some v2) (h3 : W.cell? ⟨b3, o3, none⟩ = some v3) (h4 : W.cell? ⟨b4, o4, none⟩ = some v4)
    (g1 : b1 < W.heap.size) (g2 : b2 < W.heap.size) (g3 : b3 < W.heap.size) (g4 : b4 < W.heap.size) (hB : Below w0.heap.size w0 W) :
    W'.cell? ⟨b1, o1, none⟩ = some v1 ∧ W'.cell? ⟨b2, o2, none⟩ = some v2 ∧ W'.cell? ⟨b3, o3, none⟩ = some v3 ∧ W'.cell? ⟨b4, o4, none⟩ = some v4 ∧ b1 < W'.heap.size ∧ b2 < W'.heap.size ∧ b3 < W'.heap.size ∧ b4 < W'.heap.size ∧ Below w0.heap.size w0 W' :=
  ⟨(hb.cell (p := ⟨b1, o1, none⟩) g1).trans h1, (hb.cell (p := ⟨b2, o2, none⟩) g2).trans h2, (hb.cell (p := ⟨b3, o3, none⟩) g3).trans h3, (hb.cell (p := ⟨b4, o4, none⟩) g4).trans h4, Nat.lt_of_lt_of_le g1 hb.size, Nat.lt_of_lt_of_le g2 hb.size, Nat.lt_of_lt_of_le g3 hb.size, Nat.lt_of_lt_of_le g4 hb.size, hB.trans (hb.mono hB.size)⟩

theorem keepB {w0 W W' : World} {b1 b2 b3 o1 o2 o3 : Nat} {v1 v2 v3 : Value} (hb : Below W.heap.size W W') (h1 : W.cell? ⟨b1, o1, none⟩ = some v1) (h2 : W.cell? ⟨b2, o2, none⟩ = some v2) (h3 : W.cell? ⟨b3, o3, none⟩ = some v3)
    (g1 : b1 < W.heap.size) (g2 : b2 < W.heap.size) (g3 : b3 < W.heap.size) (hB : Below w0.heap.size w0 W) :
    W'.cell? ⟨b1, o1, none⟩ = some v1 ∧ W'.cell? ⟨b2, o2, none⟩ = some v2 ∧ W'.cell? ⟨b3, o3, none⟩ = some v3 ∧ b1 < W'.heap.size ∧ b2 < W'.heap.size ∧ b3 < W'.heap.size ∧ Below w0.heap.size w0 W' :=
  ⟨(hb.cell (p := ⟨b1, o1, none⟩) g1).trans h1, (hb.cell (p := ⟨b2, o2, none⟩) g2).trans h2, (hb.cell (p := ⟨b3, o3, none⟩) g3).trans h3, Nat.lt_of_lt_of_le g1 hb.size, Nat.lt_of_lt_of_le g2 hb.size, Nat.lt_of_lt_of_le g3 hb.size, hB.trans (hb.mono hB.size)⟩

set_option maxRecDepth 8000 in
set_option maxHeartbeats 4000000 in
theorem textsApart_any (base Lb : Nat) (vv : Nat → Value) (N : Nat → Nat) (f0 : Nat → List Value) (hN : ∀ i, i < 5 → N i ≤ 2097170) (w : World) (h0 : PA w base Lb vv N f0) :
    Calls Try.prog 8 #[.slice (some ⟨Lb, 0, none⟩) 5 5] w fun e w' => e = .returned (.bool true) ∧ Below base w w' := by
  have H0 := hide h0
  have HN := hide hN
  clear h0 hN
  go_enter Try.func8, Try.ntmps8
  go_wp2_with fail
  go_loopw [3, 4] (fun iv _ wr => ∃ (i : Nat) (f : Nat → List Value), i ≤ 5 ∧ iv = .int .i64 i ∧ Hid (PA wr base Lb vv N f ∧ (∀ j, j < i → f j = List.replicate (N j) (.string (mk j))) ∧ Below base w wr)) (fun iv _ _ => 5 - (intOf iv).toNat)
  case atStart => exact ⟨0, f0, by omega, rfl, hide ⟨unhide H0, fun j h => absurd h (Nat.not_lt_zero _), Below.refl _ _⟩⟩
  case round =>
    clear H0
    obtain ⟨i, f, hi, rfl, HI⟩ := hrel
    by_cases hlt : i < 5
    · have hl := (unhide HI).1.lst i hlt
      have hrow := (unhide HI).1.row i hlt
      have hNi := unhide HN i hlt
      have hlt' : (i : Int) < 5 := by omega
      go_wp2_with fail
      go_loopw [4] (fun kv wr => ∃ (k : Nat) (f : Nat → List Value), k ≤ N i ∧ kv = .int .i64 k ∧ wr.cell? ⟨Lb, i, none⟩ = some (vv i) ∧ Hid (PA wr base Lb vv N f ∧ (∀ j, j < i → f j = List.replicate (N j) (.string (mk j))) ∧ (∀ m, m < k → (f i)[m]? = some (.string (mk i))) ∧ Below base w wr)) (fun kv _ => N i - (intOf kv).toNat)
      case atStart => exact ⟨0, f, Nat.zero_le _, rfl, hl, hide ⟨(unhide HI).1, (unhide HI).2.1, fun m h => absurd h (Nat.not_lt_zero _), (unhide HI).2.2⟩⟩
      case round =>
        clear HI hl hrow
        obtain ⟨k, f, hk, rfl, hl, HI⟩ := hrel
        have hrow := (unhide HI).1.row i hlt
        by_cases hk2 : k < N i
        · obtain ⟨g, cap, hv, hbg, hgl⟩ : ∃ g cap, vv i = .slice (some ⟨g, 0, none⟩) (N i) cap ∧ base ≤ g ∧ g < wr.heap.size := by
            rcases hrow.2 with ⟨_, h0⟩ | ⟨g, cap, cur, h1, h2, h3, _⟩
            · omega
            · exact ⟨g, cap, h1, h2, (Array.getElem?_eq_some_iff.1 h3).1⟩
          have HW := hide (fun (W : World) (hb : Below wr.heap.size wr W) => ((unhide HI).1.later hb).write i hlt g cap hv k (.string (mk i)))
          have hrow2 := hrow
          rw [hv] at hl hrow2
          obtain ⟨z, hz⟩ : ∃ z, (f i)[k]? = some z := ⟨_, List.getElem?_eq_getElem (by have := hrow.1; omega)⟩
          have hcg : wr.cell? ⟨g, k, none⟩ = some z := owns_cell hrow2 k _ hz
          have hfg : wr.frozen? ⟨g, k, none⟩ = false := hrow2.frozenAt k
          have HFL := hide hrow.1
          have HV := hide hv
          have hLl := (unhide HI).1.lt
          have HB := hide (unhide HI).2.2.2
          clear hrow hrow2 hv hz
          go_wp2_with fail
          go_region_with (go_at_call 18; refine (mark_any i (by omega) _).mono ?_; rintro x w5 ⟨rfl, hb50⟩; have hb5 := ((Below.refl wr.heap.size wr).drew).trans hb50; have hl5 := (hb5.cell (p := ⟨Lb, i, none⟩) hLl).trans hl; have hc5 := (hb5.cell (p := ⟨g, k, none⟩) hgl).trans hcg; have hf5 := (World.frozen?_of_block (a := ⟨g, k, none⟩) (hb5.block g hgl)).trans hfg; have HW5 := hide (unhide HW w5 hb5); have HB5 := hide hb5; clear hb5 hb50)
          all_goals
            have hP := unhide HW5
            have HP := hide hP
            have hlN := hP.1.lst i hlt
            clear hP HW HW5 hl5 hc5 hf5 hcg hfg hl
            go_wp2_with fail
            go_roundw
            case rel =>
              refine ⟨k + 1, _, by omega, by go_num, hlN, hide ⟨(unhide HP).1, fun j hj => ?_, fun m hm => ?_, ?_⟩⟩
              · rw [if_neg (by omega)]; exact (unhide HI).2.1 j hj
              · rw [if_pos rfl, List.getElem?_set]
                have hfl := unhide HFL
                by_cases e : k = m
                · rw [if_pos e, if_pos (by omega)]
                · rw [if_neg e]; exact (unhide HI).2.2.1 m (by omega)
              · have hbl : base ≤ wr.heap.size := Nat.le_trans (unhide HI).1.base_le (Nat.le_of_lt hLl)
                exact (unhide HB).trans (((unhide HB5).mono hbl).trans (unhide HP).2)
            case measure => simp [intOf]; omega
        · obtain ⟨va, vc, hv⟩ : ∃ a c, vv i = .slice a (N i) c := by
            rcases hrow.2 with ⟨h1, h2⟩ | ⟨g, cap, cur, h1, _⟩
            · exact ⟨none, 0, by rw [h1, h2]⟩
            · exact ⟨_, _, h1⟩
          rw [hv] at hl
          have HFL := hide hrow.1
          clear hrow hv
          go_wp2_with fail
          go_roundw
          case rel =>
            refine ⟨i + 1, f, by omega, by go_num, hide ⟨(unhide HI).1, fun j hj => ?_, (unhide HI).2.2.2⟩⟩
            by_cases e : j = i
            · subst e
              apply List.ext_getElem?
              intro m
              have hfl := unhide HFL
              by_cases hm : m < N j
              · rw [(unhide HI).2.2.1 m (by omega), List.getElem?_replicate, if_pos hm]
              · rw [List.getElem?_eq_none (by omega), List.getElem?_replicate, if_neg hm]
            · exact (unhide HI).2.1 j (by omega)
          case measure => simp [intOf]; omega
    · obtain rfl : i = 5 := by omega
      have HQ := hide (show Q2 wr base Lb vv N 0 (.slice none 0 0) (fun _ => 0) (fun _ => 0) from
        ⟨⟨(unhide HI).1.lst, fun m hm => by have := (unhide HI).1.row m hm; rw [(unhide HI).2.1 m hm] at this; exact this, (unhide HI).1.apart, (unhide HI).1.far, (unhide HI).1.lt, (unhide HI).1.base_le⟩, World.ownsRow_nil _ _ _ _, by simp [Value.ownBlock], fun j hj => absurd hj (Nat.not_lt_zero _), fun j hj => absurd hj (Nat.not_lt_zero _), fun j hj => absurd hj (Nat.not_lt_zero _)⟩)
      have HB := hide (unhide HI).2.2
      clear HI hlt hi
      obtain ⟨i0, hi0, hz0, hz1, hz2⟩ := info_parts info9
      obtain ⟨i1, hi1, hy0, hy1, hy2⟩ := info_parts infoS
      go_wp2_with fail
      go_loopw [5, 6, 7, 8] (fun lw iv _ _ wr => ∃ (i : Nat) (h hc : Nat → Nat) (lv : Value), i ≤ 5 ∧ iv = .int .i64 i ∧ lw = lv ∧ Hid (Q2 wr base Lb vv N i lv h hc ∧ Below base w wr)) (fun _ iv _ _ _ => 5 - (intOf iv).toNat)
      case atStart => exact ⟨0, _, _, _, by omega, rfl, rfl, hide ⟨unhide HQ, unhide HB⟩⟩
      case round =>
        clear HQ HB
        obtain ⟨i, h, hc, lv, hi, rfl, rfl, HQ⟩ := hrel
        by_cases hlt : i < 5
        · have hlt' : (i : Int) < 5 := by omega
          have hNi := unhide HN i hlt
          have hl := (unhide HQ).1.pa.lst i hlt
          obtain ⟨va, vc, hv⟩ : ∃ a c, vv i = .slice a (N i) c := by
            rcases ((unhide HQ).1.pa.row i hlt).2 with ⟨h1, h2⟩ | ⟨g, cap, cur, h1, _⟩
            · exact ⟨none, 0, by rw [h1, h2]⟩
            · exact ⟨_, _, h1⟩
          have HQ3 := hide (show Q3 wr base Lb vv N i u5 h hc 0 (.slice va (N i + 0) vc) from
            ⟨(unhide HQ).1, by rw [GL_zero, Nat.add_zero, ← hv]; exact (unhide HQ).1.pa.row i hlt, .inl (by rw [Nat.add_zero, ← hv]), by rw [Nat.add_zero, ← hv]; exact (unhide HQ).1.pa.far i hlt, fun j hj => by rw [Nat.add_zero, ← hv]; exact (unhide HQ).1.sep j hj i (Nat.le_refl _) hlt⟩)
          rw [hv] at hl
          clear hv
          go_wp2_with fail
          go_loopw [7, 8] (fun xv kv wr => ∃ (k : Nat) (a : Option Addr) (c : Nat), k ≤ 64 ∧ kv = .int .i64 k ∧ xv = .slice a (N i + k) c ∧ Hid (Q3 wr base Lb vv N i u5 h hc k (.slice a (N i + k) c) ∧ Below base w wr)) (fun _ kv _ => 64 - (intOf kv).toNat)
          case atStart => exact ⟨0, va, vc, by omega, rfl, rfl, hide ⟨unhide HQ3, (unhide HQ).2⟩⟩
          case round =>
            clear HQ HQ3 hl
            obtain ⟨k, a, c, hk, rfl, rfl, HQ⟩ := hrel
            by_cases hk2 : k < 64
            · have hk3 : (k : Int) < 64 := by omega
              go_wp2_with fail
              refine (mark_any i (by omega) _).mono ?_
              rintro x w5 ⟨rfl, hb5⟩
              have hq5 := (unhide HQ).1.later hb5
              have hbl : base ≤ wr.heap.size := Nat.le_trans (unhide HQ).1.q.pa.base_le (Nat.le_of_lt (unhide HQ).1.q.pa.lt)
              have HB5 := hide ((unhide HQ).2.trans (hb5.mono hbl))
              have hbl5 : base ≤ w5.heap.size := Nat.le_trans hbl hb5.size
              have hq6 := hq5.later ((Below.refl w5.heap.size w5).alloc (Nat.le_refl _) (.cells #[.string (plus i)] 9))
              have HQ6 := hide hq6
              have HX := hide hq6.x
              clear hb5 hq5 hq6 HQ
              by_cases hroom : ∃ g, a = some ⟨g, 0, none⟩ ∧ N i + k + 1 ≤ c
              · obtain ⟨g, rfl, hrm⟩ := hroom
                go_wp2_with (at_builtin; go_must (refine wpList_append_fits _ rfl _ _ 22 rfl base 9 i0 1 Try.underlying22 hi0 hz1 g (N i + k) c (GL (N i) k i) rfl (unhide HX) ⟨_, 0, none⟩ 1 1 [.string (plus i)] rfl rfl (cell_one_new _ _ _) (by simp [Value.oneCell']) (by omega) ?_); intro w7 hown' hgrow; have HQ7 := hide ((unhide HQ6).fits hlt hown' hgrow); have HB7 := hide (((unhide HB5).alloc hbl5 (.cells #[.string (plus i)] 9)).grown hgrow (by simp; omega) (fun j e => ((unhide HX).lt j e).1)); clear hown' hgrow)
                go_roundw
                case rel => exact ⟨k + 1, some ⟨g, 0, none⟩, c, by omega, by go_num, rfl, hide ⟨unhide HQ7, unhide HB7⟩⟩
                case measure => simp [intOf]; omega
              · have hform : (a = none ∧ N i + k = 0 ∧ c = 0) ∨ ∃ g, a = some ⟨g, 0, none⟩ ∧ c < N i + k + 1 := by
                  rcases (unhide HX).2 with ⟨e, e2⟩ | ⟨g, cap, cur, e, _⟩
                  · injection e with e3 e4 e5
                    exact .inl ⟨e3, e2, e5⟩
                  · injection e with e3 e4 e5
                    refine .inr ⟨g, e3, ?_⟩
                    by_cases h9 : N i + k + 1 ≤ c
                    · exact absurd ⟨g, e3, h9⟩ hroom
                    · omega
                have hnone : a = none → N i + k = 0 ∧ c = 0 := fun e => by
                  rcases hform with ⟨_, e1, e2⟩ | ⟨g, e1, _⟩
                  · exact ⟨e1, e2⟩
                  · rw [e] at e1; cases e1
                have hfull : c < N i + k + 1 := by
                  rcases hform with ⟨_, e1, e2⟩ | ⟨g, _, e1⟩
                  · omega
                  · exact e1
                have holds : ∀ b, a = some b → ∀ j u, (GL (N i) k i)[j]? = some u → (w5.alloc (.cells #[.string (plus i)] 9)).cell? (b.add j) = some u := fun b hb j u hj => by
                  rcases hform with ⟨e, _, _⟩ | ⟨g, e1, _⟩
                  · rw [e] at hb; cases hb
                  · rw [e1] at hb
                    cases hb
                    exact (unhide HX).cells (g := g) (by rw [e1]; rfl) j u hj
                have Hh := hide holds
                have Hn := hide hnone
                clear hform hroom holds hnone
                go_wp2_with (at_builtin; go_must (refine wpList_append_grows _ rfl _ _ 22 rfl 9 i0 (.string ⟨#[]⟩) 1 16 Try.underlying22 hi0 hz0 hz1 hz2 rfl (by decide) a (N i + k) c (GL (N i) k i) rfl (unhide Hn) (unhide HX).1 (unhide Hh) ⟨_, 0, none⟩ 1 1 [.string (plus i)] rfl rfl (cell_one_new _ _ _) (by simp [Value.oneCell']) (by omega) (by unfold maxLen; omega) (by omega) ?_); intro v' w7 hown' hgrow; have hq7 := (unhide HQ6).grows hown' hgrow; obtain ⟨g', cap', rfl⟩ := ownsRow_succ hown'; have HQ7 := hide hq7; have HB7 := hide (((unhide HB5).alloc hbl5 (.cells #[.string (plus i)] 9)).grown hgrow (by simp; omega) (fun j e => by cases e)); clear hown' hgrow hq7)
                go_roundw
                case rel => exact ⟨k + 1, _, _, by omega, by go_num, rfl, hide ⟨unhide HQ7, unhide HB7⟩⟩
                case measure => simp [intOf]; omega
            · obtain rfl : k = 64 := by omega
              obtain ⟨g, rfl⟩ : ∃ g, a = some ⟨g, 0, none⟩ := by
                rcases (unhide HQ).1.x.2 with ⟨_, e2⟩ | ⟨g, cap, cur, e, _⟩
                · omega
                · injection e with e3 e4 e5
                  exact ⟨g, e3⟩
              have hbl : base ≤ wr.heap.size := Nat.le_trans (unhide HQ).1.q.pa.base_le (Nat.le_of_lt (unhide HQ).1.q.pa.lt)
              have HQ6 := hide ((unhide HQ).1.later ((Below.refl wr.heap.size wr).alloc (Nat.le_refl _) (.cells #[.slice (some ⟨g, 0, none⟩) (N i + 64) c] 22)))
              have HB5 := hide (unhide HQ).2
              clear HQ hk2
              go_wp2_with (at_builtin; go_must (refine wpList_append_lies _ rfl _ _ 24 rfl base 22 i1 (.slice none 0 0) 1 24 Try.underlying24 hi1 hy0 hy1 hy2 rfl (by decide) _ i _ rfl (unhide HQ6).q.own ⟨_, 0, none⟩ 1 1 [.slice (some ⟨g, 0, none⟩) (N i + 64) c] rfl rfl (cell_one_new _ _ _) (by simp [Value.oneCell']) (by decide) (by unfold maxLen; omega) (by omega) (by simp; omega) _ rfl ?_); intro G cap w7 hown' hgrow hat _; have HQ7 := hide ((unhide HQ6).put hlt hown' hgrow (by rcases hat with e | e; exact .inl e; exact .inr (Nat.le_of_eq e.symm))); have HB7 := hide (((unhide HB5).alloc hbl (.cells #[.slice (some ⟨g, 0, none⟩) (N i + 64) c] 22)).grown hgrow (by simp; omega) (fun j e => ((unhide HQ6).q.own.lt j e).1)); clear hown' hgrow hat)
              go_roundw
              case rel => exact ⟨i + 1, _, _, _, by omega, by go_num, rfl, hide ⟨unhide HQ7, unhide HB7⟩⟩
              case measure => simp [intOf]; omega
        · obtain rfl : i = 5 := by omega
          obtain ⟨G, gc, rfl⟩ : ∃ G cap, u5 = .slice (some ⟨G, 0, none⟩) 5 cap := by
            rcases (unhide HQ).1.own.2 with ⟨_, e2⟩ | ⟨g, cap, cur, e, _⟩
            · omega
            · exact ⟨g, cap, e⟩
          clear hlt hi hi0 hz0 hz1 hz2 hi1 hy0 hy1 hy2
          go_wp2_with fail
          rw [show ((5 : Nat) : Int) = 5 from rfl]
          go_loopw [9, 10] (fun iv _ wr => ∃ i : Nat, i ≤ 5 ∧ iv = .int .i64 i ∧ Hid (Q2 wr base Lb vv N 5 (.slice (some ⟨G, 0, none⟩) 5 gc) h hc ∧ Below base w wr)) (fun iv _ _ => 5 - (intOf iv).toNat)
          case atStart => exact ⟨0, by omega, rfl, HQ⟩
          case round =>
            clear HQ
            obtain ⟨i, hi, rfl, HQ⟩ := hrel
            by_cases hlt : i < 5
            · have hlt' : (i : Int) < 5 := by omega
              have hNi := unhide HN i hlt
              go_wp2_with fail
              go_loopw [10] (fun kv wr => ∃ k : Nat, k ≤ N i + 64 ∧ kv = .int .i64 k ∧ Hid (Q2 wr base Lb vv N 5 (.slice (some ⟨G, 0, none⟩) 5 gc) h hc ∧ Below base w wr)) (fun kv _ => N i + 64 - (intOf kv).toNat)
              case atStart => exact ⟨0, Nat.zero_le _, rfl, HQ⟩
              case round =>
                clear HQ
                obtain ⟨k, hk, rfl, HQ⟩ := hrel
                have cG : wr.cell? ⟨G, i, none⟩ = some (.slice (some ⟨h i, 0, none⟩) (N i + 64) (hc i)) := owns_cellS (unhide HQ).1.own i _ (by simp [hlt])
                have gG : G < wr.heap.size := ((unhide HQ).1.own.lt G rfl).2
                have gH : h i < wr.heap.size := (((unhide HQ).1.rows i hlt).lt (h i) rfl).2
                have gL := (unhide HQ).1.pa.lt
                have cL := (unhide HQ).1.pa.lst i hlt
                have hbl : base ≤ wr.heap.size := Nat.le_trans (unhide HQ).1.pa.base_le (Nat.le_of_lt gL)
                have kM := hide (fun w => mark_any i (by omega) w)
                have hBB : Below wr.heap.size wr wr.drew := (Below.refl _ _).drew
                by_cases hk2 : k < N i + 64
                · by_cases hk3 : k < N i
                  · obtain ⟨g, c, hv, gg⟩ : ∃ g c, vv i = .slice (some ⟨g, 0, none⟩) (N i) c ∧ g < wr.heap.size := by
                      rcases ((unhide HQ).1.pa.row i hlt).2 with ⟨_, e2⟩ | ⟨g, cap, cur, e, _, e3, _⟩
                      · omega
                      · exact ⟨g, cap, e, (Array.getElem?_eq_some_iff.1 e3).1⟩
                    have cg : wr.cell? ⟨g, k, none⟩ = some (.string (mk i)) := owns_cell (by rw [← hv]; exact (unhide HQ).1.pa.row i hlt) k _ (by rw [List.getElem?_replicate, if_pos hk3])
                    have ch : wr.cell? ⟨h i, k, none⟩ = some (.string (mk i)) := owns_cell ((unhide HQ).1.rows i hlt) k _ (by unfold GL; rw [List.getElem?_append_left (by simpa using hk3), List.getElem?_replicate, if_pos hk3])
                    rw [hv] at cL
                    clear hv
                    generalize mk i = mm at *
                    have j1 : (k : Int) < (N i : Int) := by omega
                    have j4 : (0 : Int) ≤ (k : Int) := by omega
                    have j5 : (k : Int) < (N i : Int) + 64 := by omega
                    have j6 : (0 : Int) ≤ (i : Int) := by omega
                    go_wp2_with fail
                    have j2 : ¬ (N i : Int) ≤ (k : Int) := by omega
                    have j3 : ¬ N i ≤ k := by omega
                    refine wp_region_held_drew (S := (fun w' => w'.cell? ⟨Lb, i, none⟩ = some (.slice (some ⟨g, 0, none⟩) (N i) c) ∧ w'.cell? ⟨g, k, none⟩ = some (.string mm) ∧ w'.cell? ⟨G, i, none⟩ = some (.slice (some ⟨h i, 0, none⟩) (N i + 64) (hc i)) ∧ w'.cell? ⟨h i, k, none⟩ = some (.string mm) ∧ Lb < w'.heap.size ∧ g < w'.heap.size ∧ G < w'.heap.size ∧ h i < w'.heap.size ∧ Below wr.heap.size wr w')) (by kernel_rfl) ?_ (fun hHeld => ?_)
                    · (try dsimp only); exact keepA hBB cL cg cG ch gL gg gG gH (Below.refl _ _)
                    refine wpAnyH_take (i := 0) (oi := { dst := some 73, op := Op.move (Operand.tmp 10), type := 3, pos := "law.go:86", after := #[], guard := none }) (v := ?_) rfl (by kernel_rfl) (by kernel_rfl) (by kernel_rfl) (fun _ _ _ h => h) (Or.inl ⟨by rfl, ?_⟩) (by assumption) ?_
                    rotate_left
                    · intro w hSw; (try dsimp only at hSw); go_simp; (try with_reducible rfl)
                    try simp only [Act.put, List.setIfInBounds_toArray, List.set_cons_zero, List.set_cons_succ]
                    refine wpAnyH_take (i := 1) (oi := { dst := some 74, op := Op.move (Operand.tmp 0), type := 24, pos := "law.go:86", after := #[], guard := none }) (v := ?_) rfl (by kernel_rfl) (by kernel_rfl) (by kernel_rfl) (fun _ _ _ h => h) (Or.inl ⟨by rfl, ?_⟩) (by assumption) ?_
                    rotate_left
                    · intro w hSw; (try dsimp only at hSw); go_simp; (try with_reducible rfl)
                    try simp only [Act.put, List.setIfInBounds_toArray, List.set_cons_zero, List.set_cons_succ]
                    refine wpAnyH_take (i := 2) (oi := { dst := some 75, op := Op.move (Operand.tmp 9), type := 3, pos := "law.go:86", after := #[], guard := none }) (v := ?_) rfl (by kernel_rfl) (by kernel_rfl) (by kernel_rfl) (fun _ _ _ h => h) (Or.inl ⟨by rfl, ?_⟩) (by assumption) ?_
                    rotate_left
                    · intro w hSw; (try dsimp only at hSw); go_simp; (try with_reducible rfl)
                    try simp only [Act.put, List.setIfInBounds_toArray, List.set_cons_zero, List.set_cons_succ]
                    refine wpAnyH_take (i := 3) (oi := { dst := some 76, op := Op.indexAddr 24 (Operand.tmp 74) (Operand.tmp 75), type := 0, pos := "law.go:86", after := #[{ on := 1, ground := Ground.data }, { on := 2, ground := Ground.data }], guard := none }) (v := ?_) rfl (by kernel_rfl) (by kernel_rfl) (by kernel_rfl) (fun _ _ _ h => h) (Or.inl ⟨by rfl, ?_⟩) (by assumption) ?_
                    rotate_left
                    · intro w hSw; (try dsimp only at hSw); go_simp; (try with_reducible rfl)
                    try simp only [Act.put, List.setIfInBounds_toArray, List.set_cons_zero, List.set_cons_succ]
                    refine wpAnyH_take (i := 4) (oi := { dst := some 77, op := Op.load 22 (Operand.tmp 76), type := 22, pos := "law.go:86", after := #[{ on := 3, ground := Ground.data }], guard := none }) (v := ?_) rfl (by kernel_rfl) (by kernel_rfl) (by kernel_rfl) (fun _ _ _ h => h) (Or.inl ⟨by rfl, ?_⟩) (by assumption) ?_
                    rotate_left
                    · intro w hSw; (try dsimp only at hSw); go_simp; (try with_reducible rfl)
                    try simp only [Act.put, List.setIfInBounds_toArray, List.set_cons_zero, List.set_cons_succ]
                    refine wpAnyH_take (i := 5) (oi := { dst := some 78, op := Op.call { callee := Callee.builtin Builtin.len, args := #[Operand.tmp 77], argTypes := #[22] }, type := 3, pos := "law.go:86", after := #[{ on := 4, ground := Ground.data }], guard := none }) (v := ?_) rfl (by kernel_rfl) (by kernel_rfl) (by kernel_rfl) (fun _ _ _ h => h) (Or.inl ⟨by rfl, ?_⟩) (by assumption) ?_
                    rotate_left
                    · intro w hSw; (try dsimp only at hSw); go_simp; (try with_reducible rfl)
                    try simp only [Act.put, List.setIfInBounds_toArray, List.set_cons_zero, List.set_cons_succ]
                    refine wpAnyH_take (i := 6) (oi := { dst := some 79, op := Op.binOp BinOp.lss 3 (Operand.tmp 73) (Operand.tmp 78) 3, type := 4, pos := "law.go:86", after := #[{ on := 0, ground := Ground.data }, { on := 5, ground := Ground.data }], guard := none }) (v := ?_) rfl (by kernel_rfl) (by kernel_rfl) (by kernel_rfl) (fun _ _ _ h => h) (Or.inl ⟨by rfl, ?_⟩) (by assumption) ?_
                    rotate_left
                    · intro w hSw; (try dsimp only at hSw); go_simp; (try with_reducible rfl)
                    try simp only [Act.put, List.setIfInBounds_toArray, List.set_cons_zero, List.set_cons_succ]
                    refine wpAnyH_take (i := 7) (oi := { dst := some 80, op := Op.move (Operand.tmp 79), type := 4, pos := "law.go:86", after := #[{ on := 6, ground := Ground.data }], guard := none }) (v := ?_) rfl (by kernel_rfl) (by kernel_rfl) (by kernel_rfl) (fun _ _ _ h => h) (Or.inl ⟨by rfl, ?_⟩) (by assumption) ?_
                    rotate_left
                    · intro w hSw; (try dsimp only at hSw); go_simp; (try with_reducible rfl)
                    try simp only [Act.put, List.setIfInBounds_toArray, List.set_cons_zero, List.set_cons_succ]
                    refine wpAnyH_take (i := 8) (oi := { dst := some 81, op := Op.move (Operand.tmp 0), type := 24, pos := "law.go:86", after := #[{ on := 7, ground := Ground.guard }], guard := some (7, true) }) (v := ?_) rfl (by kernel_rfl) (by kernel_rfl) (by kernel_rfl) (fun _ _ _ h => h) (Or.inl ⟨by rfl, ?_⟩) (by assumption) ?_
                    rotate_left
                    · intro w hSw; (try dsimp only at hSw); go_simp; (try with_reducible rfl)
                    try simp only [Act.put, List.setIfInBounds_toArray, List.set_cons_zero, List.set_cons_succ]
                    refine wpAnyH_take (i := 9) (oi := { dst := some 82, op := Op.move (Operand.tmp 9), type := 3, pos := "law.go:86", after := #[{ on := 7, ground := Ground.guard }], guard := some (7, true) }) (v := ?_) rfl (by kernel_rfl) (by kernel_rfl) (by kernel_rfl) (fun _ _ _ h => h) (Or.inl ⟨by rfl, ?_⟩) (by assumption) ?_
                    rotate_left
                    · intro w hSw; (try dsimp only at hSw); go_simp; (try with_reducible rfl)
                    try simp only [Act.put, List.setIfInBounds_toArray, List.set_cons_zero, List.set_cons_succ]
                    refine wpAnyH_take (i := 10) (oi := { dst := some 83, op := Op.indexAddr 24 (Operand.tmp 81) (Operand.tmp 82), type := 0, pos := "law.go:86", after := #[{ on := 8, ground := Ground.data }, { on := 9, ground := Ground.data }, { on := 7, ground := Ground.guard }], guard := some (7, true) }) (v := ?_) rfl (by kernel_rfl) (by kernel_rfl) (by kernel_rfl) (fun _ _ _ h => h) (Or.inl ⟨by rfl, ?_⟩) (by assumption) ?_
                    rotate_left
                    · intro w hSw; (try dsimp only at hSw); go_simp; (try with_reducible rfl)
                    try simp only [Act.put, List.setIfInBounds_toArray, List.set_cons_zero, List.set_cons_succ]
                    refine wpAnyH_take (i := 11) (oi := { dst := some 84, op := Op.load 22 (Operand.tmp 83), type := 22, pos := "law.go:86", after := #[{ on := 10, ground := Ground.data }, { on := 7, ground := Ground.guard }], guard := some (7, true) }) (v := ?_) rfl (by kernel_rfl) (by kernel_rfl) (by kernel_rfl) (fun _ _ _ h => h) (Or.inl ⟨by rfl, ?_⟩) (by assumption) ?_
                    rotate_left
                    · intro w hSw; (try dsimp only at hSw); go_simp; (try with_reducible rfl)
                    try simp only [Act.put, List.setIfInBounds_toArray, List.set_cons_zero, List.set_cons_succ]
                    refine wpAnyH_take (i := 12) (oi := { dst := some 85, op := Op.move (Operand.tmp 10), type := 3, pos := "law.go:86", after := #[{ on := 7, ground := Ground.guard }], guard := some (7, true) }) (v := ?_) rfl (by kernel_rfl) (by kernel_rfl) (by kernel_rfl) (fun _ _ _ h => h) (Or.inl ⟨by rfl, ?_⟩) (by assumption) ?_
                    rotate_left
                    · intro w hSw; (try dsimp only at hSw); go_simp; (try with_reducible rfl)
                    try simp only [Act.put, List.setIfInBounds_toArray, List.set_cons_zero, List.set_cons_succ]
                    refine wpAnyH_take (i := 13) (oi := { dst := some 86, op := Op.indexAddr 22 (Operand.tmp 84) (Operand.tmp 85), type := 0, pos := "law.go:86", after := #[{ on := 11, ground := Ground.data }, { on := 12, ground := Ground.data }, { on := 7, ground := Ground.guard }], guard := some (7, true) }) (v := ?_) rfl (by kernel_rfl) (by kernel_rfl) (by kernel_rfl) (fun _ _ _ h => h) (Or.inl ⟨by rfl, ?_⟩) (by assumption) ?_
                    rotate_left
                    · intro w hSw; (try dsimp only at hSw); go_simp; (try with_reducible rfl)
                    try simp only [Act.put, List.setIfInBounds_toArray, List.set_cons_zero, List.set_cons_succ]
                    refine wpAnyH_take (i := 14) (oi := { dst := some 87, op := Op.load 9 (Operand.tmp 86), type := 9, pos := "law.go:86", after := #[{ on := 13, ground := Ground.data }, { on := 7, ground := Ground.guard }], guard := some (7, true) }) (v := ?_) rfl (by kernel_rfl) (by kernel_rfl) (by kernel_rfl) (fun _ _ _ h => h) (Or.inl ⟨by rfl, ?_⟩) (by assumption) ?_
                    rotate_left
                    · intro w hSw; (try dsimp only at hSw); go_simp; (try with_reducible rfl)
                    try simp only [Act.put, List.setIfInBounds_toArray, List.set_cons_zero, List.set_cons_succ]
                    refine wpAnyH_take (i := 15) (oi := { dst := some 88, op := Op.move (Operand.tmp 9), type := 3, pos := "law.go:86", after := #[{ on := 7, ground := Ground.guard }], guard := some (7, true) }) (v := ?_) rfl (by kernel_rfl) (by kernel_rfl) (by kernel_rfl) (fun _ _ _ h => h) (Or.inl ⟨by rfl, ?_⟩) (by assumption) ?_
                    rotate_left
                    · intro w hSw; (try dsimp only at hSw); go_simp; (try with_reducible rfl)
                    try simp only [Act.put, List.setIfInBounds_toArray, List.set_cons_zero, List.set_cons_succ]
                    refine wpAnyH_ready (rs := [16]) (by kernel_rfl) (by simp) ?_
                    refine AllReadyH.cons (o := { dst := some 89, op := Op.call { callee := Callee.value (Operand.func 18), args := #[Operand.tmp 88], argTypes := #[3] }, type := 9, pos := "law.go:86", after := #[{ on := 15, ground := Ground.data }, { on := 7, ground := Ground.chain }, { on := 7, ground := Ground.guard }], guard := some (7, true) }) rfl (fun K hK => ?_) AllReadyH.nil
                    go_simp
                    refine (unhide kM _).mono ?_
                    rintro x w5 ⟨rfl, hb5⟩
                    go_wp2_with fail
                    refine hK.out _ _ ?_ (fun hHeld0 => ?_)
                    · (try dsimp only); go_split_ands; exact keepA (by assumption) (by assumption) (by assumption) (by assumption) (by assumption) (by assumption) (by assumption) (by assumption) (by assumption) (by assumption)
                    clear hHeld hb5
                    clear hK K
                    try simp only [Act.put, List.setIfInBounds_toArray, List.set_cons_zero, List.set_cons_succ]
                    refine wpAnyH_take (i := 17) (oi := { dst := some 90, op := Op.binOp BinOp.neq 9 (Operand.tmp 87) (Operand.tmp 89) 9, type := 4, pos := "law.go:86", after := #[{ on := 14, ground := Ground.data }, { on := 16, ground := Ground.data }, { on := 7, ground := Ground.guard }], guard := some (7, true) }) (v := ?_) rfl (by kernel_rfl) (by kernel_rfl) (by kernel_rfl) (fun _ _ _ h => h) (Or.inl ⟨by rfl, ?_⟩) (by assumption) ?_
                    rotate_left
                    · intro w hSw; (try dsimp only at hSw); go_simp; (try with_reducible rfl)
                    try simp only [Act.put, List.setIfInBounds_toArray, List.set_cons_zero, List.set_cons_succ]
                    refine wpAnyH_take (i := 18) (oi := { dst := some 91, op := Op.move (Operand.tmp 90), type := 4, pos := "law.go:86", after := #[{ on := 17, ground := Ground.data }, { on := 16, ground := Ground.chain }, { on := 7, ground := Ground.guard }], guard := some (7, true) }) (v := ?_) rfl (by kernel_rfl) (by kernel_rfl) (by kernel_rfl) (fun _ _ _ h => h) (Or.inl ⟨by rfl, ?_⟩) (by assumption) ?_
                    rotate_left
                    · intro w hSw; (try dsimp only at hSw); go_simp; (try with_reducible rfl)
                    try simp only [Act.put, List.setIfInBounds_toArray, List.set_cons_zero, List.set_cons_succ]
                    refine wpAnyH_take (i := 19) (oi := { dst := some 92, op := Op.move (Operand.tmp 5), type := 24, pos := "law.go:86", after := #[{ on := 18, ground := Ground.guard }], guard := some (18, false) }) (v := ?_) rfl (by kernel_rfl) (by kernel_rfl) (by kernel_rfl) (fun _ _ _ h => h) (Or.inl ⟨by rfl, ?_⟩) (by assumption) ?_
                    rotate_left
                    · intro w hSw; (try dsimp only at hSw); go_simp; (try with_reducible rfl)
                    try simp only [Act.put, List.setIfInBounds_toArray, List.set_cons_zero, List.set_cons_succ]
                    refine wpAnyH_take (i := 20) (oi := { dst := some 93, op := Op.move (Operand.tmp 9), type := 3, pos := "law.go:86", after := #[{ on := 18, ground := Ground.guard }], guard := some (18, false) }) (v := ?_) rfl (by kernel_rfl) (by kernel_rfl) (by kernel_rfl) (fun _ _ _ h => h) (Or.inl ⟨by rfl, ?_⟩) (by assumption) ?_
                    rotate_left
                    · intro w hSw; (try dsimp only at hSw); go_simp; (try with_reducible rfl)
                    try simp only [Act.put, List.setIfInBounds_toArray, List.set_cons_zero, List.set_cons_succ]
                    refine wpAnyH_take (i := 21) (oi := { dst := some 94, op := Op.indexAddr 24 (Operand.tmp 92) (Operand.tmp 93), type := 0, pos := "law.go:86", after := #[{ on := 19, ground := Ground.data }, { on := 20, ground := Ground.data }, { on := 18, ground := Ground.guard }], guard := some (18, false) }) (v := ?_) rfl (by kernel_rfl) (by kernel_rfl) (by kernel_rfl) (fun _ _ _ h => h) (Or.inl ⟨by rfl, ?_⟩) (by assumption) ?_
                    rotate_left
                    · intro w hSw; (try dsimp only at hSw); go_simp; (try with_reducible rfl)
                    try simp only [Act.put, List.setIfInBounds_toArray, List.set_cons_zero, List.set_cons_succ]
                    refine wpAnyH_take (i := 22) (oi := { dst := some 95, op := Op.load 22 (Operand.tmp 94), type := 22, pos := "law.go:86", after := #[{ on := 21, ground := Ground.data }, { on := 18, ground := Ground.guard }], guard := some (18, false) }) (v := ?_) rfl (by kernel_rfl) (by kernel_rfl) (by kernel_rfl) (fun _ _ _ h => h) (Or.inl ⟨by rfl, ?_⟩) (by assumption) ?_
                    rotate_left
                    · intro w hSw; (try dsimp only at hSw); go_simp; (try with_reducible rfl)
                    try simp only [Act.put, List.setIfInBounds_toArray, List.set_cons_zero, List.set_cons_succ]
                    refine wpAnyH_take (i := 23) (oi := { dst := some 96, op := Op.move (Operand.tmp 10), type := 3, pos := "law.go:86", after := #[{ on := 18, ground := Ground.guard }], guard := some (18, false) }) (v := ?_) rfl (by kernel_rfl) (by kernel_rfl) (by kernel_rfl) (fun _ _ _ h => h) (Or.inl ⟨by rfl, ?_⟩) (by assumption) ?_
                    rotate_left
                    · intro w hSw; (try dsimp only at hSw); go_simp; (try with_reducible rfl)
                    try simp only [Act.put, List.setIfInBounds_toArray, List.set_cons_zero, List.set_cons_succ]
                    refine wpAnyH_take (i := 24) (oi := { dst := some 97, op := Op.indexAddr 22 (Operand.tmp 95) (Operand.tmp 96), type := 0, pos := "law.go:86", after := #[{ on := 22, ground := Ground.data }, { on := 23, ground := Ground.data }, { on := 18, ground := Ground.guard }], guard := some (18, false) }) (v := ?_) rfl (by kernel_rfl) (by kernel_rfl) (by kernel_rfl) (fun _ _ _ h => h) (Or.inl ⟨by rfl, ?_⟩) (by assumption) ?_
                    rotate_left
                    · intro w hSw; (try dsimp only at hSw); go_simp; (try with_reducible rfl)
                    try simp only [Act.put, List.setIfInBounds_toArray, List.set_cons_zero, List.set_cons_succ]
                    refine wpAnyH_take (i := 25) (oi := { dst := some 98, op := Op.load 9 (Operand.tmp 97), type := 9, pos := "law.go:86", after := #[{ on := 24, ground := Ground.data }, { on := 18, ground := Ground.guard }], guard := some (18, false) }) (v := ?_) rfl (by kernel_rfl) (by kernel_rfl) (by kernel_rfl) (fun _ _ _ h => h) (Or.inl ⟨by rfl, ?_⟩) (by assumption) ?_
                    rotate_left
                    · intro w hSw; (try dsimp only at hSw); go_simp; (try with_reducible rfl)
                    try simp only [Act.put, List.setIfInBounds_toArray, List.set_cons_zero, List.set_cons_succ]
                    refine wpAnyH_take (i := 26) (oi := { dst := some 99, op := Op.move (Operand.tmp 9), type := 3, pos := "law.go:86", after := #[{ on := 18, ground := Ground.guard }], guard := some (18, false) }) (v := ?_) rfl (by kernel_rfl) (by kernel_rfl) (by kernel_rfl) (fun _ _ _ h => h) (Or.inl ⟨by rfl, ?_⟩) (by assumption) ?_
                    rotate_left
                    · intro w hSw; (try dsimp only at hSw); go_simp; (try with_reducible rfl)
                    try simp only [Act.put, List.setIfInBounds_toArray, List.set_cons_zero, List.set_cons_succ]
                    refine wpAnyH_ready (rs := [27]) (by kernel_rfl) (by simp) ?_
                    refine AllReadyH.cons (o := { dst := some 100, op := Op.call { callee := Callee.value (Operand.func 18), args := #[Operand.tmp 99], argTypes := #[3] }, type := 9, pos := "law.go:86", after := #[{ on := 26, ground := Ground.data }, { on := 18, ground := Ground.chain }, { on := 18, ground := Ground.guard }], guard := some (18, false) }) rfl (fun K hK => ?_) AllReadyH.nil
                    go_simp
                    refine (unhide kM _).mono ?_
                    rintro x w6 ⟨rfl, hb6⟩
                    go_wp2_with fail
                    refine hK.out _ _ ?_ (fun hHeld1 => ?_)
                    · (try dsimp only); go_split_ands; exact keepA (by assumption) (by assumption) (by assumption) (by assumption) (by assumption) (by assumption) (by assumption) (by assumption) (by assumption) (by assumption)
                    clear hHeld0 hb6
                    clear hK K
                    try simp only [Act.put, List.setIfInBounds_toArray, List.set_cons_zero, List.set_cons_succ]
                    refine wpAnyH_take (i := 28) (oi := { dst := some 101, op := Op.binOp BinOp.neq 9 (Operand.tmp 98) (Operand.tmp 100) 9, type := 4, pos := "law.go:86", after := #[{ on := 25, ground := Ground.data }, { on := 27, ground := Ground.data }, { on := 18, ground := Ground.guard }], guard := some (18, false) }) (v := ?_) rfl (by kernel_rfl) (by kernel_rfl) (by kernel_rfl) (fun _ _ _ h => h) (Or.inl ⟨by rfl, ?_⟩) (by assumption) ?_
                    rotate_left
                    · intro w hSw; (try dsimp only at hSw); go_simp; (try with_reducible rfl)
                    try simp only [Act.put, List.setIfInBounds_toArray, List.set_cons_zero, List.set_cons_succ]
                    refine wpAnyH_take (i := 29) (oi := { dst := some 102, op := Op.pick (Operand.tmp 91) (Operand.const (Value.bool true)) (Operand.tmp 101), type := 4, pos := "law.go:86", after := #[{ on := 18, ground := Ground.data }, { on := 28, ground := Ground.data }, { on := 7, ground := Ground.guard }], guard := some (7, true) }) (v := ?_) rfl (by kernel_rfl) (by kernel_rfl) (by kernel_rfl) (fun _ _ _ h => h) (Or.inl ⟨by rfl, ?_⟩) (by assumption) ?_
                    rotate_left
                    · intro w hSw; (try dsimp only at hSw); go_simp; (try with_reducible rfl)
                    try simp only [Act.put, List.setIfInBounds_toArray, List.set_cons_zero, List.set_cons_succ]
                    refine wpAnyH_take (i := 30) (oi := { dst := some 103, op := Op.pick (Operand.tmp 80) (Operand.tmp 102) (Operand.const (Value.bool false)), type := 4, pos := "law.go:86", after := #[{ on := 7, ground := Ground.data }, { on := 29, ground := Ground.data }], guard := none }) (v := ?_) rfl (by kernel_rfl) (by kernel_rfl) (by kernel_rfl) (fun _ _ _ h => h) (Or.inl ⟨by rfl, ?_⟩) (by assumption) ?_
                    rotate_left
                    · intro w hSw; (try dsimp only at hSw); go_simp; (try with_reducible rfl)
                    try simp only [Act.put, List.setIfInBounds_toArray, List.set_cons_zero, List.set_cons_succ]
                    refine wpAnyH_take (i := 31) (oi := { dst := some 104, op := Op.move (Operand.tmp 103), type := 4, pos := "law.go:86", after := #[{ on := 30, ground := Ground.data }, { on := 27, ground := Ground.chain }], guard := none }) (v := ?_) rfl (by kernel_rfl) (by kernel_rfl) (by kernel_rfl) (fun _ _ _ h => h) (Or.inl ⟨by rfl, ?_⟩) (by assumption) ?_
                    rotate_left
                    · intro w hSw; (try dsimp only at hSw); go_simp; (try with_reducible rfl)
                    try simp only [Act.put, List.setIfInBounds_toArray, List.set_cons_zero, List.set_cons_succ]
                    refine wpAnyH_take (i := 32) (oi := { dst := some 105, op := Op.move (Operand.tmp 10), type := 3, pos := "law.go:86", after := #[{ on := 31, ground := Ground.guard }], guard := some (31, false) }) (v := ?_) rfl (by kernel_rfl) (by kernel_rfl) (by kernel_rfl) (fun _ _ _ h => h) (Or.inl ⟨by rfl, ?_⟩) (by assumption) ?_
                    rotate_left
                    · intro w hSw; (try dsimp only at hSw); go_simp; (try with_reducible rfl)
                    try simp only [Act.put, List.setIfInBounds_toArray, List.set_cons_zero, List.set_cons_succ]
                    refine wpAnyH_take (i := 33) (oi := { dst := some 106, op := Op.move (Operand.tmp 0), type := 24, pos := "law.go:86", after := #[{ on := 31, ground := Ground.guard }], guard := some (31, false) }) (v := ?_) rfl (by kernel_rfl) (by kernel_rfl) (by kernel_rfl) (fun _ _ _ h => h) (Or.inl ⟨by rfl, ?_⟩) (by assumption) ?_
                    rotate_left
                    · intro w hSw; (try dsimp only at hSw); go_simp; (try with_reducible rfl)
                    try simp only [Act.put, List.setIfInBounds_toArray, List.set_cons_zero, List.set_cons_succ]
                    refine wpAnyH_take (i := 34) (oi := { dst := some 107, op := Op.move (Operand.tmp 9), type := 3, pos := "law.go:86", after := #[{ on := 31, ground := Ground.guard }], guard := some (31, false) }) (v := ?_) rfl (by kernel_rfl) (by kernel_rfl) (by kernel_rfl) (fun _ _ _ h => h) (Or.inl ⟨by rfl, ?_⟩) (by assumption) ?_
                    rotate_left
                    · intro w hSw; (try dsimp only at hSw); go_simp; (try with_reducible rfl)
                    try simp only [Act.put, List.setIfInBounds_toArray, List.set_cons_zero, List.set_cons_succ]
                    refine wpAnyH_take (i := 35) (oi := { dst := some 108, op := Op.indexAddr 24 (Operand.tmp 106) (Operand.tmp 107), type := 0, pos := "law.go:86", after := #[{ on := 33, ground := Ground.data }, { on := 34, ground := Ground.data }, { on := 31, ground := Ground.guard }], guard := some (31, false) }) (v := ?_) rfl (by kernel_rfl) (by kernel_rfl) (by kernel_rfl) (fun _ _ _ h => h) (Or.inl ⟨by rfl, ?_⟩) (by assumption) ?_
                    rotate_left
                    · intro w hSw; (try dsimp only at hSw); go_simp; (try with_reducible rfl)
                    try simp only [Act.put, List.setIfInBounds_toArray, List.set_cons_zero, List.set_cons_succ]
                    refine wpAnyH_take (i := 36) (oi := { dst := some 109, op := Op.load 22 (Operand.tmp 108), type := 22, pos := "law.go:86", after := #[{ on := 35, ground := Ground.data }, { on := 31, ground := Ground.guard }], guard := some (31, false) }) (v := ?_) rfl (by kernel_rfl) (by kernel_rfl) (by kernel_rfl) (fun _ _ _ h => h) (Or.inl ⟨by rfl, ?_⟩) (by assumption) ?_
                    rotate_left
                    · intro w hSw; (try dsimp only at hSw); go_simp; (try with_reducible rfl)
                    try simp only [Act.put, List.setIfInBounds_toArray, List.set_cons_zero, List.set_cons_succ]
                    refine wpAnyH_take (i := 37) (oi := { dst := some 110, op := Op.call { callee := Callee.builtin Builtin.len, args := #[Operand.tmp 109], argTypes := #[22] }, type := 3, pos := "law.go:86", after := #[{ on := 36, ground := Ground.data }, { on := 31, ground := Ground.guard }], guard := some (31, false) }) (v := ?_) rfl (by kernel_rfl) (by kernel_rfl) (by kernel_rfl) (fun _ _ _ h => h) (Or.inl ⟨by rfl, ?_⟩) (by assumption) ?_
                    rotate_left
                    · intro w hSw; (try dsimp only at hSw); go_simp; (try with_reducible rfl)
                    try simp only [Act.put, List.setIfInBounds_toArray, List.set_cons_zero, List.set_cons_succ]
                    refine wpAnyH_take (i := 38) (oi := { dst := some 111, op := Op.binOp BinOp.geq 3 (Operand.tmp 105) (Operand.tmp 110) 3, type := 4, pos := "law.go:86", after := #[{ on := 32, ground := Ground.data }, { on := 37, ground := Ground.data }, { on := 31, ground := Ground.guard }], guard := some (31, false) }) (v := ?_) rfl (by kernel_rfl) (by kernel_rfl) (by kernel_rfl) (fun _ _ _ h => h) (Or.inl ⟨by rfl, ?_⟩) (by assumption) ?_
                    rotate_left
                    · intro w hSw; (try dsimp only at hSw); go_simp; (try with_reducible rfl)
                    try simp only [Act.put, List.setIfInBounds_toArray, List.set_cons_zero, List.set_cons_succ]
                    refine wpAnyH_take (i := 39) (oi := { dst := some 112, op := Op.move (Operand.tmp 111), type := 4, pos := "law.go:86", after := #[{ on := 38, ground := Ground.data }, { on := 31, ground := Ground.chain }, { on := 31, ground := Ground.guard }], guard := some (31, false) }) (v := ?_) rfl (by kernel_rfl) (by kernel_rfl) (by kernel_rfl) (fun _ _ _ h => h) (Or.inl ⟨by rfl, ?_⟩) (by assumption) ?_
                    rotate_left
                    · intro w hSw; (try dsimp only at hSw); go_simp; (try with_reducible rfl)
                    try simp only [Act.put, List.setIfInBounds_toArray, List.set_cons_zero, List.set_cons_succ]
                    refine wpAnyH_take (i := 40) (oi := { dst := some 113, op := Op.move (Operand.tmp 5), type := 24, pos := "law.go:86", after := #[{ on := 39, ground := Ground.guard }], guard := some (39, true) }) (v := undef) rfl (by kernel_rfl) (by kernel_rfl) (by kernel_rfl) (fun _ _ _ h => h) (Or.inr ⟨by rfl, rfl⟩) (by assumption) ?_
                    try simp only [Act.put, List.setIfInBounds_toArray, List.set_cons_zero, List.set_cons_succ]
                    refine wpAnyH_take (i := 41) (oi := { dst := some 114, op := Op.move (Operand.tmp 9), type := 3, pos := "law.go:86", after := #[{ on := 39, ground := Ground.guard }], guard := some (39, true) }) (v := undef) rfl (by kernel_rfl) (by kernel_rfl) (by kernel_rfl) (fun _ _ _ h => h) (Or.inr ⟨by rfl, rfl⟩) (by assumption) ?_
                    try simp only [Act.put, List.setIfInBounds_toArray, List.set_cons_zero, List.set_cons_succ]
                    refine wpAnyH_take (i := 42) (oi := { dst := some 115, op := Op.indexAddr 24 (Operand.tmp 113) (Operand.tmp 114), type := 0, pos := "law.go:86", after := #[{ on := 40, ground := Ground.data }, { on := 41, ground := Ground.data }, { on := 39, ground := Ground.guard }], guard := some (39, true) }) (v := undef) rfl (by kernel_rfl) (by kernel_rfl) (by kernel_rfl) (fun _ _ _ h => h) (Or.inr ⟨by rfl, rfl⟩) (by assumption) ?_
                    try simp only [Act.put, List.setIfInBounds_toArray, List.set_cons_zero, List.set_cons_succ]
                    refine wpAnyH_take (i := 43) (oi := { dst := some 116, op := Op.load 22 (Operand.tmp 115), type := 22, pos := "law.go:86", after := #[{ on := 42, ground := Ground.data }, { on := 39, ground := Ground.guard }], guard := some (39, true) }) (v := undef) rfl (by kernel_rfl) (by kernel_rfl) (by kernel_rfl) (fun _ _ _ h => h) (Or.inr ⟨by rfl, rfl⟩) (by assumption) ?_
                    try simp only [Act.put, List.setIfInBounds_toArray, List.set_cons_zero, List.set_cons_succ]
                    refine wpAnyH_take (i := 44) (oi := { dst := some 117, op := Op.move (Operand.tmp 10), type := 3, pos := "law.go:86", after := #[{ on := 39, ground := Ground.guard }], guard := some (39, true) }) (v := undef) rfl (by kernel_rfl) (by kernel_rfl) (by kernel_rfl) (fun _ _ _ h => h) (Or.inr ⟨by rfl, rfl⟩) (by assumption) ?_
                    try simp only [Act.put, List.setIfInBounds_toArray, List.set_cons_zero, List.set_cons_succ]
                    refine wpAnyH_take (i := 45) (oi := { dst := some 118, op := Op.indexAddr 22 (Operand.tmp 116) (Operand.tmp 117), type := 0, pos := "law.go:86", after := #[{ on := 43, ground := Ground.data }, { on := 44, ground := Ground.data }, { on := 39, ground := Ground.guard }], guard := some (39, true) }) (v := undef) rfl (by kernel_rfl) (by kernel_rfl) (by kernel_rfl) (fun _ _ _ h => h) (Or.inr ⟨by rfl, rfl⟩) (by assumption) ?_
                    try simp only [Act.put, List.setIfInBounds_toArray, List.set_cons_zero, List.set_cons_succ]
                    refine wpAnyH_take (i := 46) (oi := { dst := some 119, op := Op.load 9 (Operand.tmp 118), type := 9, pos := "law.go:86", after := #[{ on := 45, ground := Ground.data }, { on := 39, ground := Ground.guard }], guard := some (39, true) }) (v := undef) rfl (by kernel_rfl) (by kernel_rfl) (by kernel_rfl) (fun _ _ _ h => h) (Or.inr ⟨by rfl, rfl⟩) (by assumption) ?_
                    try simp only [Act.put, List.setIfInBounds_toArray, List.set_cons_zero, List.set_cons_succ]
                    refine wpAnyH_take (i := 47) (oi := { dst := some 120, op := Op.move (Operand.tmp 9), type := 3, pos := "law.go:86", after := #[{ on := 39, ground := Ground.guard }], guard := some (39, true) }) (v := undef) rfl (by kernel_rfl) (by kernel_rfl) (by kernel_rfl) (fun _ _ _ h => h) (Or.inr ⟨by rfl, rfl⟩) (by assumption) ?_
                    try simp only [Act.put, List.setIfInBounds_toArray, List.set_cons_zero, List.set_cons_succ]
                    refine wpAnyH_take (i := 48) (oi := { dst := some 121, op := Op.call { callee := Callee.value (Operand.func 18), args := #[Operand.tmp 120], argTypes := #[3] }, type := 9, pos := "law.go:86", after := #[{ on := 47, ground := Ground.data }, { on := 39, ground := Ground.chain }, { on := 39, ground := Ground.guard }], guard := some (39, true) }) (v := undef) rfl (by kernel_rfl) (by kernel_rfl) (by kernel_rfl) (fun _ _ _ h => h) (Or.inr ⟨by rfl, rfl⟩) (by assumption) ?_
                    try simp only [Act.put, List.setIfInBounds_toArray, List.set_cons_zero, List.set_cons_succ]
                    refine wpAnyH_take (i := 49) (oi := { dst := some 122, op := Op.binOp BinOp.add 9 (Operand.tmp 121) (Operand.const (Value.string { data := #[43] })) 9, type := 9, pos := "law.go:86", after := #[{ on := 48, ground := Ground.data }, { on := 39, ground := Ground.guard }], guard := some (39, true) }) (v := undef) rfl (by kernel_rfl) (by kernel_rfl) (by kernel_rfl) (fun _ _ _ h => h) (Or.inr ⟨by rfl, rfl⟩) (by assumption) ?_
                    try simp only [Act.put, List.setIfInBounds_toArray, List.set_cons_zero, List.set_cons_succ]
                    refine wpAnyH_take (i := 50) (oi := { dst := some 123, op := Op.binOp BinOp.neq 9 (Operand.tmp 119) (Operand.tmp 122) 9, type := 4, pos := "law.go:86", after := #[{ on := 46, ground := Ground.data }, { on := 49, ground := Ground.data }, { on := 39, ground := Ground.guard }], guard := some (39, true) }) (v := undef) rfl (by kernel_rfl) (by kernel_rfl) (by kernel_rfl) (fun _ _ _ h => h) (Or.inr ⟨by rfl, rfl⟩) (by assumption) ?_
                    try simp only [Act.put, List.setIfInBounds_toArray, List.set_cons_zero, List.set_cons_succ]
                    refine wpAnyH_take (i := 51) (oi := { dst := some 124, op := Op.pick (Operand.tmp 112) (Operand.tmp 123) (Operand.const (Value.bool false)), type := 4, pos := "law.go:86", after := #[{ on := 39, ground := Ground.data }, { on := 50, ground := Ground.data }, { on := 31, ground := Ground.guard }], guard := some (31, false) }) (v := ?_) rfl (by kernel_rfl) (by kernel_rfl) (by kernel_rfl) (fun _ _ _ h => h) (Or.inl ⟨by rfl, ?_⟩) (by assumption) ?_
                    rotate_left
                    · intro w hSw; (try dsimp only at hSw); go_simp; (try with_reducible rfl)
                    try simp only [Act.put, List.setIfInBounds_toArray, List.set_cons_zero, List.set_cons_succ]
                    refine wpAnyH_take (i := 52) (oi := { dst := some 125, op := Op.pick (Operand.tmp 104) (Operand.const (Value.bool true)) (Operand.tmp 124), type := 4, pos := "law.go:86", after := #[{ on := 31, ground := Ground.data }, { on := 51, ground := Ground.data }], guard := none }) (v := ?_) rfl (by kernel_rfl) (by kernel_rfl) (by kernel_rfl) (fun _ _ _ h => h) (Or.inl ⟨by rfl, ?_⟩) (by assumption) ?_
                    rotate_left
                    · intro w hSw; (try dsimp only at hSw); go_simp; (try with_reducible rfl)
                    try simp only [Act.put, List.setIfInBounds_toArray, List.set_cons_zero, List.set_cons_succ]
                    refine wpAnyH_done (by kernel_rfl) ?_ _
                    go_split_ands
                    have HB9 := hide (show Below wr.heap.size wr _ by assumption)
                    go_wp2_with fail
                    go_roundw
                    case rel => exact ⟨k + 1, by omega, by go_num, hide ⟨(unhide HQ).1.later (unhide HB9), (unhide HQ).2.trans ((unhide HB9).mono hbl)⟩⟩
                    case measure => simp [intOf]; omega
                  · obtain ⟨va, vc, hv⟩ : ∃ a c, vv i = .slice a (N i) c := by
                      rcases ((unhide HQ).1.pa.row i hlt).2 with ⟨h1, h2⟩ | ⟨g, cap, cur, h1, _⟩
                      · exact ⟨none, 0, by rw [h1, h2]⟩
                      · exact ⟨_, _, h1⟩
                    have ch : wr.cell? ⟨h i, k, none⟩ = some (.string (mk i ++ ⟨#[43]⟩)) := owns_cell ((unhide HQ).1.rows i hlt) k _ (by unfold GL plus; rw [List.getElem?_append_right (by simpa using hk3), List.getElem?_replicate, if_pos (by simp; omega)])
                    rw [hv] at cL
                    clear hv
                    have j4 : (0 : Int) ≤ (k : Int) := by omega
                    have j5 : (k : Int) < (N i : Int) + 64 := by omega
                    have j6 : (0 : Int) ≤ (i : Int) := by omega
                    go_wp2_with fail
                    have j1 : ¬ (k : Int) < (N i : Int) := by omega
                    have jm : ¬ 9223372036854775807 < (mk i).size + 1 := by show ¬ 9223372036854775807 < 1 + 1; decide
                    have jm2 : (mk i).size = 1 := rfl
                    have j2 : (N i : Int) ≤ (k : Int) := by omega
                    have j3 : N i ≤ k := by omega
                    refine wp_region_held_drew (S := (fun w' => w'.cell? ⟨Lb, i, none⟩ = some (.slice va (N i) vc) ∧ w'.cell? ⟨G, i, none⟩ = some (.slice (some ⟨h i, 0, none⟩) (N i + 64) (hc i)) ∧ w'.cell? ⟨h i, k, none⟩ = some (.string (mk i ++ ⟨#[43]⟩)) ∧ Lb < w'.heap.size ∧ G < w'.heap.size ∧ h i < w'.heap.size ∧ Below wr.heap.size wr w')) (by kernel_rfl) ?_ (fun hHeld => ?_)
                    · (try dsimp only); exact keepB hBB cL cG ch gL gG gH (Below.refl _ _)
                    refine wpAnyH_take (i := 0) (oi := { dst := some 73, op := Op.move (Operand.tmp 10), type := 3, pos := "law.go:86", after := #[], guard := none }) (v := ?_) rfl (by kernel_rfl) (by kernel_rfl) (by kernel_rfl) (fun _ _ _ h => h) (Or.inl ⟨by rfl, ?_⟩) (by assumption) ?_
                    rotate_left
                    · intro w hSw; (try dsimp only at hSw); go_simp; (try with_reducible rfl)
                    try simp only [Act.put, List.setIfInBounds_toArray, List.set_cons_zero, List.set_cons_succ]
                    refine wpAnyH_take (i := 1) (oi := { dst := some 74, op := Op.move (Operand.tmp 0), type := 24, pos := "law.go:86", after := #[], guard := none }) (v := ?_) rfl (by kernel_rfl) (by kernel_rfl) (by kernel_rfl) (fun _ _ _ h => h) (Or.inl ⟨by rfl, ?_⟩) (by assumption) ?_
                    rotate_left
                    · intro w hSw; (try dsimp only at hSw); go_simp; (try with_reducible rfl)
                    try simp only [Act.put, List.setIfInBounds_toArray, List.set_cons_zero, List.set_cons_succ]
                    refine wpAnyH_take (i := 2) (oi := { dst := some 75, op := Op.move (Operand.tmp 9), type := 3, pos := "law.go:86", after := #[], guard := none }) (v := ?_) rfl (by kernel_rfl) (by kernel_rfl) (by kernel_rfl) (fun _ _ _ h => h) (Or.inl ⟨by rfl, ?_⟩) (by assumption) ?_
                    rotate_left
                    · intro w hSw; (try dsimp only at hSw); go_simp; (try with_reducible rfl)
                    try simp only [Act.put, List.setIfInBounds_toArray, List.set_cons_zero, List.set_cons_succ]
                    refine wpAnyH_take (i := 3) (oi := { dst := some 76, op := Op.indexAddr 24 (Operand.tmp 74) (Operand.tmp 75), type := 0, pos := "law.go:86", after := #[{ on := 1, ground := Ground.data }, { on := 2, ground := Ground.data }], guard := none }) (v := ?_) rfl (by kernel_rfl) (by kernel_rfl) (by kernel_rfl) (fun _ _ _ h => h) (Or.inl ⟨by rfl, ?_⟩) (by assumption) ?_
                    rotate_left
                    · intro w hSw; (try dsimp only at hSw); go_simp; (try with_reducible rfl)
                    try simp only [Act.put, List.setIfInBounds_toArray, List.set_cons_zero, List.set_cons_succ]
                    refine wpAnyH_take (i := 4) (oi := { dst := some 77, op := Op.load 22 (Operand.tmp 76), type := 22, pos := "law.go:86", after := #[{ on := 3, ground := Ground.data }], guard := none }) (v := ?_) rfl (by kernel_rfl) (by kernel_rfl) (by kernel_rfl) (fun _ _ _ h => h) (Or.inl ⟨by rfl, ?_⟩) (by assumption) ?_
                    rotate_left
                    · intro w hSw; (try dsimp only at hSw); go_simp; (try with_reducible rfl)
                    try simp only [Act.put, List.setIfInBounds_toArray, List.set_cons_zero, List.set_cons_succ]
                    refine wpAnyH_take (i := 5) (oi := { dst := some 78, op := Op.call { callee := Callee.builtin Builtin.len, args := #[Operand.tmp 77], argTypes := #[22] }, type := 3, pos := "law.go:86", after := #[{ on := 4, ground := Ground.data }], guard := none }) (v := ?_) rfl (by kernel_rfl) (by kernel_rfl) (by kernel_rfl) (fun _ _ _ h => h) (Or.inl ⟨by rfl, ?_⟩) (by assumption) ?_
                    rotate_left
                    · intro w hSw; (try dsimp only at hSw); go_simp; (try with_reducible rfl)
                    try simp only [Act.put, List.setIfInBounds_toArray, List.set_cons_zero, List.set_cons_succ]
                    refine wpAnyH_take (i := 6) (oi := { dst := some 79, op := Op.binOp BinOp.lss 3 (Operand.tmp 73) (Operand.tmp 78) 3, type := 4, pos := "law.go:86", after := #[{ on := 0, ground := Ground.data }, { on := 5, ground := Ground.data }], guard := none }) (v := ?_) rfl (by kernel_rfl) (by kernel_rfl) (by kernel_rfl) (fun _ _ _ h => h) (Or.inl ⟨by rfl, ?_⟩) (by assumption) ?_
                    rotate_left
                    · intro w hSw; (try dsimp only at hSw); go_simp; (try with_reducible rfl)
                    try simp only [Act.put, List.setIfInBounds_toArray, List.set_cons_zero, List.set_cons_succ]
                    refine wpAnyH_take (i := 7) (oi := { dst := some 80, op := Op.move (Operand.tmp 79), type := 4, pos := "law.go:86", after := #[{ on := 6, ground := Ground.data }], guard := none }) (v := ?_) rfl (by kernel_rfl) (by kernel_rfl) (by kernel_rfl) (fun _ _ _ h => h) (Or.inl ⟨by rfl, ?_⟩) (by assumption) ?_
                    rotate_left
                    · intro w hSw; (try dsimp only at hSw); go_simp; (try with_reducible rfl)
                    try simp only [Act.put, List.setIfInBounds_toArray, List.set_cons_zero, List.set_cons_succ]
                    refine wpAnyH_take (i := 8) (oi := { dst := some 81, op := Op.move (Operand.tmp 0), type := 24, pos := "law.go:86", after := #[{ on := 7, ground := Ground.guard }], guard := some (7, true) }) (v := undef) rfl (by kernel_rfl) (by kernel_rfl) (by kernel_rfl) (fun _ _ _ h => h) (Or.inr ⟨by rfl, rfl⟩) (by assumption) ?_
                    try simp only [Act.put, List.setIfInBounds_toArray, List.set_cons_zero, List.set_cons_succ]
                    refine wpAnyH_take (i := 9) (oi := { dst := some 82, op := Op.move (Operand.tmp 9), type := 3, pos := "law.go:86", after := #[{ on := 7, ground := Ground.guard }], guard := some (7, true) }) (v := undef) rfl (by kernel_rfl) (by kernel_rfl) (by kernel_rfl) (fun _ _ _ h => h) (Or.inr ⟨by rfl, rfl⟩) (by assumption) ?_
                    try simp only [Act.put, List.setIfInBounds_toArray, List.set_cons_zero, List.set_cons_succ]
                    refine wpAnyH_take (i := 10) (oi := { dst := some 83, op := Op.indexAddr 24 (Operand.tmp 81) (Operand.tmp 82), type := 0, pos := "law.go:86", after := #[{ on := 8, ground := Ground.data }, { on := 9, ground := Ground.data }, { on := 7, ground := Ground.guard }], guard := some (7, true) }) (v := undef) rfl (by kernel_rfl) (by kernel_rfl) (by kernel_rfl) (fun _ _ _ h => h) (Or.inr ⟨by rfl, rfl⟩) (by assumption) ?_
                    try simp only [Act.put, List.setIfInBounds_toArray, List.set_cons_zero, List.set_cons_succ]
                    refine wpAnyH_take (i := 11) (oi := { dst := some 84, op := Op.load 22 (Operand.tmp 83), type := 22, pos := "law.go:86", after := #[{ on := 10, ground := Ground.data }, { on := 7, ground := Ground.guard }], guard := some (7, true) }) (v := undef) rfl (by kernel_rfl) (by kernel_rfl) (by kernel_rfl) (fun _ _ _ h => h) (Or.inr ⟨by rfl, rfl⟩) (by assumption) ?_
                    try simp only [Act.put, List.setIfInBounds_toArray, List.set_cons_zero, List.set_cons_succ]
                    refine wpAnyH_take (i := 12) (oi := { dst := some 85, op := Op.move (Operand.tmp 10), type := 3, pos := "law.go:86", after := #[{ on := 7, ground := Ground.guard }], guard := some (7, true) }) (v := undef) rfl (by kernel_rfl) (by kernel_rfl) (by kernel_rfl) (fun _ _ _ h => h) (Or.inr ⟨by rfl, rfl⟩) (by assumption) ?_
                    try simp only [Act.put, List.setIfInBounds_toArray, List.set_cons_zero, List.set_cons_succ]
                    refine wpAnyH_take (i := 13) (oi := { dst := some 86, op := Op.indexAddr 22 (Operand.tmp 84) (Operand.tmp 85), type := 0, pos := "law.go:86", after := #[{ on := 11, ground := Ground.data }, { on := 12, ground := Ground.data }, { on := 7, ground := Ground.guard }], guard := some (7, true) }) (v := undef) rfl (by kernel_rfl) (by kernel_rfl) (by kernel_rfl) (fun _ _ _ h => h) (Or.inr ⟨by rfl, rfl⟩) (by assumption) ?_
                    try simp only [Act.put, List.setIfInBounds_toArray, List.set_cons_zero, List.set_cons_succ]
                    refine wpAnyH_take (i := 14) (oi := { dst := some 87, op := Op.load 9 (Operand.tmp 86), type := 9, pos := "law.go:86", after := #[{ on := 13, ground := Ground.data }, { on := 7, ground := Ground.guard }], guard := some (7, true) }) (v := undef) rfl (by kernel_rfl) (by kernel_rfl) (by kernel_rfl) (fun _ _ _ h => h) (Or.inr ⟨by rfl, rfl⟩) (by assumption) ?_
                    try simp only [Act.put, List.setIfInBounds_toArray, List.set_cons_zero, List.set_cons_succ]
                    refine wpAnyH_take (i := 15) (oi := { dst := some 88, op := Op.move (Operand.tmp 9), type := 3, pos := "law.go:86", after := #[{ on := 7, ground := Ground.guard }], guard := some (7, true) }) (v := undef) rfl (by kernel_rfl) (by kernel_rfl) (by kernel_rfl) (fun _ _ _ h => h) (Or.inr ⟨by rfl, rfl⟩) (by assumption) ?_
                    try simp only [Act.put, List.setIfInBounds_toArray, List.set_cons_zero, List.set_cons_succ]
                    refine wpAnyH_take (i := 16) (oi := { dst := some 89, op := Op.call { callee := Callee.value (Operand.func 18), args := #[Operand.tmp 88], argTypes := #[3] }, type := 9, pos := "law.go:86", after := #[{ on := 15, ground := Ground.data }, { on := 7, ground := Ground.chain }, { on := 7, ground := Ground.guard }], guard := some (7, true) }) (v := undef) rfl (by kernel_rfl) (by kernel_rfl) (by kernel_rfl) (fun _ _ _ h => h) (Or.inr ⟨by rfl, rfl⟩) (by assumption) ?_
                    try simp only [Act.put, List.setIfInBounds_toArray, List.set_cons_zero, List.set_cons_succ]
                    refine wpAnyH_take (i := 17) (oi := { dst := some 90, op := Op.binOp BinOp.neq 9 (Operand.tmp 87) (Operand.tmp 89) 9, type := 4, pos := "law.go:86", after := #[{ on := 14, ground := Ground.data }, { on := 16, ground := Ground.data }, { on := 7, ground := Ground.guard }], guard := some (7, true) }) (v := undef) rfl (by kernel_rfl) (by kernel_rfl) (by kernel_rfl) (fun _ _ _ h => h) (Or.inr ⟨by rfl, rfl⟩) (by assumption) ?_
                    try simp only [Act.put, List.setIfInBounds_toArray, List.set_cons_zero, List.set_cons_succ]
                    refine wpAnyH_take (i := 18) (oi := { dst := some 91, op := Op.move (Operand.tmp 90), type := 4, pos := "law.go:86", after := #[{ on := 17, ground := Ground.data }, { on := 16, ground := Ground.chain }, { on := 7, ground := Ground.guard }], guard := some (7, true) }) (v := undef) rfl (by kernel_rfl) (by kernel_rfl) (by kernel_rfl) (fun _ _ _ h => h) (Or.inr ⟨by rfl, rfl⟩) (by assumption) ?_
                    try simp only [Act.put, List.setIfInBounds_toArray, List.set_cons_zero, List.set_cons_succ]
                    refine wpAnyH_take (i := 19) (oi := { dst := some 92, op := Op.move (Operand.tmp 5), type := 24, pos := "law.go:86", after := #[{ on := 18, ground := Ground.guard }], guard := some (18, false) }) (v := undef) rfl (by kernel_rfl) (by kernel_rfl) (by kernel_rfl) (fun _ _ _ h => h) (Or.inr ⟨by rfl, rfl⟩) (by assumption) ?_
                    try simp only [Act.put, List.setIfInBounds_toArray, List.set_cons_zero, List.set_cons_succ]
                    refine wpAnyH_take (i := 20) (oi := { dst := some 93, op := Op.move (Operand.tmp 9), type := 3, pos := "law.go:86", after := #[{ on := 18, ground := Ground.guard }], guard := some (18, false) }) (v := undef) rfl (by kernel_rfl) (by kernel_rfl) (by kernel_rfl) (fun _ _ _ h => h) (Or.inr ⟨by rfl, rfl⟩) (by assumption) ?_
                    try simp only [Act.put, List.setIfInBounds_toArray, List.set_cons_zero, List.set_cons_succ]
                    refine wpAnyH_take (i := 21) (oi := { dst := some 94, op := Op.indexAddr 24 (Operand.tmp 92) (Operand.tmp 93), type := 0, pos := "law.go:86", after := #[{ on := 19, ground := Ground.data }, { on := 20, ground := Ground.data }, { on := 18, ground := Ground.guard }], guard := some (18, false) }) (v := undef) rfl (by kernel_rfl) (by kernel_rfl) (by kernel_rfl) (fun _ _ _ h => h) (Or.inr ⟨by rfl, rfl⟩) (by assumption) ?_
                    try simp only [Act.put, List.setIfInBounds_toArray, List.set_cons_zero, List.set_cons_succ]
                    refine wpAnyH_take (i := 22) (oi := { dst := some 95, op := Op.load 22 (Operand.tmp 94), type := 22, pos := "law.go:86", after := #[{ on := 21, ground := Ground.data }, { on := 18, ground := Ground.guard }], guard := some (18, false) }) (v := undef) rfl (by kernel_rfl) (by kernel_rfl) (by kernel_rfl) (fun _ _ _ h => h) (Or.inr ⟨by rfl, rfl⟩) (by assumption) ?_
                    try simp only [Act.put, List.setIfInBounds_toArray, List.set_cons_zero, List.set_cons_succ]
                    refine wpAnyH_take (i := 23) (oi := { dst := some 96, op := Op.move (Operand.tmp 10), type := 3, pos := "law.go:86", after := #[{ on := 18, ground := Ground.guard }], guard := some (18, false) }) (v := undef) rfl (by kernel_rfl) (by kernel_rfl) (by kernel_rfl) (fun _ _ _ h => h) (Or.inr ⟨by rfl, rfl⟩) (by assumption) ?_
                    try simp only [Act.put, List.setIfInBounds_toArray, List.set_cons_zero, List.set_cons_succ]
                    refine wpAnyH_take (i := 24) (oi := { dst := some 97, op := Op.indexAddr 22 (Operand.tmp 95) (Operand.tmp 96), type := 0, pos := "law.go:86", after := #[{ on := 22, ground := Ground.data }, { on := 23, ground := Ground.data }, { on := 18, ground := Ground.guard }], guard := some (18, false) }) (v := undef) rfl (by kernel_rfl) (by kernel_rfl) (by kernel_rfl) (fun _ _ _ h => h) (Or.inr ⟨by rfl, rfl⟩) (by assumption) ?_
                    try simp only [Act.put, List.setIfInBounds_toArray, List.set_cons_zero, List.set_cons_succ]
                    refine wpAnyH_take (i := 25) (oi := { dst := some 98, op := Op.load 9 (Operand.tmp 97), type := 9, pos := "law.go:86", after := #[{ on := 24, ground := Ground.data }, { on := 18, ground := Ground.guard }], guard := some (18, false) }) (v := undef) rfl (by kernel_rfl) (by kernel_rfl) (by kernel_rfl) (fun _ _ _ h => h) (Or.inr ⟨by rfl, rfl⟩) (by assumption) ?_
                    try simp only [Act.put, List.setIfInBounds_toArray, List.set_cons_zero, List.set_cons_succ]
                    refine wpAnyH_take (i := 26) (oi := { dst := some 99, op := Op.move (Operand.tmp 9), type := 3, pos := "law.go:86", after := #[{ on := 18, ground := Ground.guard }], guard := some (18, false) }) (v := undef) rfl (by kernel_rfl) (by kernel_rfl) (by kernel_rfl) (fun _ _ _ h => h) (Or.inr ⟨by rfl, rfl⟩) (by assumption) ?_
                    try simp only [Act.put, List.setIfInBounds_toArray, List.set_cons_zero, List.set_cons_succ]
                    refine wpAnyH_take (i := 27) (oi := { dst := some 100, op := Op.call { callee := Callee.value (Operand.func 18), args := #[Operand.tmp 99], argTypes := #[3] }, type := 9, pos := "law.go:86", after := #[{ on := 26, ground := Ground.data }, { on := 18, ground := Ground.chain }, { on := 18, ground := Ground.guard }], guard := some (18, false) }) (v := undef) rfl (by kernel_rfl) (by kernel_rfl) (by kernel_rfl) (fun _ _ _ h => h) (Or.inr ⟨by rfl, rfl⟩) (by assumption) ?_
                    try simp only [Act.put, List.setIfInBounds_toArray, List.set_cons_zero, List.set_cons_succ]
                    refine wpAnyH_take (i := 28) (oi := { dst := some 101, op := Op.binOp BinOp.neq 9 (Operand.tmp 98) (Operand.tmp 100) 9, type := 4, pos := "law.go:86", after := #[{ on := 25, ground := Ground.data }, { on := 27, ground := Ground.data }, { on := 18, ground := Ground.guard }], guard := some (18, false) }) (v := undef) rfl (by kernel_rfl) (by kernel_rfl) (by kernel_rfl) (fun _ _ _ h => h) (Or.inr ⟨by rfl, rfl⟩) (by assumption) ?_
                    try simp only [Act.put, List.setIfInBounds_toArray, List.set_cons_zero, List.set_cons_succ]
                    refine wpAnyH_take (i := 29) (oi := { dst := some 102, op := Op.pick (Operand.tmp 91) (Operand.const (Value.bool true)) (Operand.tmp 101), type := 4, pos := "law.go:86", after := #[{ on := 18, ground := Ground.data }, { on := 28, ground := Ground.data }, { on := 7, ground := Ground.guard }], guard := some (7, true) }) (v := undef) rfl (by kernel_rfl) (by kernel_rfl) (by kernel_rfl) (fun _ _ _ h => h) (Or.inr ⟨by rfl, rfl⟩) (by assumption) ?_
                    try simp only [Act.put, List.setIfInBounds_toArray, List.set_cons_zero, List.set_cons_succ]
                    refine wpAnyH_take (i := 30) (oi := { dst := some 103, op := Op.pick (Operand.tmp 80) (Operand.tmp 102) (Operand.const (Value.bool false)), type := 4, pos := "law.go:86", after := #[{ on := 7, ground := Ground.data }, { on := 29, ground := Ground.data }], guard := none }) (v := ?_) rfl (by kernel_rfl) (by kernel_rfl) (by kernel_rfl) (fun _ _ _ h => h) (Or.inl ⟨by rfl, ?_⟩) (by assumption) ?_
                    rotate_left
                    · intro w hSw; (try dsimp only at hSw); go_simp; (try with_reducible rfl)
                    try simp only [Act.put, List.setIfInBounds_toArray, List.set_cons_zero, List.set_cons_succ]
                    refine wpAnyH_take (i := 31) (oi := { dst := some 104, op := Op.move (Operand.tmp 103), type := 4, pos := "law.go:86", after := #[{ on := 30, ground := Ground.data }, { on := 27, ground := Ground.chain }], guard := none }) (v := ?_) rfl (by kernel_rfl) (by kernel_rfl) (by kernel_rfl) (fun _ _ _ h => h) (Or.inl ⟨by rfl, ?_⟩) (by assumption) ?_
                    rotate_left
                    · intro w hSw; (try dsimp only at hSw); go_simp; (try with_reducible rfl)
                    try simp only [Act.put, List.setIfInBounds_toArray, List.set_cons_zero, List.set_cons_succ]
                    refine wpAnyH_take (i := 32) (oi := { dst := some 105, op := Op.move (Operand.tmp 10), type := 3, pos := "law.go:86", after := #[{ on := 31, ground := Ground.guard }], guard := some (31, false) }) (v := ?_) rfl (by kernel_rfl) (by kernel_rfl) (by kernel_rfl) (fun _ _ _ h => h) (Or.inl ⟨by rfl, ?_⟩) (by assumption) ?_
                    rotate_left
                    · intro w hSw; (try dsimp only at hSw); go_simp; (try with_reducible rfl)
                    try simp only [Act.put, List.setIfInBounds_toArray, List.set_cons_zero, List.set_cons_succ]
                    refine wpAnyH_take (i := 33) (oi := { dst := some 106, op := Op.move (Operand.tmp 0), type := 24, pos := "law.go:86", after := #[{ on := 31, ground := Ground.guard }], guard := some (31, false) }) (v := ?_) rfl (by kernel_rfl) (by kernel_rfl) (by kernel_rfl) (fun _ _ _ h => h) (Or.inl ⟨by rfl, ?_⟩) (by assumption) ?_
                    rotate_left
                    · intro w hSw; (try dsimp only at hSw); go_simp; (try with_reducible rfl)
                    try simp only [Act.put, List.setIfInBounds_toArray, List.set_cons_zero, List.set_cons_succ]
                    refine wpAnyH_take (i := 34) (oi := { dst := some 107, op := Op.move (Operand.tmp 9), type := 3, pos := "law.go:86", after := #[{ on := 31, ground := Ground.guard }], guard := some (31, false) }) (v := ?_) rfl (by kernel_rfl) (by kernel_rfl) (by kernel_rfl) (fun _ _ _ h => h) (Or.inl ⟨by rfl, ?_⟩) (by assumption) ?_
                    rotate_left
                    · intro w hSw; (try dsimp only at hSw); go_simp; (try with_reducible rfl)
                    try simp only [Act.put, List.setIfInBounds_toArray, List.set_cons_zero, List.set_cons_succ]
                    refine wpAnyH_take (i := 35) (oi := { dst := some 108, op := Op.indexAddr 24 (Operand.tmp 106) (Operand.tmp 107), type := 0, pos := "law.go:86", after := #[{ on := 33, ground := Ground.data }, { on := 34, ground := Ground.data }, { on := 31, ground := Ground.guard }], guard := some (31, false) }) (v := ?_) rfl (by kernel_rfl) (by kernel_rfl) (by kernel_rfl) (fun _ _ _ h => h) (Or.inl ⟨by rfl, ?_⟩) (by assumption) ?_
                    rotate_left
                    · intro w hSw; (try dsimp only at hSw); go_simp; (try with_reducible rfl)
                    try simp only [Act.put, List.setIfInBounds_toArray, List.set_cons_zero, List.set_cons_succ]
                    refine wpAnyH_take (i := 36) (oi := { dst := some 109, op := Op.load 22 (Operand.tmp 108), type := 22, pos := "law.go:86", after := #[{ on := 35, ground := Ground.data }, { on := 31, ground := Ground.guard }], guard := some (31, false) }) (v := ?_) rfl (by kernel_rfl) (by kernel_rfl) (by kernel_rfl) (fun _ _ _ h => h) (Or.inl ⟨by rfl, ?_⟩) (by assumption) ?_
                    rotate_left
                    · intro w hSw; (try dsimp only at hSw); go_simp; (try with_reducible rfl)
                    try simp only [Act.put, List.setIfInBounds_toArray, List.set_cons_zero, List.set_cons_succ]
                    refine wpAnyH_take (i := 37) (oi := { dst := some 110, op := Op.call { callee := Callee.builtin Builtin.len, args := #[Operand.tmp 109], argTypes := #[22] }, type := 3, pos := "law.go:86", after := #[{ on := 36, ground := Ground.data }, { on := 31, ground := Ground.guard }], guard := some (31, false) }) (v := ?_) rfl (by kernel_rfl) (by kernel_rfl) (by kernel_rfl) (fun _ _ _ h => h) (Or.inl ⟨by rfl, ?_⟩) (by assumption) ?_
                    rotate_left
                    · intro w hSw; (try dsimp only at hSw); go_simp; (try with_reducible rfl)
                    try simp only [Act.put, List.setIfInBounds_toArray, List.set_cons_zero, List.set_cons_succ]
                    refine wpAnyH_take (i := 38) (oi := { dst := some 111, op := Op.binOp BinOp.geq 3 (Operand.tmp 105) (Operand.tmp 110) 3, type := 4, pos := "law.go:86", after := #[{ on := 32, ground := Ground.data }, { on := 37, ground := Ground.data }, { on := 31, ground := Ground.guard }], guard := some (31, false) }) (v := ?_) rfl (by kernel_rfl) (by kernel_rfl) (by kernel_rfl) (fun _ _ _ h => h) (Or.inl ⟨by rfl, ?_⟩) (by assumption) ?_
                    rotate_left
                    · intro w hSw; (try dsimp only at hSw); go_simp; (try with_reducible rfl)
                    try simp only [Act.put, List.setIfInBounds_toArray, List.set_cons_zero, List.set_cons_succ]
                    refine wpAnyH_take (i := 39) (oi := { dst := some 112, op := Op.move (Operand.tmp 111), type := 4, pos := "law.go:86", after := #[{ on := 38, ground := Ground.data }, { on := 31, ground := Ground.chain }, { on := 31, ground := Ground.guard }], guard := some (31, false) }) (v := ?_) rfl (by kernel_rfl) (by kernel_rfl) (by kernel_rfl) (fun _ _ _ h => h) (Or.inl ⟨by rfl, ?_⟩) (by assumption) ?_
                    rotate_left
                    · intro w hSw; (try dsimp only at hSw); go_simp; (try with_reducible rfl)
                    try simp only [Act.put, List.setIfInBounds_toArray, List.set_cons_zero, List.set_cons_succ]
                    refine wpAnyH_take (i := 40) (oi := { dst := some 113, op := Op.move (Operand.tmp 5), type := 24, pos := "law.go:86", after := #[{ on := 39, ground := Ground.guard }], guard := some (39, true) }) (v := ?_) rfl (by kernel_rfl) (by kernel_rfl) (by kernel_rfl) (fun _ _ _ h => h) (Or.inl ⟨by rfl, ?_⟩) (by assumption) ?_
                    rotate_left
                    · intro w hSw; (try dsimp only at hSw); go_simp; (try with_reducible rfl)
                    try simp only [Act.put, List.setIfInBounds_toArray, List.set_cons_zero, List.set_cons_succ]
                    refine wpAnyH_take (i := 41) (oi := { dst := some 114, op := Op.move (Operand.tmp 9), type := 3, pos := "law.go:86", after := #[{ on := 39, ground := Ground.guard }], guard := some (39, true) }) (v := ?_) rfl (by kernel_rfl) (by kernel_rfl) (by kernel_rfl) (fun _ _ _ h => h) (Or.inl ⟨by rfl, ?_⟩) (by assumption) ?_
                    rotate_left
                    · intro w hSw; (try dsimp only at hSw); go_simp; (try with_reducible rfl)
                    try simp only [Act.put, List.setIfInBounds_toArray, List.set_cons_zero, List.set_cons_succ]
                    refine wpAnyH_take (i := 42) (oi := { dst := some 115, op := Op.indexAddr 24 (Operand.tmp 113) (Operand.tmp 114), type := 0, pos := "law.go:86", after := #[{ on := 40, ground := Ground.data }, { on := 41, ground := Ground.data }, { on := 39, ground := Ground.guard }], guard := some (39, true) }) (v := ?_) rfl (by kernel_rfl) (by kernel_rfl) (by kernel_rfl) (fun _ _ _ h => h) (Or.inl ⟨by rfl, ?_⟩) (by assumption) ?_
                    rotate_left
                    · intro w hSw; (try dsimp only at hSw); go_simp; (try with_reducible rfl)
                    try simp only [Act.put, List.setIfInBounds_toArray, List.set_cons_zero, List.set_cons_succ]
                    refine wpAnyH_take (i := 43) (oi := { dst := some 116, op := Op.load 22 (Operand.tmp 115), type := 22, pos := "law.go:86", after := #[{ on := 42, ground := Ground.data }, { on := 39, ground := Ground.guard }], guard := some (39, true) }) (v := ?_) rfl (by kernel_rfl) (by kernel_rfl) (by kernel_rfl) (fun _ _ _ h => h) (Or.inl ⟨by rfl, ?_⟩) (by assumption) ?_
                    rotate_left
                    · intro w hSw; (try dsimp only at hSw); go_simp; (try with_reducible rfl)
                    try simp only [Act.put, List.setIfInBounds_toArray, List.set_cons_zero, List.set_cons_succ]
                    refine wpAnyH_take (i := 44) (oi := { dst := some 117, op := Op.move (Operand.tmp 10), type := 3, pos := "law.go:86", after := #[{ on := 39, ground := Ground.guard }], guard := some (39, true) }) (v := ?_) rfl (by kernel_rfl) (by kernel_rfl) (by kernel_rfl) (fun _ _ _ h => h) (Or.inl ⟨by rfl, ?_⟩) (by assumption) ?_
                    rotate_left
                    · intro w hSw; (try dsimp only at hSw); go_simp; (try with_reducible rfl)
                    try simp only [Act.put, List.setIfInBounds_toArray, List.set_cons_zero, List.set_cons_succ]
                    refine wpAnyH_take (i := 45) (oi := { dst := some 118, op := Op.indexAddr 22 (Operand.tmp 116) (Operand.tmp 117), type := 0, pos := "law.go:86", after := #[{ on := 43, ground := Ground.data }, { on := 44, ground := Ground.data }, { on := 39, ground := Ground.guard }], guard := some (39, true) }) (v := ?_) rfl (by kernel_rfl) (by kernel_rfl) (by kernel_rfl) (fun _ _ _ h => h) (Or.inl ⟨by rfl, ?_⟩) (by assumption) ?_
                    rotate_left
                    · intro w hSw; (try dsimp only at hSw); go_simp; (try with_reducible rfl)
                    try simp only [Act.put, List.setIfInBounds_toArray, List.set_cons_zero, List.set_cons_succ]
                    refine wpAnyH_take (i := 46) (oi := { dst := some 119, op := Op.load 9 (Operand.tmp 118), type := 9, pos := "law.go:86", after := #[{ on := 45, ground := Ground.data }, { on := 39, ground := Ground.guard }], guard := some (39, true) }) (v := ?_) rfl (by kernel_rfl) (by kernel_rfl) (by kernel_rfl) (fun _ _ _ h => h) (Or.inl ⟨by rfl, ?_⟩) (by assumption) ?_
                    rotate_left
                    · intro w hSw; (try dsimp only at hSw); go_simp; (try with_reducible rfl)
                    try simp only [Act.put, List.setIfInBounds_toArray, List.set_cons_zero, List.set_cons_succ]
                    refine wpAnyH_take (i := 47) (oi := { dst := some 120, op := Op.move (Operand.tmp 9), type := 3, pos := "law.go:86", after := #[{ on := 39, ground := Ground.guard }], guard := some (39, true) }) (v := ?_) rfl (by kernel_rfl) (by kernel_rfl) (by kernel_rfl) (fun _ _ _ h => h) (Or.inl ⟨by rfl, ?_⟩) (by assumption) ?_
                    rotate_left
                    · intro w hSw; (try dsimp only at hSw); go_simp; (try with_reducible rfl)
                    try simp only [Act.put, List.setIfInBounds_toArray, List.set_cons_zero, List.set_cons_succ]
                    refine wpAnyH_ready (rs := [48]) (by kernel_rfl) (by simp) ?_
                    refine AllReadyH.cons (o := { dst := some 121, op := Op.call { callee := Callee.value (Operand.func 18), args := #[Operand.tmp 120], argTypes := #[3] }, type := 9, pos := "law.go:86", after := #[{ on := 47, ground := Ground.data }, { on := 39, ground := Ground.chain }, { on := 39, ground := Ground.guard }], guard := some (39, true) }) rfl (fun K hK => ?_) AllReadyH.nil
                    go_simp
                    refine (unhide kM _).mono ?_
                    rintro x w5 ⟨rfl, hb5⟩
                    go_wp2_with fail
                    refine hK.out _ _ ?_ (fun hHeld0 => ?_)
                    · (try dsimp only); go_split_ands; exact keepB (by assumption) (by assumption) (by assumption) (by assumption) (by assumption) (by assumption) (by assumption) (by assumption)
                    clear hHeld hb5
                    clear hK K
                    try simp only [Act.put, List.setIfInBounds_toArray, List.set_cons_zero, List.set_cons_succ]
                    refine wpAnyH_take (i := 49) (oi := { dst := some 122, op := Op.binOp BinOp.add 9 (Operand.tmp 121) (Operand.const (Value.string { data := #[43] })) 9, type := 9, pos := "law.go:86", after := #[{ on := 48, ground := Ground.data }, { on := 39, ground := Ground.guard }], guard := some (39, true) }) (v := ?_) rfl (by kernel_rfl) (by kernel_rfl) (by kernel_rfl) (fun _ _ _ h => h) (Or.inl ⟨by rfl, ?_⟩) (by assumption) ?_
                    rotate_left
                    · intro w hSw; (try dsimp only at hSw); go_simp; (try with_reducible rfl)
                    try simp only [Act.put, List.setIfInBounds_toArray, List.set_cons_zero, List.set_cons_succ]
                    refine wpAnyH_take (i := 50) (oi := { dst := some 123, op := Op.binOp BinOp.neq 9 (Operand.tmp 119) (Operand.tmp 122) 9, type := 4, pos := "law.go:86", after := #[{ on := 46, ground := Ground.data }, { on := 49, ground := Ground.data }, { on := 39, ground := Ground.guard }], guard := some (39, true) }) (v := ?_) rfl (by kernel_rfl) (by kernel_rfl) (by kernel_rfl) (fun _ _ _ h => h) (Or.inl ⟨by rfl, ?_⟩) (by assumption) ?_
                    rotate_left
                    · intro w hSw; (try dsimp only at hSw); go_simp; (try with_reducible rfl)
                    try simp only [Act.put, List.setIfInBounds_toArray, List.set_cons_zero, List.set_cons_succ]
                    refine wpAnyH_take (i := 51) (oi := { dst := some 124, op := Op.pick (Operand.tmp 112) (Operand.tmp 123) (Operand.const (Value.bool false)), type := 4, pos := "law.go:86", after := #[{ on := 39, ground := Ground.data }, { on := 50, ground := Ground.data }, { on := 31, ground := Ground.guard }], guard := some (31, false) }) (v := ?_) rfl (by kernel_rfl) (by kernel_rfl) (by kernel_rfl) (fun _ _ _ h => h) (Or.inl ⟨by rfl, ?_⟩) (by assumption) ?_
                    rotate_left
                    · intro w hSw; (try dsimp only at hSw); go_simp; (try with_reducible rfl)
                    try simp only [Act.put, List.setIfInBounds_toArray, List.set_cons_zero, List.set_cons_succ]
                    refine wpAnyH_take (i := 52) (oi := { dst := some 125, op := Op.pick (Operand.tmp 104) (Operand.const (Value.bool true)) (Operand.tmp 124), type := 4, pos := "law.go:86", after := #[{ on := 31, ground := Ground.data }, { on := 51, ground := Ground.data }], guard := none }) (v := ?_) rfl (by kernel_rfl) (by kernel_rfl) (by kernel_rfl) (fun _ _ _ h => h) (Or.inl ⟨by rfl, ?_⟩) (by assumption) ?_
                    rotate_left
                    · intro w hSw; (try dsimp only at hSw); go_simp; (try with_reducible rfl)
                    try simp only [Act.put, List.setIfInBounds_toArray, List.set_cons_zero, List.set_cons_succ]
                    refine wpAnyH_done (by kernel_rfl) ?_ _
                    go_split_ands
                    have HB9 := hide (show Below wr.heap.size wr _ by assumption)
                    go_wp2_with fail
                    go_roundw
                    case rel => exact ⟨k + 1, by omega, by go_num, hide ⟨(unhide HQ).1.later (unhide HB9), (unhide HQ).2.trans ((unhide HB9).mono hbl)⟩⟩
                    case measure => simp [intOf]; omega
                · go_wp2_with fail
                  go_roundw
                  case rel => exact ⟨i + 1, by omega, by go_num, HQ⟩
                  case measure => simp [intOf]; omega
            · go_wp2_with fail
              go_ret
              exact ⟨rfl, (unhide HQ).2⟩

end Go.Proofs.Ytfnbclehlikbkaa
