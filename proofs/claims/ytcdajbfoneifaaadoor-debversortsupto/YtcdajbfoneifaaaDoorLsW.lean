import Derived.Test.YtcdajbfoneifaaaDoorLsU
namespace Go.Proofs.YtcdajbfoneifaaaDoor
open Go.RowKit

set_option maxRecDepth 100000 in
set_option maxHeartbeats 8000000 in
theorem sorts_walk (l : List ByteArray) (pa : Option Addr) (lc n : Nat) (w : World) (hn : n = l.length) (hl : n ≤ 1048576) (hz : ∀ k, k < n → (l.getD k nob).size ≤ maxLen) (hL : Ls w pa l) :
    Calls Tryd.prog 4 #[.slice pa n lc] w fun e w' => e = .returned (.bool true) ∧ Below w.heap.size w w' := by
  obtain ⟨i0, hi0, hz0, hz1, hz2⟩ := info_parts infoStr
  have hsrc := hL.src
  rw [← hn] at hsrc
  obtain ⟨v1, W1, F, cap, W2, r1, r2, ho, hb2⟩ := app2 (P := Tryd.prog) 22 22 9 i0 (.string ⟨#[]⟩) 1 16 Tryd.underlying22 hi0 hz0 hz1 hz2 rfl (by decide) n 2 (by decide) (SV l) [.string ⟨#[98, 101, 104, 105, 110, 100]⟩, .string ⟨#[105, 116]⟩] (by simp [SV, hn]) (SV_one l) rfl (by simp [Value.oneCell']) (by omega) (by unfold maxLen; omega) pa lc w hsrc
  obtain ⟨g1, g2, g3, g4, g5⟩ := fx_giv hn hz ho
  clear ho hsrc hi0 hz0 hz1 hz2
  have HG := hide (And.intro g1 (And.intro g2 (And.intro g3 g4)))
  have HB := hide hb2
  have j1 : (n : Int) ≤ (cap : Int) := by omega
  have j2 : n ≤ cap := by omega
  have HN := hide hn
  have c1 := hide (fun (w' : World) (h : Ls w' pa l) => rSort_n l n hn hl hz pa lc w' h)
  have c2 := hide (fun (w' : World) (O : Nat) (h : Ls w' (some ⟨O, 0, none⟩) l4) => rSort_n l4 4 rfl (by omega) l4_small (some ⟨O, 0, none⟩) 4 w' h)
  have c3 := hide (fun (ec : Int) (cnt : Nat) (G : Nat → Nat) (hD : Det l ec cnt G) (w' : World) (h : Gv F n (fun k => l.getD k nob) w') => Sort_n l n hn hl hz ec cnt G hD (some ⟨F, 0, none⟩) cap w' (h.lsl hn))
  have c4 := hide (fun (G : Nat → Nat) (hD : Det l4 0 4 G) (w' : World) (O : Nat) (h : Ls w' (some ⟨O, 0, none⟩) l4) => Sort_n l4 4 rfl (by omega) l4_small 0 4 G hD (some ⟨O, 0, none⟩) 4 w' h)
  have HL := hide hL
  have HZ := hide hz
  clear hL hz hn g1 g2 g3 g4 g5 hb2
  go_enter Tryd.func4, Tryd.ntmps4
  go_upto_region 3 with (first | ((with_reducible refine wpList_append_run (o := { dst := some 26, op := Op.call { callee := Callee.builtin Builtin.append, args := #[Operand.tmp 24, Operand.tmp 25], argTypes := #[22, 22] }, type := 22, pos := "law.go:133", after := #[{ on := 0, ground := Ground.data }, { on := 1, ground := Ground.data }], guard := none }) ?m1a (.tmp 24) (.tmp 25) 22 ?m1b _ _ ?m1c ?m1d r1 ?m1e); (case m1a => rfl); (case m1b => rfl); (case m1c => rfl); (case m1d => rfl)) | ((with_reducible refine wpList_append_run (o := { dst := some 28, op := Op.call { callee := Callee.builtin Builtin.append, args := #[Operand.tmp 26, Operand.tmp 27], argTypes := #[22, 22] }, type := 22, pos := "law.go:133", after := #[{ on := 2, ground := Ground.data }, { on := 3, ground := Ground.data }, { on := 2, ground := Ground.chain }], guard := none }) ?m2a (.tmp 26) (.tmp 27) 22 ?m2b _ _ ?m2c ?m2d r2 ?m2e); (case m2a => rfl); (case m2b => rfl); (case m2c => rfl); (case m2d => rfl)))
  clear r1 r2 j1 j2
  go_upto_region 4 with fail
  have HO := hide (l4_lies W2)
  have HB3 := hide ((Below.refl W2.heap.size W2).alloc (Nat.le_refl _) (.cells #[.string ⟨#[50]⟩, .string ⟨#[49]⟩, .string ⟨#[49, 46, 48, 45, 48]⟩, .string ⟨#[49]⟩] 9))
  generalize W2.alloc (.cells #[.string ⟨#[50]⟩, .string ⟨#[49]⟩, .string ⟨#[49, 46, 48, 45, 48]⟩, .string ⟨#[49]⟩] 9) = W3 at *
  have T3 := hide (show Ls W3 pa l ∧ Gv F n (fun k => l.getD k nob) W3 ∧ W3.cell? ⟨F, n, none⟩ = some (.string ⟨#[98, 101, 104, 105, 110, 100]⟩) ∧ W3.cell? ⟨F, n + 1, none⟩ = some (.string ⟨#[105, 116]⟩) ∧ Ls W3 (some ⟨W2.heap.size, 0, none⟩) l4 ∧ w.heap.size ≤ F ∧ Below w.heap.size w W3 from
    ⟨((unhide HL).later ((unhide HB).mono (Nat.le_refl _))).later (unhide HB3), (unhide HG).1.later (unhide HB3), ((unhide HB3).cell (p := ⟨F, n, none⟩) (unhide HG).1.lt).trans (unhide HG).2.1, ((unhide HB3).cell (p := ⟨F, n + 1, none⟩) (unhide HG).1.lt).trans (unhide HG).2.2.1, unhide HO, (unhide HG).2.2.2, (unhide HB).trans ((unhide HB3).mono (unhide HB).size)⟩)
  clear HO HB3 HG HB HL
  generalize W2.heap.size = O at *
  go_upto_region 5 with (go_at_call 9; refine (unhide c1 _ (unhide T3).1).mono ?_; rintro x1 w1 ⟨ec, cnt, G, bv, rfl, hD, hown, hb1⟩; have HD := hide hD; have HP := hide (Ps.of hown); have HB1 := hide hb1; clear hD hown hb1)
  go_upto_region 7 with (go_at_call 9; refine (unhide c2 _ O ((unhide T3).2.2.2.2.1.later (unhide HB1))).mono ?_; rintro x2 w2 ⟨ec4, cnt4, G4, ov, rfl, hD, hown, hb1⟩; have HD4 := hide hD; have HP4 := hide (Ps.of hown); have HB2 := hide hb1; clear hD hown hb1)
  obtain ⟨rfl, rfl⟩ := l4_det (unhide HD4)
  have HFX := hide (show Fx w l n pa F O bv ov cnt G G4 w2 from
    ⟨((unhide T3).1.later (unhide HB1)).later (unhide HB2), ((unhide T3).2.1.later (unhide HB1)).later (unhide HB2), ((unhide HB2).cell (p := ⟨F, n, none⟩) (Nat.lt_of_lt_of_le (unhide T3).2.1.lt (unhide HB1).size)).trans (((unhide HB1).cell (p := ⟨F, n, none⟩) (unhide T3).2.1.lt).trans (unhide T3).2.2.1), ((unhide HB2).cell (p := ⟨F, n + 1, none⟩) (Nat.lt_of_lt_of_le (unhide T3).2.1.lt (unhide HB1).size)).trans (((unhide HB1).cell (p := ⟨F, n + 1, none⟩) (unhide T3).2.1.lt).trans (unhide T3).2.2.2.1), ((unhide T3).2.2.2.2.1.later (unhide HB1)).later (unhide HB2), (unhide HP).later (unhide HB2), unhide HP4, (unhide T3).2.2.2.2.2.1, ((unhide T3).2.2.2.2.2.2.trans ((unhide HB1).mono (unhide T3).2.2.2.2.2.2.size)).trans ((unhide HB2).mono (Nat.le_trans (unhide T3).2.2.2.2.2.2.size (unhide HB1).size))⟩)
  have hcnt : cnt ≤ 1048576 := Nat.le_trans (unhide HD).le (by have := unhide HN; omega)
  clear T3 HB1 HB2 HP HP4 c1 c2
  have FX := hide (fun (W : World) (hb : Below w2.heap.size w2 W) => (unhide HFX).later hb)
  have HA0 := hide (AL.start w2.heap.size w2 cnt G G4 (Nat.le_refl _))
  clear HFX
  generalize w2.heap.size = base at *
  obtain ⟨i1, hi1, hy0, hy1, hy2⟩ := info_parts infoT
  go_wp2_with fail
  go_loopg [10, 11] 5 (fun g1 va vi wr => ∃ (k : Nat) (vv : Nat → Value), vi = .int .i64 k ∧ k ≤ 5 ∧ 5 - k ≤ g1 ∧ Hid (AL base w2 cnt G G4 k va vv wr))
  case atStart => exact ⟨0, _, by go_num, by omega, by omega, HA0⟩
  case round =>
    clear HA0
    obtain ⟨k, vv, rfl, hk, hg1, HA⟩ := hrel
    obtain ⟨aa, ac, hva⟩ := owns_form (unhide HA).row
    subst hva
    by_cases hlt : k < 5
    · have hltz : (k : Int) < 5 := by omega
      by_cases h2 : k = 2
      · have e2 : ((k : Int) == 2) = true := by subst h2; rfl
        have HK23 := hide (show k = 2 ∨ k = 3 from Or.inl h2)
        clear h2
        have HNJ : Hid (Nj cnt k = 4 ∧ Gj G G4 k = G4) := ⟨if_pos (unhide HK23), if_pos (unhide HK23)⟩
        go_upto_region 14 with (go_at_call 6; go_must (refine (unhide c3 ec cnt G (unhide HD) _ (unhide FX _ (unhide HA).bel).giv).mono ?_); rintro x1 w5 ⟨xv, rfl, hown, hb5⟩; obtain ⟨ya, yc, hxv⟩ := owns_form hown; subst hxv; have HX := hide hown; have HA5 := hide ((unhide HA).later hb5); clear hown hb5)
        have HLO := hide (fun (j : Nat) (hj : j < k) (g : Nat) (hg : (vv j).ownBlock = some g) => (((unhide HA5).rows j hj).lt g hg).2)
        have HBL := hide (unhide HA5).le
        clear HX
        go_upto_region 17 with (go_at_call 6; go_must (refine (unhide c4 G4 (unhide HD4) _ O (unhide FX _ (unhide HA5).bel).oth).mono ?_); rintro x1 w55 ⟨xv, rfl, hown, hb5⟩; obtain ⟨xa, xc, hxv⟩ := owns_form hown; subst hxv; have HX := hide hown; have HA55 := hide ((unhide HA5).later hb5); clear hown hb5)
        have hec : ((0 : Int) != 0) = false := by simp
        go_upto_region 19 with (first | (go_at_call 10; go_must (refine (num_n 0 _).mono ?_); rintro x2 w6 ⟨rfl, hb6⟩; have HA6 := hide ((unhide HA55).later hb6); have HX6 := hide (owns_below (unhide HX) hb6); clear hb6) | (go_at_call 11; go_must (refine (places_n _ _ 4 G4 (by omega) _ (Ps.of (unhide HX6)) (unhide FX _ (unhide HA6).bel).po).mono ?_); rintro x3 w7 ⟨rfl, hb7⟩; have HA7 := hide ((unhide HA6).later hb7); have HX7 := hide (owns_below (unhide HX6) hb7); clear hb7))
        have hbl := (unhide HA7).le
        have HA8 := hide ((unhide HA7).later ((Below.refl w7.heap.size w7).alloc (Nat.le_refl _) (.cells #[.slice xa 4 xc] 24)))
        go_wp2_with (at_builtin; go_must (refine wpList_append_lies _ rfl _ _ 38 rfl base 24 i1 (.slice none 0 0) 1 24 Tryd.underlying38 hi1 hy0 hy1 hy2 rfl (by decide) _ k _ rfl (unhide HA8).row ⟨_, 0, none⟩ 1 1 [.slice xa 4 xc] rfl rfl (cell_one_newI _ _ _) (by simp [Value.oneCell']) (by decide) (by unfold maxLen; omega) (by omega) (by simp; omega) _ rfl ?_); intro gg cc w9 hown' hgrow hat _; have HA9 := hide ((unhide HA7).put (lo := w5.heap.size) (unhide HLO) (unhide HBL) (by rw [HNJ.out.1, HNJ.out.2]; exact unhide HX7) rfl hown' hgrow); clear hown' hgrow hat)
        go_roundg (5 - (k + 1))
        case measure => omega
        case rel => exact ⟨k + 1, _, by go_num, by omega, by omega, HA9⟩
      · by_cases h3 : k = 3
        · have e2 : ((k : Int) == 2) = false := by subst h3; rfl
          have e3 : ((k : Int) == 3) = true := by subst h3; rfl
          have HK23 := hide (show k = 2 ∨ k = 3 from Or.inr h3)
          clear h3 h2
          have HNJ : Hid (Nj cnt k = 4 ∧ Gj G G4 k = G4) := ⟨if_pos (unhide HK23), if_pos (unhide HK23)⟩
          go_upto_region 14 with (go_at_call 6; go_must (refine (unhide c3 ec cnt G (unhide HD) _ (unhide FX _ (unhide HA).bel).giv).mono ?_); rintro x1 w5 ⟨xv, rfl, hown, hb5⟩; obtain ⟨ya, yc, hxv⟩ := owns_form hown; subst hxv; have HX := hide hown; have HA5 := hide ((unhide HA).later hb5); clear hown hb5)
          have HLO := hide (fun (j : Nat) (hj : j < k) (g : Nat) (hg : (vv j).ownBlock = some g) => (((unhide HA5).rows j hj).lt g hg).2)
          have HBL := hide (unhide HA5).le
          clear HX
          go_upto_region 17 with (go_at_call 6; go_must (refine (unhide c4 G4 (unhide HD4) _ O (unhide FX _ (unhide HA5).bel).oth).mono ?_); rintro x1 w55 ⟨xv, rfl, hown, hb5⟩; obtain ⟨xa, xc, hxv⟩ := owns_form hown; subst hxv; have HX := hide hown; have HA55 := hide ((unhide HA5).later hb5); clear hown hb5)
          have hec : ((0 : Int) != 0) = false := by simp
          go_upto_region 19 with (first | (go_at_call 10; go_must (refine (num_n 0 _).mono ?_); rintro x2 w6 ⟨rfl, hb6⟩; have HA6 := hide ((unhide HA55).later hb6); have HX6 := hide (owns_below (unhide HX) hb6); clear hb6) | (go_at_call 11; go_must (refine (places_n _ _ 4 G4 (by omega) _ (Ps.of (unhide HX6)) (unhide FX _ (unhide HA6).bel).po).mono ?_); rintro x3 w7 ⟨rfl, hb7⟩; have HA7 := hide ((unhide HA6).later hb7); have HX7 := hide (owns_below (unhide HX6) hb7); clear hb7))
          have hbl := (unhide HA7).le
          have HA8 := hide ((unhide HA7).later ((Below.refl w7.heap.size w7).alloc (Nat.le_refl _) (.cells #[.slice xa 4 xc] 24)))
          go_wp2_with (at_builtin; go_must (refine wpList_append_lies _ rfl _ _ 38 rfl base 24 i1 (.slice none 0 0) 1 24 Tryd.underlying38 hi1 hy0 hy1 hy2 rfl (by decide) _ k _ rfl (unhide HA8).row ⟨_, 0, none⟩ 1 1 [.slice xa 4 xc] rfl rfl (cell_one_newI _ _ _) (by simp [Value.oneCell']) (by decide) (by unfold maxLen; omega) (by omega) (by simp; omega) _ rfl ?_); intro gg cc w9 hown' hgrow hat _; have HA9 := hide ((unhide HA7).put (lo := w5.heap.size) (unhide HLO) (unhide HBL) (by rw [HNJ.out.1, HNJ.out.2]; exact unhide HX7) rfl hown' hgrow); clear hown' hgrow hat)
          go_roundg (5 - (k + 1))
          case measure => omega
          case rel => exact ⟨k + 1, _, by go_num, by omega, by omega, HA9⟩
        · have e2 : ((k : Int) == 2) = false := by simp; omega
          have e3 : ((k : Int) == 3) = false := by simp; omega
          have HNJ : Hid (Nj cnt k = cnt ∧ Gj G G4 k = G) := ⟨if_neg (by omega), if_neg (by omega)⟩
          have HLO := hide (fun (j : Nat) (hj : j < k) (g : Nat) (hg : (vv j).ownBlock = some g) => (((unhide HA).rows j hj).lt g hg).2)
          have HBL := hide (unhide HA).le
          go_upto_region 17 with (go_at_call 6; go_must (refine (unhide c3 ec cnt G (unhide HD) _ (unhide FX _ (unhide HA).bel).giv).mono ?_); rintro x1 w5 ⟨xv, rfl, hown, hb5⟩; obtain ⟨xa, xc, hxv⟩ := owns_form hown; subst hxv; have HX := hide hown; have HA5 := hide ((unhide HA).later hb5); clear hown hb5)
          have hec : ((ec : Int) != ec) = false := by simp
          go_upto_region 19 with (first | (go_at_call 10; go_must (refine (num_n ec _).mono ?_); rintro x2 w6 ⟨rfl, hb6⟩; have HA6 := hide ((unhide HA5).later hb6); have HX6 := hide (owns_below (unhide HX) hb6); clear hb6) | (go_at_call 11; go_must (refine (places_n _ _ cnt G (by omega) _ (Ps.of (unhide HX6)) (unhide FX _ (unhide HA6).bel).pb).mono ?_); rintro x3 w7 ⟨rfl, hb7⟩; have HA7 := hide ((unhide HA6).later hb7); have HX7 := hide (owns_below (unhide HX6) hb7); clear hb7))
          have hbl := (unhide HA7).le
          have HA8 := hide ((unhide HA7).later ((Below.refl w7.heap.size w7).alloc (Nat.le_refl _) (.cells #[.slice xa cnt xc] 24)))
          go_wp2_with (at_builtin; go_must (refine wpList_append_lies _ rfl _ _ 38 rfl base 24 i1 (.slice none 0 0) 1 24 Tryd.underlying38 hi1 hy0 hy1 hy2 rfl (by decide) _ k _ rfl (unhide HA8).row ⟨_, 0, none⟩ 1 1 [.slice xa cnt xc] rfl rfl (cell_one_newI _ _ _) (by simp [Value.oneCell']) (by decide) (by unfold maxLen; omega) (by omega) (by simp; omega) _ rfl ?_); intro gg cc w9 hown' hgrow hat _; have HA9 := hide ((unhide HA7).put (lo := wr.heap.size) (unhide HLO) (unhide HBL) (by rw [HNJ.out.1, HNJ.out.2]; exact unhide HX7) rfl hown' hgrow); clear hown' hgrow hat)
          go_roundg (5 - (k + 1))
          case measure => omega
          case rel => exact ⟨k + 1, _, by go_num, by omega, by omega, HA9⟩
    · obtain rfl : k = 5 := by omega
      obtain ⟨Lb, hLb⟩ : ∃ g, aa = some ⟨g, 0, none⟩ := by
        rcases (unhide HA).row.2 with ⟨_, e2⟩ | ⟨g, cap, cur, e, _⟩
        · omega
        · injection e with e3 e4 e5
          exact ⟨g, e3⟩
      subst hLb
      clear hlt hk hg1 c3 c4 hi1 hy0 hy1 hy2
      go_wp2_with fail
      rw [show ((5 : Nat) : Int) = 5 from rfl]
      go_loopg [16] 5 (fun g1 vi wr => ∃ (k : Nat), vi = .int .i64 k ∧ k ≤ 5 ∧ 5 - k ≤ g1 ∧ Hid (AL base w2 cnt G G4 5 (.slice (some ⟨Lb, 0, none⟩) 5 ac) vv wr))
      case atStart => exact ⟨0, by go_num, by omega, by omega, HA⟩
      case round =>
        clear HA
        obtain ⟨k, rfl, hk, hg1, HA⟩ := hrel
        by_cases hlt : k < 5
        · have hltz : (k : Int) < 5 := by omega
          obtain ⟨xa, xc, hx⟩ := owns_form ((unhide HA).rows k hlt)
          have cc := owns_at (unhide HA).row k _ (VV_at vv 5 k hlt)
          rw [hx] at cc
          by_cases h2 : k = 2
          · have e2 : ((k : Int) == 2) = true := by subst h2; rfl
            have n2 : ((k : Int) != 2) = false := by subst h2; rfl
            have HK23 := hide (show k = 2 ∨ k = 3 from Or.inl h2)
            clear h2
            have HX := hide (show Ps wr (.slice xa 4 xc) 4 G4 from by
              have h := Ps.of ((unhide HA).rows k hlt)
              rw [hx, show Nj cnt k = 4 from if_pos (unhide HK23), show Gj G G4 k = G4 from if_pos (unhide HK23)] at h
              exact h)
            rw [show Nj cnt k = 4 from if_pos (unhide HK23)] at cc
            clear hx
            go_wp2_with (go_at_call 11; go_must (refine (places_n _ _ 4 G4 (by omega) _ (unhide HX) (unhide FX _ (unhide HA).bel).po).mono ?_); rintro x3 w7 ⟨rfl, hb7⟩; have HA7 := hide ((unhide HA).later hb7); clear hb7)
            go_roundg (5 - (k + 1))
            case measure => omega
            case rel => exact ⟨k + 1, by go_num, by omega, by omega, HA7⟩
          · by_cases h3 : k = 3
            · have e2 : ((k : Int) == 2) = false := by subst h3; rfl
              have e3 : ((k : Int) == 3) = true := by subst h3; rfl
              have n2 : ((k : Int) != 2) = true := by subst h3; rfl
              have n3 : ((k : Int) != 3) = false := by subst h3; rfl
              have HK23 := hide (show k = 2 ∨ k = 3 from Or.inr h3)
              clear h3 h2
              have HX := hide (show Ps wr (.slice xa 4 xc) 4 G4 from by
                have h := Ps.of ((unhide HA).rows k hlt)
                rw [hx, show Nj cnt k = 4 from if_pos (unhide HK23), show Gj G G4 k = G4 from if_pos (unhide HK23)] at h
                exact h)
              rw [show Nj cnt k = 4 from if_pos (unhide HK23)] at cc
              clear hx
              go_wp2_with (go_at_call 11; go_must (refine (places_n _ _ 4 G4 (by omega) _ (unhide HX) (unhide FX _ (unhide HA).bel).po).mono ?_); rintro x3 w7 ⟨rfl, hb7⟩; have HA7 := hide ((unhide HA).later hb7); clear hb7)
              go_roundg (5 - (k + 1))
              case measure => omega
              case rel => exact ⟨k + 1, by go_num, by omega, by omega, HA7⟩
            · have e2 : ((k : Int) == 2) = false := by simp; omega
              have e3 : ((k : Int) == 3) = false := by simp; omega
              have n2 : ((k : Int) != 2) = true := by simp; omega
              have n3 : ((k : Int) != 3) = true := by simp; omega
              have HX := hide (show Ps wr (.slice xa cnt xc) cnt G from by
                have h := Ps.of ((unhide HA).rows k hlt)
                rw [hx, show Nj cnt k = cnt from if_neg (by omega), show Gj G G4 k = G from if_neg (by omega)] at h
                exact h)
              rw [show Nj cnt k = cnt from if_neg (by omega)] at cc
              clear hx h2 h3
              go_wp2_with (go_at_call 11; go_must (refine (places_n _ _ cnt G (by omega) _ (unhide HX) (unhide FX _ (unhide HA).bel).pb).mono ?_); rintro x3 w7 ⟨rfl, hb7⟩; have HA7 := hide ((unhide HA).later hb7); clear hb7)
              go_roundg (5 - (k + 1))
              case measure => omega
              case rel => exact ⟨k + 1, by go_num, by omega, by omega, HA7⟩
        · obtain rfl : k = 5 := by omega
          clear hlt hk hg1
          go_upto_region 25 with fail
          rw [show ((5 : Nat) : Int) = 5 from rfl]
          have HPA := hide (unhide HA).pa
          have HAB := hide (unhide HA).bel
          have hNj : ∀ i, i < 5 → Nj cnt i ≤ 2097170 := fun i _ => by unfold Nj; split <;> omega
          have HNN := hide hNj
          clear hNj HA
          have en : ((n : Int) + 1).toNat = n + 1 := by omega
          have en2 : (n : Int) < (n : Int) + 2 := by omega
          have en3 : (n : Int) + 1 < (n : Int) + 2 := by omega
          have en4 : (0 : Int) ≤ (n : Int) + 1 := by omega
          go_upto_region 27 with (first | (go_at_call 12; go_must (refine (placesApart_any base Lb vv (Nj cnt) _ (unhide HNN) _ _ (unhide HPA)).mono ?_); rintro x3 w7 ⟨rfl, hb7⟩; have HF7 := hide (unhide FX _ ((unhide HAB).trans hb7)); clear hb7) | (go_at_call 13; go_must (refine (same_n l n (unhide HN) hl _ _ _ _ _ ((unhide HF7).giv.lsl (unhide HN)) (unhide HF7).lst).mono ?_); rintro x8 w8 ⟨rfl, hb8⟩; have HF8 := hide ((unhide HF7).later hb8); clear hb8; have k1 := (unhide HF8).beh; have k2 := (unhide HF8).it))
          clear k1 k2 en en2 en3 en4 HF7 HNN HPA HAB FX
          have HG := hide (unhide HF8).giv
          have HB := hide (unhide HF8).bel
          have hge := (unhide HF8).ge
          clear HF8
          go_wp2_with fail
          go_loopg [17] n (fun g1 vi wr => ∃ (k : Nat) (s : Nat → ByteArray), vi = .int .i64 k ∧ k ≤ n ∧ n - k ≤ g1 ∧ Hid (Gv F n s wr) ∧ Hid (Below w.heap.size w wr))
          case atStart => exact ⟨0, _, by go_num, by omega, by omega, HG, HB⟩
          case round =>
            clear HG HB
            obtain ⟨k, s, rfl, hk, hg1, HG, HB⟩ := hrel
            by_cases hlt : k < n / 2
            · have hltz : (k : Int) < (n : Int) / 2 := by omega
              obtain ⟨j, hj⟩ : ∃ j, j + k + 1 = n := ⟨n - 1 - k, by omega⟩
              have kn : k < n := by omega
              have jn : j < n := by omega
              have knz : (k : Int) < (n : Int) := by omega
              have jnz : (n : Int) - 1 - (k : Int) < (n : Int) := by omega
              have j0z : (0 : Int) ≤ (n : Int) - 1 - (k : Int) := by omega
              have k1z : (k : Int) ≤ (n : Int) - 1 := by omega
              have ej : ((n : Int) - 1 - (k : Int)).toNat = j := by omega
              have rj : IntKind.i64.wrap ((n : Int) - 1 - (k : Int)) = (n : Int) - 1 - (k : Int) := by rw [IntKind.wrap_i64]; omega
              have r1 : IntKind.i64.wrap ((n : Int) - 1) = (n : Int) - 1 := by rw [IntKind.wrap_i64]; omega
              have HJ := hide hj
              have ck := (unhide HG).cell k kn
              have cj := (unhide HG).cell j jn
              have fk := (unhide HG).fro k
              have HSK := hide ((unhide HG).small k kn)
              have HG1 := hide ((unhide HG).set k (s j) kn ((unhide HG).small j jn))
              have HB1 := hide ((unhide HB).setCell (p := ⟨F, k, none⟩) hge (.string (s j)))
              clear hj HG HB
              generalize s j = sj at *
              generalize s k = sk at *
              go_upto_region 32 with fail
              clear ck cj fk
              generalize wr.setCell ⟨F, k, none⟩ (.string sj) = w3 at *
              have cj := (unhide HG1).cell j jn
              have fj := (unhide HG1).fro j
              have HG2 := hide ((unhide HG1).set j sk jn (unhide HSK))
              have HB2 := hide ((unhide HB1).setCell (p := ⟨F, j, none⟩) hge (.string sk))
              clear HG1 HB1
              go_wp2_with fail
              generalize w3.setCell ⟨F, j, none⟩ (.string sk) = w4 at *
              go_roundg (n - (k + 1))
              case measure => omega
              case rel => exact ⟨k + 1, _, by go_num, by omega, by omega, HG2, HB2⟩
            · have hltz : ¬ (k : Int) < (n : Int) / 2 := by omega
              have HLS := hide (unhide HG).ls
              have htl := (tl_len n s).symm
              have hsm : ∀ k, k < n → ((tl n s).getD k nob).size ≤ maxLen := fun k hk => by rw [tl_at n s k hk]; exact (unhide HG).small k hk
              have hsrc := (unhide HG).ls.src
              rw [tl_len] at hsrc
              obtain ⟨i0, hi0, hz0, hz1, hz2⟩ := info_parts infoStr
              obtain ⟨nv, w5, r3, ho, hb5, _⟩ := app1 (P := Tryd.prog) 22 22 9 i0 (.string ⟨#[]⟩) 1 16 Tryd.underlying22 hi0 hz0 hz1 hz2 rfl (by decide) n (SV (tl n s)) (by simp [SV, tl_len]) (SV_one _) (by omega) (by unfold maxLen; omega) (some ⟨F, 0, none⟩) cap wr hsrc
              obtain ⟨na, nc, hnv⟩ := owns_form ho
              subst hnv
              have HNL := hide (ls_owns ho htl)
              have HGL := hide ((unhide HLS).later hb5)
              have HB5 := hide ((unhide HB).trans (hb5.mono (unhide HB).size))
              have c5 := hide (fun (w' : World) (h : Ls w' na (tl n s)) => rSort_n (tl n s) n htl hl hsm na nc w' h)
              have c6 := hide (fun (ec : Int) (cnt : Nat) (G : Nat → Nat) (hD : Det (tl n s) ec cnt G) (w' : World) (h : Ls w' (some ⟨F, 0, none⟩) (tl n s)) => Sort_n (tl n s) n htl hl hsm ec cnt G hD (some ⟨F, 0, none⟩) cap w' h)
              have c7 := hide (fun (w' : World) (h1 : Ls w' (some ⟨F, 0, none⟩) (tl n s)) (h2 : Ls w' na (tl n s)) => same_n (tl n s) n htl hl (some ⟨F, 0, none⟩) na cap nc w' h1 h2)
              have HTL := hide htl
              clear HLS htl hsm hsrc hi0 hz0 hz1 hz2 ho hb5 HG HB
              go_upto_region 34 with ((with_reducible refine wpList_append_run (o := { dst := some 175, op := Op.call { callee := Callee.builtin Builtin.append, args := #[Operand.tmp 173, Operand.tmp 174], argTypes := #[22, 22] }, type := 22, pos := "law.go:166", after := #[{ on := 0, ground := Ground.data }, { on := 1, ground := Ground.data }], guard := none }) ?m3a (.tmp 173) (.tmp 174) 22 ?m3b _ _ ?m3c ?m3d r3 ?m3e); (case m3a => rfl); (case m3b => rfl); (case m3c => rfl); (case m3d => rfl))
              clear r3
              go_upto_region 35 with (go_at_call 9; go_must (refine (unhide c5 _ (unhide HNL)).mono ?_); rintro x6 w6 ⟨ed, dn, D, dv, rfl, hD, hown, hb6⟩; have HDD := hide hD; have HPD := hide (Ps.of hown); have HNL6 := hide ((unhide HNL).later hb6); have HGL6 := hide ((unhide HGL).later hb6); have HB6 := hide ((unhide HB5).trans (hb6.mono (unhide HB5).size)); clear hD hown hb6)
              have hdn : dn ≤ 1048576 := Nat.le_trans (unhide HDD).le (by rw [← unhide HTL]; exact hl)
              go_upto_region 36 with (go_at_call 6; go_must (refine (unhide c6 ed dn D (unhide HDD) _ (unhide HGL6)).mono ?_); rintro x7 w7 ⟨cv, rfl, hown, hb7⟩; have HPC := hide (Ps.of hown); have HPD7 := hide ((unhide HPD).later hb7); have HNL7 := hide ((unhide HNL6).later hb7); have HGL7 := hide ((unhide HGL6).later hb7); have HB7 := hide ((unhide HB6).trans (hb7.mono (unhide HB6).size)); clear hown hb7)
              have hed : (ed == ed) = true := by simp
              go_wp2_with (first | (go_at_call 10; go_must (refine (num_n ed _).mono ?_); rintro x8 w8 ⟨rfl, hb8⟩; have T8 := hide (show Ps w8 cv dn D ∧ Ps w8 dv dn D ∧ Ls w8 (some ⟨F, 0, none⟩) (tl n s) ∧ Ls w8 na (tl n s) ∧ Below w.heap.size w w8 from ⟨(unhide HPC).later hb8, (unhide HPD7).later hb8, (unhide HGL7).later hb8, (unhide HNL7).later hb8, (unhide HB7).trans (hb8.mono (unhide HB7).size)⟩); clear hb8) | (go_at_call 11; go_must (refine (places_n _ _ dn D hdn _ (unhide T8).1 (unhide T8).2.1).mono ?_); rintro x9 w9 ⟨rfl, hb9⟩; have T9 := hide (show Ls w9 (some ⟨F, 0, none⟩) (tl n s) ∧ Ls w9 na (tl n s) ∧ Below w.heap.size w w9 from ⟨(unhide T8).2.2.1.later hb9, (unhide T8).2.2.2.1.later hb9, (unhide T8).2.2.2.2.trans (hb9.mono (unhide T8).2.2.2.2.size)⟩); clear hb9) | (go_at_call 13; go_must (refine (unhide c7 _ (unhide T9).1 (unhide T9).2.1).mono ?_); rintro x10 w10 ⟨rfl, hb10⟩; have T10 := hide ((unhide T9).2.2.trans (hb10.mono (unhide T9).2.2.size)); clear hb10))
              go_ret
              exact ⟨rfl, unhide T10⟩
end Go.Proofs.YtcdajbfoneifaaaDoor
