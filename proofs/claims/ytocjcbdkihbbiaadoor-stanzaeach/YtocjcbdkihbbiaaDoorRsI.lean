import Derived.Test.YtocjcbdkihbbiaaDoorRsH
namespace Go.Proofs.YtocjcbdkihbbiaaDoor
open Go.RowKit Go.Shelf

theorem take_lines (ls : List Bs) (i : Nat) (hi : i < ls.length) : runL (numb 1 (ls.take (i + 1))) = stp (runL (numb 1 (ls.take i))) (i + 1, ls[i]) := by
  rw [List.take_succ_eq_append_getElem hi, numb_app, show numb (1 + (ls.take i).length) [ls[i]] = [(1 + (ls.take i).length, ls[i])] from rfl, runL_snoc]
  congr 2
  rw [List.length_take]
  omega

set_option maxRecDepth 100000 in
set_option maxHeartbeats 4000000 in
theorem rRead_any (t : Bs) (pa : Option Addr) (c : Nat) (w : World) (ht : t.length ≤ 16777216) (hc : t.length ≤ c) (hR : Rb w pa t) :
    Calls Tryd.prog 52 #[.slice pa t.length c] w fun e w' => ∃ v vs n er, e = .returned (.tuple #[v, .int .i64 (n : Nat), .int .i64 (er : Nat)]) ∧ Below w.heap.size w w' ∧
      (((parseT t).err = none ∧ n = 0 ∧ er = 0 ∧ RD w.heap.size w' v (shut (parseT t)) vs) ∨ ((parseT t).err = some (n, er) ∧ RD w.heap.size w' v (parseT t).all vs)) := by
  obtain ⟨i0, hi, hz0, hz1, hz2⟩ := info_parts info39
  have cL := hide (fun w1 (h : Below w.heap.size w w1) => rLines_any t pa c w1 ht hc (hR.later h))
  have hLl := linesL_len t.length t (Nat.le_refl _)
  have HLe := hide (lines_le t.length t (Nat.le_refl _))
  have HPT := hide (show parseT t = runL (numb 1 (linesL t)) from rfl)
  generalize linesL t = ls at *
  obtain ⟨N, hN⟩ : ∃ N, ls.length = N := ⟨_, rfl⟩
  rw [hN] at cL hLl
  have HN := hide hN
  have hlz : ¬ (16777216 : Int) < (t.length : Int) := by omega
  have hN16 : N ≤ 16777216 := by omega
  clear hR hN
  go_enter Tryd.func52, Tryd.ntmps52
  go_wp2_with (go_at_call 68; refine (unhide cL _ (Below.refl _ _)).mono ?_; rintro e w1 ⟨la, lc, rfl, ho1, hb1⟩; have HO1 := hide ho1; have HB1 := hide hb1; clear ho1 hb1)
  go_loopw [6, 7, 8] (fun av pv iv wr => ∃ (i : Nat) (st : St) (vs : List Value) (ts : List Tv) (aa : Option Addr) (ac : Nat) (pa : Option Addr) (pc : Nat), i ≤ N ∧ av = .slice aa st.all.length ac ∧ pv = .slice pa st.p.length pc ∧ iv = .int .i64 i ∧ Hid (runL (numb 1 (ls.take i)) = st) ∧ Hid (st.err = none) ∧ Hid (RD w.heap.size wr (.slice aa st.all.length ac) st.all vs) ∧ Hid (RP w.heap.size wr (.slice pa st.p.length pc) st.p ts) ∧ Hid (NmOk st.p) ∧ Hid (wr.ownsRow w.heap.size 9 1 (.slice la N lc) N (strs ls)) ∧ Hid (Below w.heap.size w wr)) (fun _ _ iv _ => N - (intOf iv).toNat)
  case atStart => exact ⟨0, st0, [], [], none, 0, none, 0, Nat.zero_le _, rfl, rfl, rfl, hide rfl, hide rfl, hide (RD.nil _ _), hide (RP.nil _ _), hide (fun f hf => by cases hf), HO1, HB1⟩
  case round =>
    clear HO1 HB1 cL
    obtain ⟨i, st, vs, ts, aa, ac, pa', pc, hiN, rfl, rfl, rfl, HST, HE, HD, HP, HNM, HO, HB⟩ := hrel
    have hz := (unhide HB).size
    have hbd := Bd.run (numb 1 (ls.take i))
    rw [unhide HST, numb_len, List.length_take] at hbd
    have hal : st.all.length ≤ 16777216 := by have := hbd.a; have := unhide HN; omega
    have hpl : st.p.length ≤ 16777216 := by have := hbd.b.1; have := unhide HN; omega
    have HLS := hide (show ∀ f ∈ st.p, f.ls.length ≤ 16777216 ∧ f.ns.length ≤ 16777216 from fun f hf => by have := hbd.b.2 f hf; have := unhide HN; omega)
    clear hbd
    by_cases hlt : i < N
    · have hltz : (i : Int) < (N : Int) := by omega
      have hil : i < ls.length := by have := unhide HN; omega
      have HNX := hide (show runL (numb 1 (ls.take (i + 1))) = stp st (i + 1, ls[i]) by rw [take_lines ls i hil, unhide HST])
      have hsl : ls[i].length ≤ 16777216 := by have := unhide HLe ls[i] (List.getElem_mem hil); omega
      obtain ⟨lb, rfl⟩ : ∃ lb, la = some ⟨lb, 0, none⟩ := by
        rcases (unhide HO).2 with ⟨_, e2⟩ | ⟨g, cap, cur, e, _⟩
        · omega
        · cases e; exact ⟨g, rfl⟩
      have cl := (row_cells (unhide HO)).2.2 i (.string (ba ls[i])) (by simp [strs, hil])
      have HERR := hide (fun (k er : Nat) (h : (stp st (i + 1, ls[i])).err = some (k, er)) => show (parseT t).err = some (k, er) ∧ (parseT t).all = (stp st (i + 1, ls[i])).all from by
        have h1 : runL (numb 1 ls) = runL (numb 1 (ls.take (i + 1))) := by
          conv => lhs; rw [← List.take_append_drop (i + 1) ls, numb_app]
          exact runL_err (by rw [unhide HNX, h]; rfl)
        rw [unhide HPT, h1, unhide HNX]
        exact ⟨h, rfl⟩)
      generalize ls[i] = s at *
      have cO := hide (fun w => by have := rOdd_any (ba s) w (by rw [ba_size]; omega); rw [ba_list] at this; exact this)
      have cF := hide (fun w => by have := rFront_any (ba s) w; rw [ba_list] at this; exact this)
      have he : st.err = none := unhide HE
      cases ho : oddL s with
      | true =>
        rw [ho] at cO
        have hk0 := odd_kd s ho
        have hstp : stp st (i + 1, s) = ⟨st.all, st.p, some (i + 1, 30)⟩ := by
          unfold stp
          rw [he]
          simp [hk0, takeP, ho]
        obtain ⟨e1, e2⟩ := unhide HERR (i + 1) 30 (by rw [hstp])
        rw [hstp] at e2
        have HF1 := hide e1
        have HF2 := hide e2
        clear ho hk0 hstp e1 e2 he HERR HNX HST HE
        go_wp2_with (go_at_call 65; refine (unhide cO _).mono ?_; rintro e w2 ⟨rfl, rfl⟩)
        go_ret3
        exact ⟨_, vs, i + 1, 30, rfl, unhide HB, .inr ⟨unhide HF1, by rw [unhide HF2]; exact unhide HD⟩⟩
      | false =>
        rw [ho] at cO
        by_cases hk0 : kd s = 0
        · have hfr := (kd_zero s).1 hk0
          rw [hfr] at cF
          have hstp : stp st (i + 1, s) = ⟨shut st, [], none⟩ := by
            unfold stp
            rw [he]
            simp [hk0]
          have hem : (ba []).toList = [] := tl _
          by_cases hp : st.p.length = 0
          · have hpz : ¬ (0 : Int) < (st.p.length : Int) := by omega
            have HS2 := hide (show runL (numb 1 (ls.take (i + 1))) = ⟨st.all, [], none⟩ by rw [unhide HNX, hstp]; unfold shut; rw [if_pos hp])
            clear ho hk0 hstp he HERR HNX HST HE hfr hp
            go_wp2_with (first | (go_at_call 65; refine (unhide cO _).mono ?_; rintro e w2 ⟨rfl, rfl⟩) | (go_at_call 66; refine (unhide cF _).mono ?_; rintro e w3 ⟨rfl, rfl⟩))
            go_roundw
            case rel => exact ⟨i + 1, ⟨st.all, [], none⟩, vs, [], aa, ac, none, 0, by omega, rfl, rfl, by go_num, HS2, hide rfl, HD, hide (RP.nil _ _), hide (fun f hf => by cases hf), HO, HB⟩
            case measure => simp [intOf]; omega
          · have hpz : (0 : Int) < (st.p.length : Int) := by omega
            have HS2 := hide (show runL (numb 1 (ls.take (i + 1))) = ⟨st.all ++ [st.p], [], none⟩ by rw [unhide HNX, hstp]; unfold shut; rw [if_neg hp])
            clear ho hk0 hstp he HERR HNX HST HE hfr hp
            go_wp2_with (first | (go_at_call 65; refine (unhide cO _).mono ?_; rintro e w2 ⟨rfl, rfl⟩) | (go_at_call 66; refine (unhide cF _).mono ?_; rintro e w3 ⟨rfl, rfl⟩) | (at_builtin; go_must (refine wpList_append_own _ rfl _ _ 24 rfl w.heap.size 39 i0 (.slice none 0 0) 1 24 Tryd.underlying24 hi hz0 hz1 hz2 rfl (by decide) _ _ _ rfl ((unhide HD).row.alloc _) ⟨_, 0, none⟩ 1 1 [.slice pa' st.p.length pc] rfl rfl (cell_one_new _ _ _) (by simp [Value.oneCell']) (by unfold maxLen; omega) (by omega) (by simp; omega) ?_); intro v2 w4 hown2 hgrow2 _; have HD2 := hide ((unhide HD).put (unhide HP) hown2 hgrow2); have HO4 := hide (show w4.ownsRow w.heap.size 9 1 (.slice (some ⟨lb, 0, none⟩) N lc) N (strs ls) from ownsRow_same (unhide HO) fun g c _ hc => by
              have hlt2 := (Array.getElem?_eq_some_iff.1 hc).1
              rw [hgrow2.block g (by simp; omega) (fun e => by obtain ⟨c2, hc2, _⟩ := ownsRow_blk (unhide HD).row e.symm; rw [hc] at hc2; cases hc2), Below.heap_alloc _ _ _ hlt2]); have HB2 := hide (((unhide HB).alloc hz (.cells #[.slice pa' st.p.length pc] 39)).grown hgrow2 (by simp; omega) (fun j e => ((unhide HD).row.lt j e).1)); obtain ⟨g2, cap2, cur2, rfl, -⟩ := slice_of hown2; clear hown2 hgrow2))
            go_roundw
            case rel => exact ⟨i + 1, ⟨st.all ++ [st.p], [], none⟩, vs ++ [.slice pa' st.p.length pc], [], some ⟨g2, 0, none⟩, cap2, none, 0, by omega, by rw [List.length_append]; rfl, rfl, by go_num, HS2, hide rfl, hide (by have := unhide HD2; rw [List.length_append]; exact this), hide (RP.nil _ _), hide (fun f hf => by cases hf), HO4, HB2⟩
            case measure => simp [intOf]; omega
        · have hfr : Lib.trimLeftS s bl2 ≠ [] := fun e => hk0 ((kd_zero s).2 e)
          have hne : (ba (Lib.trimLeftS s bl2)).toList.isEmpty = false := by
            rw [ba_tl]
            cases h : Lib.trimLeftS s bl2 with
            | nil => exact absurd h hfr
            | cons _ _ => rfl
          obtain ⟨b, r, rfl⟩ : ∃ b r, s = b :: r := by
            cases s with
            | nil => exact absurd rfl hk0
            | cons b r => exact ⟨b, r, rfl⟩
          have hsp : 0 < (ba (b :: r)).size := by rw [ba_size]; simp
          have hb0 : (ba (b :: r))[0] = b := rfl
          have hkc := kd_cons b r hk0
          by_cases h35 : b.toNat = 35
          · have e35 : ((ba (b :: r))[0].toNat : Int) = 35 := by rw [hb0]; omega
            rw [if_pos h35] at hkc
            have HS2 := hide (show runL (numb 1 (ls.take (i + 1))) = ⟨st.all, st.p, none⟩ by
              rw [unhide HNX]
              unfold stp
              rw [he]
              simp [hkc, takeP, ho])
            clear ho hk0 he HERR HNX HST HE hfr hkc hb0 h35
            generalize Lib.trimLeftS (b :: r) bl2 = tl1 at *
            generalize ba (b :: r) = s0 at *
            go_wp2_with (first | (go_at_call 65; refine (unhide cO _).mono ?_; rintro e w2 ⟨rfl, rfl⟩) | (go_at_call 66; refine (unhide cF _).mono ?_; rintro e w3 ⟨rfl, rfl⟩))
            go_roundw
            case rel => exact ⟨i + 1, ⟨st.all, st.p, none⟩, vs, ts, aa, ac, pa', pc, by omega, rfl, rfl, by go_num, HS2, hide rfl, HD, HP, HNM, HO, HB⟩
            case measure => simp [intOf]; omega
          · have e35 : ¬ ((ba (b :: r))[0].toNat : Int) = 35 := by rw [hb0]; omega
            rw [if_neg h35] at hkc
            have hk1 : kd (b :: r) ≠ 1 := by rw [hkc]; split <;> omega
            have cN := hide (fun (w2 : World) (hz2 : w.heap.size ≤ w2.heap.size) (h : RP w.heap.size w2 (.slice pa' st.p.length pc) st.p ts) => by
              have := rline_any w.heap.size st.p ts pa' pc (b :: r) (i + 1) w2 hsl hk0 hk1 ho hz2 h hpl (unhide HNM) (unhide HLS)
              rw [show ((i + 1 : Nat) : Int) = (i : Int) + 1 from by omega] at this
              exact this)
            have HNM2 := hide (take_nm st.p (i + 1) (b :: r) (unhide HNM) hsl)
            by_cases hT : (takeP st.p (i + 1) (b :: r)).1 = 0
            · have HS2 := hide (show runL (numb 1 (ls.take (i + 1))) = ⟨st.all, (takeP st.p (i + 1) (b :: r)).2, none⟩ by
                rw [unhide HNX]
                unfold stp
                rw [he]
                simp [hk0, hT])
              rw [hT] at cN
              have HT0 := hide (show (0 : Nat) = 0 from rfl)
              clear ho hk0 hk1 he HERR HNX HST HE hfr hkc hb0 h35 hT HNM HLS
              generalize (takeP st.p (i + 1) (b :: r)).2 = p2 at *
              generalize Lib.trimLeftS (b :: r) bl2 = tl1 at *
              generalize ba (b :: r) = s0 at *
              go_wp2_with (first | (go_at_call 65; refine (unhide cO _).mono ?_; rintro e w2 ⟨rfl, rfl⟩) | (go_at_call 66; refine (unhide cF _).mono ?_; rintro e w3 ⟨rfl, rfl⟩) | (go_at_call 69; go_must (refine (unhide cN _ (unhide HB).size (unhide HP)).mono ?_); rintro e w4 ⟨v', ts', rfl, hrp, hb4⟩; go_must (have hrp2 := hrp (by simp)); go_must (obtain ⟨a5, c5, e5⟩ := hrp2.shape); go_must (subst e5); have HP4 := hide hrp2; go_must (have HD4 := hide ((unhide HD).later hb4)); go_must (have HO4 := hide (ownsRow_below (unhide HO) hb4)); have HB4 := hide (bl_t (unhide HB) hb4); clear hrp hrp2 hb4))
              go_roundw
              case rel => exact ⟨i + 1, ⟨st.all, p2, none⟩, vs, ts', aa, ac, a5, c5, by omega, rfl, rfl, by go_num, HS2, hide rfl, HD4, HP4, HNM2, HO4, HB4⟩
              case measure => simp [intOf]; omega
            · have hstp : (stp st (i + 1, b :: r)).err = some (i + 1, (takeP st.p (i + 1) (b :: r)).1) ∧ (stp st (i + 1, b :: r)).all = st.all := by
                unfold stp
                rw [he]
                simp [hk0, hT]
              obtain ⟨e1, e2⟩ := unhide HERR _ _ hstp.1
              rw [hstp.2] at e2
              have HF1 := hide e1
              have HF2 := hide e2
              have hTz : (((takeP st.p (i + 1) (b :: r)).1 : Nat) : Int) ≠ 0 := by omega
              clear ho hk0 hk1 he HERR HNX HST HE hfr hkc hb0 h35 hT HNM HLS hstp e1 e2 HNM2
              generalize (takeP st.p (i + 1) (b :: r)).2 = p2 at *
              generalize (takeP st.p (i + 1) (b :: r)).1 = er at *
              generalize Lib.trimLeftS (b :: r) bl2 = tl1 at *
              generalize ba (b :: r) = s0 at *
              go_wp2_with (first | (go_at_call 65; refine (unhide cO _).mono ?_; rintro e w2 ⟨rfl, rfl⟩) | (go_at_call 66; refine (unhide cF _).mono ?_; rintro e w3 ⟨rfl, rfl⟩) | (go_at_call 69; refine (unhide cN _ (unhide HB).size (unhide HP)).mono ?_; rintro e w4 ⟨v', ts', rfl, _, hb4⟩; have HD4 := hide ((unhide HD).later hb4); have HB4 := hide (bl_t (unhide HB) hb4); clear hb4))
              go_ret3
              exact ⟨_, vs, i + 1, er, rfl, unhide HB4, .inr ⟨unhide HF1, by rw [unhide HF2]; exact unhide HD4⟩⟩
    · have hltz : ¬ (i : Int) < (N : Int) := by omega
      have hpt : parseT t = st := by
        rw [unhide HPT, ← unhide HST, List.take_of_length_le (by have := unhide HN; omega)]
      have HE2 := hide (show (parseT t).err = none by rw [hpt]; exact unhide HE)
      by_cases hp : st.p.length = 0
      · have hpz : ¬ (0 : Int) < (st.p.length : Int) := by omega
        have HS2 := hide (show shut (parseT t) = st.all by rw [hpt]; unfold shut; rw [if_pos hp])
        clear hpt hp HST HE
        go_wp2_with fail
        go_ret3
        exact ⟨_, vs, 0, 0, rfl, unhide HB, .inl ⟨unhide HE2, rfl, rfl, by rw [unhide HS2]; exact unhide HD⟩⟩
      · have hpz : (0 : Int) < (st.p.length : Int) := by omega
        have HS2 := hide (show shut (parseT t) = st.all ++ [st.p] by rw [hpt]; unfold shut; rw [if_neg hp])
        clear hpt hp HST HE
        go_wp2_with (at_builtin; go_must (refine wpList_append_own _ rfl _ _ 24 rfl w.heap.size 39 i0 (.slice none 0 0) 1 24 Tryd.underlying24 hi hz0 hz1 hz2 rfl (by decide) _ _ _ rfl ((unhide HD).row.alloc _) ⟨_, 0, none⟩ 1 1 [.slice pa' st.p.length pc] rfl rfl (cell_one_new _ _ _) (by simp [Value.oneCell']) (by unfold maxLen; omega) (by omega) (by simp; omega) ?_); intro v2 w4 hown2 hgrow2 _; have HD2 := hide ((unhide HD).put (unhide HP) hown2 hgrow2); have HB2 := hide (((unhide HB).alloc hz (.cells #[.slice pa' st.p.length pc] 39)).grown hgrow2 (by simp; omega) (fun j e => ((unhide HD).row.lt j e).1)); obtain ⟨g2, cap2, cur2, rfl, -⟩ := slice_of hown2; clear hown2 hgrow2)
        go_ret3
        exact ⟨_, vs ++ [.slice pa' st.p.length pc], 0, 0, rfl, unhide HB2, .inl ⟨unhide HE2, rfl, rfl, by rw [unhide HS2]; exact unhide HD2⟩⟩
set_option maxRecDepth 100000 in
set_option maxHeartbeats 1000000 in
theorem rRead_long (t : Bs) (pa : Option Addr) (c : Nat) (w : World) (ht : 16777216 < t.length) :
    Calls Tryd.prog 52 #[.slice pa t.length c] w fun e w' => e = .returned (.tuple #[.slice none 0 0, .int .i64 0, .int .i64 2]) ∧ w' = w := by
  have hlz : (16777216 : Int) < (t.length : Int) := by omega
  go_enter Tryd.func52, Tryd.ntmps52
  go_wp2_with fail
  go_ret3
  exact ⟨rfl, rfl⟩
set_option maxHeartbeats 1000000 in
theorem rParse_any (t : Bs) (pa : Option Addr) (c : Nat) (w : World) (hc : t.length ≤ c) (hR : Rb w pa t) :
    Calls Tryd.prog 32 #[.slice pa t.length c] w fun e w' => ∃ v vs, e = .returned (.tuple #[v, .int .i64 (pOut t).1, .int .i64 (pOut t).2]) ∧ Below w.heap.size w w' ∧
      (((pOut t).2 ≠ 0 → v = .slice none 0 0) ∧ ((pOut t).2 = 0 → RD w.heap.size w' v (shut (parseT t)) vs)) := by
  by_cases hl : 16777216 < t.length
  · have hp : pOut t = (0, 2) := by unfold pOut; rw [if_pos hl]
    rw [hp]
    have c1 := hide (rRead_long t pa c w hl)
    clear hp hR
    go_enter Tryd.func32, Tryd.ntmps32
    go_wp2_with (go_at_call 52; refine (unhide c1).mono ?_; rintro e w1 ⟨rfl, rfl⟩)
    go_ret3
    exact ⟨_, [], rfl, Below.refl _ _, fun _ => rfl, fun h => absurd h (by decide)⟩
  · have c0 := rRead_any t pa c w (by omega) hc hR
    cases hx : (parseT t).err with
    | none =>
      have hp : pOut t = (0, 0) := by unfold pOut; rw [if_neg hl, hx]
      rw [hp]
      have c1 := hide (show Calls Tryd.prog 52 #[.slice pa t.length c] w fun e w' => ∃ v vs, e = .returned (.tuple #[v, .int .i64 0, .int .i64 0]) ∧ Below w.heap.size w w' ∧ RD w.heap.size w' v (shut (parseT t)) vs from c0.mono fun e w' ⟨v, vs, n, er, h1, h2, h3⟩ => by
        rcases h3 with ⟨_, rfl, rfl, h4⟩ | ⟨h4, _⟩
        · exact ⟨v, vs, h1, h2, h4⟩
        · rw [hx] at h4; cases h4)
      clear hp hR c0
      go_enter Tryd.func32, Tryd.ntmps32
      go_wp2_with (go_at_call 52; refine (unhide c1).mono ?_; rintro e w1 ⟨v, vs, rfl, hb, hd⟩; have HB := hide hb; have HD := hide hd; clear hb hd)
      go_ret3
      exact ⟨_, vs, rfl, unhide HB, fun h => absurd rfl h, fun _ => unhide HD⟩
    | some x =>
      obtain ⟨k, er⟩ := x
      have hp : pOut t = (k, er) := by unfold pOut; rw [if_neg hl, hx]
      have her := runL_eok (lnsOf t) k er hx
      rw [hp]
      have c1 := hide (show Calls Tryd.prog 52 #[.slice pa t.length c] w fun e w' => ∃ v, e = .returned (.tuple #[v, .int .i64 k, .int .i64 er]) ∧ Below w.heap.size w w' from c0.mono fun e w' ⟨v, vs, n, er2, h1, h2, h3⟩ => by
        rcases h3 with ⟨h4, _⟩ | ⟨h4, _⟩
        · rw [hx] at h4; cases h4
        · rw [hx] at h4
          cases h4
          exact ⟨v, h1, h2⟩)
      have hne : ¬ ((er : Int) = 0) := by omega
      clear hp hR c0
      go_enter Tryd.func32, Tryd.ntmps32
      go_wp2_with (go_at_call 52; refine (unhide c1).mono ?_; rintro e w1 ⟨v, rfl, hb⟩; have HB := hide hb; clear hb)
      go_ret3
      exact ⟨_, [], rfl, unhide HB, fun _ => rfl, fun h => absurd h (by show er ≠ 0; omega)⟩
end Go.Proofs.YtocjcbdkihbbiaaDoor
