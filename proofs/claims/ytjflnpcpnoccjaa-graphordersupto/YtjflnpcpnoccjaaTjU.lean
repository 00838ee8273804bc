import Derived.Test.YtjflnpcpnoccjaaTjT
namespace Go.Proofs.Ytjflnpcpnoccjaa
open Go.RowKit

/-- The nodes of a part, by their places. -/
noncomputable def px (N : Nat) (ln : Nat → Nat) (L : Nat → Nat → Int) (p j : Nat) : Nat := (ptL (pn N ln L) N p).getD j 0
noncomputable def pm (N : Nat) (ln : Nat → Nat) (L : Nat → Nat → Int) (p : Nat) : Nat := (ptL (pn N ln L) N p).length
theorem px_lt {N : Nat} {ln : Nat → Nat} {L : Nat → Nat → Int} {p j : Nat} (h : j < pm N ln L p) : px N ln L p j < N ∧ pn N ln L (px N ln L p j) = p := by
  unfold px pm at *
  have h1 : (ptL (pn N ln L) N p)[j]? = some ((ptL (pn N ln L) N p).getD j 0) := by simp [h]
  exact ptL_lt (List.mem_of_getElem? h1)
theorem pm_le (N : Nat) (ln : Nat → Nat) (L : Nat → Nat → Int) (p : Nat) : pm N ln L p ≤ N := by
  have := List.length_filter_le (fun i => pn N ln L i == p) (List.range N)
  rw [List.length_range] at this
  exact this
theorem px_ex {N : Nat} {ln : Nat → Nat} {L : Nat → Nat → Int} {x : Nat} (h : x < N) : ∃ j, j < pm N ln L (pn N ln L x) ∧ px N ln L (pn N ln L x) j = x := by
  have h1 : x ∈ ptL (pn N ln L) N (pn N ln L x) := by unfold ptL; simp [h]
  obtain ⟨j, hj, e⟩ := List.getElem_of_mem h1
  exact ⟨j, hj, by unfold px; simp [hj, e]⟩
/-- Whether a node of the one part needs one of the other. -/
noncomputable def bt (N : Nat) (ln : Nat → Nat) (L : Nat → Nat → Int) (p q : Nat) : Bool := !bAll (pm N ln L p) fun a => !(!bAll (pm N ln L q) fun b => !ebB (ln (px N ln L p a)) (L (px N ln L p a)) (px N ln L q b : Int))
theorem bt_iff (N : Nat) (ln : Nat → Nat) (L : Nat → Nat → Int) (p q : Nat) : bt N ln L p q = true ↔ ∃ x y, x < N ∧ y < N ∧ pn N ln L x = p ∧ pn N ln L y = q ∧ Eg N ln L x y := by
  unfold bt
  rw [nall_iff]
  constructor
  · rintro ⟨a, ha, h⟩
    obtain ⟨b, hb, h2⟩ := (nall_iff _ _).1 h
    obtain ⟨i, hi, e⟩ := (ebB_iff _ _ _).1 h2
    have h3 := px_lt ha
    have h4 := px_lt hb
    exact ⟨_, _, h3.1, h4.1, h3.2, h4.2, h3.1, i, hi, e⟩
  · rintro ⟨x, y, hx, hy, rfl, rfl, _, i, hi, e⟩
    obtain ⟨a, ha, ea⟩ := px_ex (ln := ln) (L := L) hx
    obtain ⟨b, hb, eb⟩ := px_ex (ln := ln) (L := L) hy
    refine ⟨a, ha, (nall_iff _ _).2 ⟨b, hb, (ebB_iff _ _ _).2 ⟨i, ?_, ?_⟩⟩⟩
    · rw [ea]; exact hi
    · rw [ea, eb]; exact e
/-- The parts that a part needs, among the first q. -/
noncomputable def cL (N : Nat) (ln : Nat → Nat) (L : Nat → Nat → Int) (p k : Nat) : List Nat := (List.range k).filter fun q => q != p && bt N ln L p q
theorem cL_yes {N : Nat} {ln : Nat → Nat} {L : Nat → Nat → Int} {p q : Nat} (h1 : q ≠ p) (h2 : bt N ln L p q = true) : cL N ln L p (q + 1) = cL N ln L p q ++ [q] := by
  unfold cL
  rw [List.range_succ, List.filter_append]
  simp [h1, h2]
theorem cL_no {N : Nat} {ln : Nat → Nat} {L : Nat → Nat → Int} {p q : Nat} (h : q = p ∨ bt N ln L p q = false) : cL N ln L p (q + 1) = cL N ln L p q := by
  unfold cL
  rw [List.range_succ, List.filter_append]
  rcases h with h | h <;> simp [h]
theorem cL_len (N : Nat) (ln : Nat → Nat) (L : Nat → Nat → Int) (p k : Nat) : (cL N ln L p k).length ≤ k := by
  have := List.length_filter_le (fun q => q != p && bt N ln L p q) (List.range k)
  rw [List.length_range] at this
  exact this
noncomputable def cdS (N : Nat) (ln : Nat → Nat) (L : Nat → Nat → Int) (P p q j : Nat) : List Nat := if j < p then cL N ln L j P else if j = p then cL N ln L p q else []
theorem cdS_at (N : Nat) (ln : Nat → Nat) (L : Nat → Nat → Int) (P p q : Nat) : cdS N ln L P p q p = cL N ln L p q := by
  unfold cdS
  rw [if_neg (Nat.lt_irrefl p), if_pos rfl]
theorem cdS_yes {N : Nat} {ln : Nat → Nat} {L : Nat → Nat → Int} {P p q : Nat} (h1 : q ≠ p) (h2 : bt N ln L p q = true) : upd (cdS N ln L P p q) p (cdS N ln L P p q p ++ [q]) = cdS N ln L P p (q + 1) := by
  funext j
  unfold upd
  rw [cdS_at]
  by_cases e : j = p
  · subst e
    rw [if_pos rfl, cdS_at, cL_yes h1 h2]
  · rw [if_neg e]
    unfold cdS
    rw [if_neg e, if_neg e]
theorem cdS_no {N : Nat} {ln : Nat → Nat} {L : Nat → Nat → Int} {P p q : Nat} (h : q = p ∨ bt N ln L p q = false) : cdS N ln L P p q = cdS N ln L P p (q + 1) := by
  funext j
  unfold cdS
  rw [cL_no h]
theorem cdS_row (N : Nat) (ln : Nat → Nat) (L : Nat → Nat → Int) (P p : Nat) : cdS N ln L P p P = cdS N ln L P (p + 1) 0 := by
  funext j
  unfold cdS
  by_cases e : j < p
  · rw [if_pos e, if_pos (by omega)]
  · rw [if_neg e]
    by_cases e2 : j = p
    · subst e2
      rw [if_pos rfl, if_pos (by omega)]
    · rw [if_neg e2, if_neg (by omega)]
      split
      · rfl
      · rfl
noncomputable def cdL (N : Nat) (ln : Nat → Nat) (L : Nat → Nat → Int) (p : Nat) : List Nat := cL N ln L p (pc N ln L)
set_option maxRecDepth 100000 in
set_option maxHeartbeats 8000000 in
theorem rCondense_any {N : Nat} {ln : Nat → Nat} {L : Nat → Nat → Int} {na : Option Addr} {nc : Nat} {w : World} (hN : N ≤ 1048576) (hln : ∀ k, k < N → ln k ≤ 1048576) (hR : Rr w na N ln L) :
    Calls Try.prog 34 #[.slice na N nc] w fun x w' => ∃ ga gc, x = .returned (.tuple #[.slice ga (ptN N ln L) gc, .int .i64 (ptE N ln L)]) ∧ Rq w.heap.size w'.heap.size w' ga (ptN N ln L) (fun p => (cdL N ln L p).length) (fun p j => (((cdL N ln L p).getD j 0 : Nat) : Int)) ∧ Below w.heap.size w w' := by
  have c1 := hide (rParts_any (nc := nc) hN hln hR)
  unfold ptN ptE at *
  cases hr : rgt N ln L with
  | false =>
    rw [hr] at c1
    rw [if_neg (by simp), if_neg (by simp)] at *
    clear hR hln
    go_enter Try.func34, Try.ntmps34
    go_wp2_with (go_at_call 31; refine (unhide c1).mono ?_; rintro x1 w1 ⟨ga, gc, rfl, q1, q2⟩; have HB := hide q2; clear q1 q2)
    go_ret2
    exact ⟨none, 0, rfl, Rq.none _ _ _ _ _ _, unhide HB⟩
  | true =>
    rw [hr] at c1
    rw [if_pos rfl, if_pos rfl] at *
    obtain ⟨i0, hi0, hz0, hz1, hz2⟩ := info_parts infoI
    have hpc := pc_le N ln L
    have HLN := hide hln
    have HR := hide hR
    have HCD := hide (show ∀ p, cdS N ln L (pc N ln L) (pc N ln L) 0 p = cdL N ln L p ∨ pc N ln L ≤ p from fun p => by
      by_cases e : p < pc N ln L
      · left; unfold cdS cdL; rw [if_pos e]
      · right; omega)
    clear hR hln hr
    generalize hpp : pc N ln L = P at *
    clear hpp
    have mk := makeL P (by omega)
    go_enter Try.func34, Try.ntmps34
    go_wp2_with (go_at_call 31; refine (unhide c1).mono ?_; rintro x1 w1 ⟨va, vc, rfl, q1, q2⟩; have HRR := hide q1; have HB1 := hide q2; clear q1 q2)
    clear c1 mk
    obtain ⟨W0, hW0⟩ : ∃ W, W = w1.alloc (.cells (madeCells #[.slice none 0 0] P) 23) := ⟨_, rfl⟩
    rw [← hW0]
    have HG0 := hide (show Gs (w1.heap.size + 1) P w1.heap.size (cdS N ln L P 0 0) (fun _ => none) (fun _ => 0) W0 from by
      have hnil : ∀ j, cdS N ln L P 0 0 j = [] := fun j => by
        unfold cdS
        rw [if_neg (by omega)]
        split <;> rfl
      refine ⟨?_, fun k _ => by rw [hnil]; exact World.ownsRow_nil _ _ _ _, fun i j _ _ _ b hb => (by cases hb), by omega, by rw [hW0, World.size_alloc]; omega⟩
      rw [hW0]
      exact ⟨_, heap_new _ _, fun k hk => by rw [made_at _ _ _ hk]; dsimp only; rw [hnil]; rfl⟩)
    have HB0 := hide (show Below w1.heap.size w1 W0 from by rw [hW0]; exact al w1 _)
    obtain ⟨R, hRR⟩ : ∃ x, x = w1.heap.size := ⟨_, rfl⟩
    rw [← hRR]
    rw [← hRR] at HG0
    have HDG := hide (show w1.heap.size ≤ R from by omega)
    clear hW0 hRR
    go_loopg [7, 8, 9] P (fun g1 vi _ _ wr => ∃ (p : Nat) (ga : Nat → Option Addr) (gc : Nat → Nat), vi = .int .i64 p ∧ p ≤ P ∧ P - p ≤ g1 ∧ Hid (Gs (R + 1) P R (cdS N ln L P p 0) ga gc wr) ∧ Hid (Below w1.heap.size w1 wr))
    case atStart => exact ⟨0, _, _, by go_num, by omega, by omega, HG0, HB0⟩
    case round =>
      clear HG0 HB0
      obtain ⟨p, ga, gc, rfl, hp, hg1, HG, HB⟩ := hrel
      by_cases hlt : p < P
      · have hlt2 : (p : Int) < (P : Int) := by omega
        go_wp2_with fail
        go_loopg [8, 9] P (fun g2 vi _ wr => ∃ (q : Nat) (ga : Nat → Option Addr) (gc : Nat → Nat), vi = .int .i64 q ∧ q ≤ P ∧ P - q ≤ g2 ∧ Hid (Gs (R + 1) P R (cdS N ln L P p q) ga gc wr) ∧ Hid (Below w1.heap.size w1 wr))
        case atStart => exact ⟨0, ga, gc, by go_num, by omega, by omega, HG, HB⟩
        case round =>
          clear HG HB ga gc
          obtain ⟨q, ga, gc, rfl, hq, hg2, HG, HB⟩ := hrel
          by_cases hql : q < P
          · have hql2 : (q : Int) < (P : Int) := by omega
            by_cases hpq : q = p
            · subst hpq
              have HG2 := hide (show Gs (R + 1) P R (cdS N ln L P q (q + 1)) ga gc wr from by rw [← cdS_no (.inl rfl)]; exact unhide HG)
              clear HG
              go_wp2_with fail
              go_roundg (P - (q + 1))
              case measure => omega
              case rel => exact ⟨q + 1, ga, gc, by go_num, by omega, by omega, HG2, HB⟩
            · obtain ⟨rb, ro, ca, cc, e1, hrow1⟩ := (unhide HRR).rr.row hlt
              obtain ⟨rb2, ro2, ca2, cc2, e2, hrow2⟩ := (unhide HRR).rr.row hql
              rw [e1] at e2
              injection e2 with e2
              injection e2 with e2 e3 _
              subst e2
              subst e3
              subst e1
              obtain ⟨r1, t1⟩ := hrow1 wr (unhide HB)
              obtain ⟨r2, t2⟩ := hrow2 wr (unhide HB)
              have r1' : wr.cell? ⟨rb, ro + p, none⟩ = some (.slice ca (pm N ln L p) cc) := r1
              have r2' : wr.cell? ⟨rb, ro + q, none⟩ = some (.slice ca2 (pm N ln L q) cc2) := r2
              have t1' : Ri wr ca (pm N ln L p) (fun j => (px N ln L p j : Int)) := t1
              have t2' : Ri wr ca2 (pm N ln L q) (fun j => (px N ln L q j : Int)) := t2
              have cB := hide (fun (t : Nat) => show Calls Try.prog 58 #[.slice na N nc, .slice ca (pm N ln L p) cc, .slice ca2 (pm N ln L q) cc2] (wr.drewN t) fun x w' => x = .returned (.bool (bt N ln L p q)) ∧ Dr (wr.drewN t) w' from rbetween_any hN (unhide HLN) ((unhide HR).later (bl_t (bl_t (unhide HB1) (unhide HB)) (bl_drewN wr t))) (Nat.le_trans (pm_le N ln L p) hN) (Nat.le_trans (pm_le N ln L q) hN) (fun i hi => (px_lt hi).1) (t1'.later (bl_drewN wr t)) (t2'.later (bl_drewN wr t)))
              have hne : ((p : Int) != (q : Int)) = true := by
                simp
                omega
              clear hrow1 hrow2 r1 r2 t1 t2 t1' t2'
              generalize pm N ln L p = mp at *
              generalize pm N ln L q = mq at *
              go_upto_region 12 with fail
              cases hb : bt N ln L p q with
              | false =>
                rw [hb] at cB
                have HG2 := hide (show Gs (R + 1) P R (cdS N ln L P p (q + 1)) ga gc wr from by rw [← cdS_no (.inr hb)]; exact unhide HG)
                clear hb HG
                go_quiet (first | (go_at_call 58; refine (unhide cB _).mono ?_; rintro e w'' ⟨rfl, t, rfl⟩; exact ⟨rfl, _, by rw [World.drewN_drewN]⟩))
                have HB2 := hide (bl_t (unhide HB) (bl_drewN wr nq))
                have HG3 := hide ((unhide HG2).later (bl_drewN wr nq))
                clear HG2 HB r1' r2' cB
                generalize wr.drewN nq = W2 at *
                go_wp2_with fail
                go_roundg (P - (q + 1))
                case measure => omega
                case rel => exact ⟨q + 1, ga, gc, by go_num, by omega, by omega, HG3, HB2⟩
              | true =>
                rw [hb] at cB
                have HYS := hide (cdS_yes (P := P) hpq hb)
                have hlen : (cdS N ln L P p q p).length ≤ q := by rw [cdS_at]; exact cL_len N ln L p q
                clear hb
                go_quiet (first | (go_at_call 58; refine (unhide cB _).mono ?_; rintro e w'' ⟨rfl, t, rfl⟩; exact ⟨rfl, _, by rw [World.drewN_drewN]⟩))
                have HB2 := hide (bl_t (unhide HB) (bl_drewN wr nq))
                have HG3 := hide ((unhide HG).later (bl_drewN wr nq))
                clear HG HB r1' r2' cB
                generalize wr.drewN nq = W2 at *
                obtain ⟨cl, _⟩ := (unhide HG3).row.cell hlt
                have cl' : W2.cell? ⟨R, p, none⟩ = some (.slice (ga p) (cdS N ln L P p q p).length (gc p)) := cl
                have hsz := (unhide HG3).low.2
                have HOW := hide (show (W2.alloc (.cells #[.int .i64 (q : Int)] 3)).ownsRow (R + 1) 3 1 (.slice (ga p) (cdS N ln L P p q p).length (gc p)) (cdS N ln L P p q p).length (tV (nI (cdS N ln L P p q p))) from ((unhide HG3).own p hlt).alloc _)
                have HPT := hide (fun (w9 : World) (g c : Nat) (h1 : w9.ownsRow (R + 1) 3 1 (.slice (some ⟨g, 0, none⟩) ((cdS N ln L P p q p).length + 1) c) ((cdS N ln L P p q p).length + 1) (tV (nI (cdS N ln L P p q p)) ++ [.int .i64 (q : Int)])) (h2 : (W2.alloc (.cells #[.int .i64 (q : Int)] 3)).grownBy w9 (Value.slice (ga p) (cdS N ln L P p q p).length (gc p)).ownBlock) (h3 : (Value.slice (ga p) (cdS N ln L P p q p).length (gc p)).ownBlock = some g ∨ g = (W2.alloc (.cells #[.int .i64 (q : Int)] 3)).heap.size) => show (∃ old, w9.cell? ⟨R, p, none⟩ = some old) ∧ w9.frozen? ⟨R, p, none⟩ = false ∧ Gs (R + 1) P R (cdS N ln L P p (q + 1)) (upd ga p (some ⟨g, 0, none⟩)) (upd gc p c) (w9.setCell ⟨R, p, none⟩ (.slice (some ⟨g, 0, none⟩) ((cdS N ln L P p q p).length + 1) c)) ∧ Below w1.heap.size w1 (w9.setCell ⟨R, p, none⟩ (.slice (some ⟨g, 0, none⟩) ((cdS N ln L P p q p).length + 1) c)) from by
                  have hG := (unhide HG3).later (al W2 (.cells #[.int .i64 (q : Int)] 3))
                  have hrow : ∀ j, (Value.slice (ga p) (cdS N ln L P p q p).length (gc p)).ownBlock = some j → R + 1 ≤ j := fun j e => ((hG.own p hlt).lt j e).1
                  have h5 := hG.row.same (h2.block R hG.row.lt (fun e => by have := hrow R e.symm; omega))
                  refine ⟨⟨_, (h5.cell hlt).1⟩, (h5.cell hlt).2, ?_, ?_⟩
                  · rw [← unhide HYS]
                    exact hG.put hlt h1 h2 (h3.imp id fun e => by rw [e]; exact Nat.le_refl _)
                  · refine Below.setCell (p := ⟨R, p, none⟩) ?_ (unhide HDG) _
                    exact (bl_t (unhide HB2) (al W2 _)).grown h2 (by rw [World.size_alloc]; have := (unhide HB2).size; omega) (fun j e => by have := hrow j e; have := unhide HDG; omega))
                clear cl HG3
                generalize tV (nI (cdS N ln L P p q p)) = xs at *
                generalize (cdS N ln L P p q p).length = m at *
                generalize ga p = gap at *
                generalize gc p = gcp at *
                go_wp2_with (at_builtin; go_must (refine wpList_append_lies _ rfl _ _ 23 rfl (R + 1) 3 i0 (.int .i64 0) 1 8 Try.underlying23 hi0 hz0 hz1 hz2 rfl (by decide) (.slice gap m gcp) m xs rfl (unhide HOW) ⟨W2.heap.size, 0, none⟩ 1 1 [.int .i64 (q : Int)] rfl rfl (cell_one_new _ _ _) (by simp [Value.oneCell']) (by decide) (by unfold maxLen; omega) (by omega) (by simp; omega) _ rfl ?_); intro gg c9 w9 hown hgrow hat _; obtain ⟨⟨old, co⟩, fo9, hg9, hb9⟩ := unhide HPT w9 gg c9 hown hgrow hat; have HG9 := hide hg9; have HB9 := hide hb9; clear hown hgrow hat hg9 hb9)
                go_roundg (P - (q + 1))
                case measure => omega
                case rel => exact ⟨q + 1, _, _, by go_num, by omega, by omega, HG9, HB9⟩
          · obtain rfl : q = P := by omega
            have HG2 := hide (show Gs (R + 1) q R (cdS N ln L q (p + 1) 0) ga gc wr from by rw [← cdS_row]; exact unhide HG)
            clear HG
            go_wp2_with fail
            go_roundg (q - (p + 1))
            case measure => omega
            case rel => exact ⟨p + 1, ga, gc, by go_num, by omega, by omega, HG2, HB⟩
      · obtain rfl : p = P := by omega
        have HX := hide (show Rq w.heap.size wr.heap.size wr (some ⟨R, 0, none⟩) p (fun k => (cdL N ln L k).length) (fun k j => (((cdL N ln L k).getD j 0 : Nat) : Int)) from by
          obtain ⟨ra, rc, r1, r2⟩ := (unhide HG).rq.low (lo2 := w.heap.size) (by have := unhide HDG; have := (unhide HB1).size; omega)
          refine ⟨ra, rc, fun h0 => ?_, fun k hk => ?_⟩
          · obtain ⟨b, o, e, l1, l2, l3, c⟩ := r1 h0
            refine ⟨b, o, e, l1, l2, l3, fun i hi => ?_⟩
            rw [c i hi]
            rcases unhide HCD i with e2 | e2
            · dsimp only; rw [e2]
            · omega
          · have := r2 k hk
            rcases unhide HCD k with e2 | e2
            · dsimp only at this ⊢; rw [e2] at this; exact this
            · omega)
        clear HG
        go_wp2_with fail
        go_ret2
        exact ⟨_, p, rfl, unhide HX, bl_t (unhide HB1) (unhide HB)⟩
end Go.Proofs.Ytjflnpcpnoccjaa
