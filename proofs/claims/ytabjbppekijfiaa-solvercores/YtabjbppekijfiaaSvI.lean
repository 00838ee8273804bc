import Derived.Test.YtabjbppekijfiaaSvH
namespace Go.Proofs.Ytabjbppekijfiaa
open Go.RowKit

/-- WHAT THE LAW HAS LAID. -/
structure LH (w : World) (pa va : Option Addr) (N vn : Nat) (ln : Nat → Nat) (L : Nat → Nat → Int) (v : Nat → Bool) (B cB gv cv : Nat) (g cp : Nat → Nat) (qa : Option Addr) (b2 : Nat) (W : World) : Prop where
  tw : Tw w.heap.size B N cB ln g cp L W
  hd : Rv W qa N (Hd g ln cp)
  mt : Mt b2 gv vn cv v W
  cl : Rr W pa N ln L
  va : Rt W va vn v
  bel : Below w.heap.size w W
theorem LH.later {w : World} {pa va : Option Addr} {N vn : Nat} {ln : Nat → Nat} {L : Nat → Nat → Int} {v : Nat → Bool} {B cB gv cv : Nat} {g cp : Nat → Nat} {qa : Option Addr} {b2 : Nat} {W W2 : World} (h : LH w pa va N vn ln L v B cB gv cv g cp qa b2 W) (hb : Below W.heap.size W W2) : LH w pa va N vn ln L v B cB gv cv g cp qa b2 W2 :=
  ⟨h.tw.later hb, h.hd.later hb, h.mt.later hb, h.cl.later hb, h.va.later hb, bl_t h.bel hb⟩
/-- VALUES THAT MAY BE WRITTEN. -/
def Mw (g n : Nat) (f : Nat → Bool) (W : World) : Prop := ∃ cur, W.heap[g]? = some (.cells cur 4 (0, 0)) ∧ ∀ k, k < n → cur[k]? = some (.bool (f k))
theorem Mw.later {g n : Nat} {f : Nat → Bool} {W W2 : World} (h : Mw g n f W) (hb : Below W.heap.size W W2) : Mw g n f W2 := by
  obtain ⟨cur, h1, h2⟩ := h
  exact ⟨cur, (hb.block _ (blk_lt h1)).trans h1, h2⟩
theorem Mw.rt {g n : Nat} {f : Nat → Bool} {W : World} (h : Mw g n f W) : Rt W (some ⟨g, 0, none⟩) n f := by
  obtain ⟨cur, h1, h2⟩ := h
  exact fun _ => ⟨g, 0, rfl, blk_lt h1, fun i hi => by rw [Nat.zero_add, (cell_blk h1 i).1]; exact h2 i hi⟩
theorem Mw.set {g n : Nat} {f : Nat → Bool} {W : World} (h : Mw g n f W) {k : Nat} (hk : k < n) (x : Bool) : Mw g n (fun j => if j = k then x else f j) (W.setCell ⟨g, k, none⟩ (.bool x)) := by
  obtain ⟨cur, h1, h2⟩ := h
  refine ⟨_, set_blk h1 k _, fun j hj => ?_⟩
  by_cases e : j = k
  · subst e
    have hlt := (Array.getElem?_eq_some_iff.1 (h2 j hj)).1
    simp [hlt]
  · simp only [e, if_false]
    rw [Array.getElem?_setIfInBounds_ne (fun q => e q.symm)]
    exact h2 j hj
theorem Wr.bset {base B N : Nat} {ln g cp : Nat → Nat} {L : Nat → Nat → Int} {W : World} (h : Wr base B N ln g cp L W) {q n : Nat} {f : Nat → Bool} (hq : Mw q n f W) (k : Nat) (u : Value) : Wr base B N ln g cp L (W.setCell ⟨q, k, none⟩ u) := by
  obtain ⟨cur, h1, h2⟩ := h.blk
  obtain ⟨c4, q1, _⟩ := hq
  refine ⟨⟨cur, (set_other _ _ _ _ _ (blk_ne (by decide) q1 h1)).trans h1, h2⟩, fun a ha => ?_, h.ge, h.ne⟩
  obtain ⟨c3, h5, h6⟩ := h.row a ha
  exact ⟨c3, (set_other _ _ _ _ _ (blk_ne (by decide) q1 h5)).trans h5, h6⟩
def flip (v : Nat → Bool) (i k : Nat) : Bool := if k < i then !v k else v k
set_option maxRecDepth 100000 in
set_option maxHeartbeats 8000000 in
theorem holds_walk (n : Int) (N vn : Nat) (ln : Nat → Nat) (L : Nat → Nat → Int) (v : Nat → Bool) (pa va : Option Addr) (c vc : Nat) (w : World) (hN : N * 24 ≤ 140737488351232) (hm : ∀ k, k < N → ln k * 8 ≤ 140737488351232) (hv : vn ≤ 140737488351232) (h1 : Rr w pa N ln L) (h2 : Rt w va vn v) :
    Calls Try.prog 7 #[.int .i64 n, .slice pa N c, .slice va vn vc] w fun e w' => e = .returned (.bool true) ∧ Below w.heap.size w w' := by
  have HM := hide hm
  have HM2 := hide (show ∀ k, k < N → ln k ≤ 17592186044416 from fun k hk => by have := hm k hk; omega)
  have HM3 := hide (show ∀ k, k < N → ln k ≤ 140737488355328 from fun k hk => by have := hm k hk; omega)
  have HC := hide h1
  have HV := hide h2
  have c1 := hide (twin_any N ln L pa c w hN hm h1)
  clear h1 h2 hm
  go_enter Try.func7, Try.ntmps7
  go_upto_region 2 with (go_at_call 14; refine (unhide c1).mono ?_; rintro x1 w1 ⟨B, cB, g, cp, rfl, htw, hb1⟩; have T1 := hide (And.intro htw hb1); clear htw hb1)
  go_upto_region 3 with (go_at_call 21; refine (headers_any N (Hd g ln cp) (fun _ => rfl) _ _ _ hN (unhide T1).1.hd).mono ?_; rintro x2 w2 ⟨qa, qc, rfl, hrv, hb2⟩; have T2 := hide (And.intro hrv hb2); clear hrv hb2)
  go_upto_region 4 with (go_at_call 22; refine (truths_any vn v _ _ _ hv (((unhide HV).later (unhide T1).2).later (unhide T2).2)).mono ?_; rintro x3 w3 ⟨gv, cv, rfl, hmt, hb3⟩; have HX := hide (show LH w pa va N vn ln L v B cB gv cv g cp qa w2.heap.size w3 from ⟨((unhide T1).1.later (unhide T2).2).later hb3, (unhide T2).1.later hb3, hmt, (((unhide HC).later (unhide T1).2).later (unhide T2).2).later hb3, (((unhide HV).later (unhide T1).2).later (unhide T2).2).later hb3, bl_t (bl_t (unhide T1).2 (unhide T2).2) hb3⟩); clear hmt hb3)
  have HGV := hide (show ∀ k, k < N → gv ≠ g k from fun k hk => by
    have a := ((unhide T1).1.row k hk).lt
    have b := (unhide T2).2.size
    have d := (unhide HX).mt.ge
    omega)
  have HZ := hide (bl_t (unhide T1).2 (unhide T2).2)
  clear T1 T2
  go_upto_region 5 with (go_at_call 23; refine (Holds_any n vn N ln L v _ _ _ _ _ (by omega) (by omega) (unhide HM3) (unhide HX).tw.rr (unhide HX).mt.rt).mono ?_; rintro x4 w4 ⟨rfl, hb4⟩; have HX4 := hide ((unhide HX).later hb4); clear hb4)
  go_upto_region 6 with (go_at_call 24; refine (rHolds_any n vn N ln L v _ _ _ _ _ (by omega) (by omega) (unhide HM3) (unhide HX4).cl (unhide HX4).va).mono ?_; rintro x5 w5 ⟨rfl, hb5⟩; have HX5 := hide ((unhide HX4).later hb5); clear hb5)
  clear HX HX4
  generalize hdA n vn N ln L v = ra at *
  generalize hdE n vn N ln L = re at *
  have er : (ra != ra) = false := by simp
  have ee : (re != re) = false := by simp
  go_upto_region 8 with (first | (go_at_call 25; refine (num_any _ _).mono ?_; rintro x6 w6 ⟨rfl, hw6⟩; rw [hw6]; clear hw6 w6) | (go_at_call 26; refine (untouched_any _ B N cB ln g cp L qa _ qc _ _ (by omega) (unhide HM2) (unhide HX5).tw (unhide HX5).hd (unhide HX5).cl).mono ?_; rintro x7 w7 ⟨rfl, hb7⟩; have HX7 := hide ((unhide HX5).later hb7); clear hb7) | (go_at_call 27; refine (stand_any _ gv vn cv v _ _ _ (by omega) (unhide HX7).mt (unhide HX7).va).mono ?_; rintro x8 w8 ⟨rfl, hb8⟩; have HX8 := hide ((unhide HX7).later hb8); clear hb8))
  clear HX5 HX7
  go_upto_region 9 with (go_at_call 28; refine (turned_any _ B N cB ln g cp L _ (by omega) (unhide HM2) (unhide HX8).tw.wr).mono ?_; rintro x9 w9 ⟨rfl, hwr, hb9, hot⟩; have HW9 := hide hwr; have HB9 := hide ((unhide HX8).bel.trans hb9); have HV9 := hide (show Mw gv vn v w9 from by obtain ⟨cur, q1, q2, _⟩ := (unhide HX8).mt.blk; exact ⟨cur, (hot gv (unhide HGV)).trans q1, q2⟩); clear hwr hb9 hot)
  have HGE := hide (show w.heap.size ≤ gv from by
    have a := (unhide HX8).mt.ge
    have b := (unhide HZ).size
    omega)
  clear HX8
  go_wp2_with fail
  go_loopg [14] vn (fun g1 vi wr => ∃ (i : Nat), vi = .int .i64 i ∧ i ≤ vn ∧ vn - i ≤ g1 ∧ Hid (Wr w.heap.size B N ln g cp (fun a b => tn (L a b)) wr) ∧ Hid (Below w.heap.size w wr) ∧ Hid (Mw gv vn (flip v i) wr))
  case atStart => exact ⟨0, by go_num, by omega, by omega, HW9, HB9, HV9⟩
  case round =>
    clear HW9 HB9 HV9
    obtain ⟨i, rfl, hi, hg1, HW, HB, HV9⟩ := hrel
    by_cases hlt : (i : Int) < (vn : Int) / 2
    · have hiv : i < vn := by omega
      obtain ⟨cur, q1, q2⟩ := unhide HV9
      have ci := (cell_blk q1 i).1.trans (q2 i hiv)
      have fi := (cell_blk q1 i).2
      rw [show flip v i i = v i from if_neg (by omega)] at ci
      have HV2 := hide (show Mw gv vn (flip v (i + 1)) (wr.setCell ⟨gv, i, none⟩ (.bool (!v i))) from by
        obtain ⟨c2, s1, s2⟩ := (unhide HV9).set hiv (!v i)
        refine ⟨c2, s1, fun k hk => ?_⟩
        rw [s2 k hk]
        show some (Value.bool (if k = i then !v i else flip v i k)) = some (Value.bool (flip v (i + 1) k))
        unfold flip
        by_cases e : k = i
        · subst e; rw [if_pos rfl, if_pos (by omega)]
        · rw [if_neg e]
          by_cases e2 : k < i
          · rw [if_pos e2, if_pos (by omega)]
          · rw [if_neg e2, if_neg (by omega)])
      have HW2 := hide ((unhide HW).bset (unhide HV9) i (.bool (!v i)))
      have HB2 := hide ((unhide HB).setCell (p := ⟨gv, i, none⟩) (unhide HGE) (.bool (!v i)))
      clear q1 q2 HW HV9 HB
      generalize v i = vb at *
      go_wp2_with fail
      generalize wr.setCell ⟨gv, i, none⟩ (.bool (!vb)) = w10 at *
      go_wp2_with fail
      go_roundg (vn - (i + 1))
      case measure => omega
      case rel => exact ⟨i + 1, by go_num, by omega, by omega, HW2, HB2, HV2⟩
    · have c2 := hide (fun w' (h : Rr w' (some ⟨B, 0, none⟩) N ln (fun a b => tn (L a b))) => twin_any N ln (fun a b => tn (L a b)) _ cB w' hN (unhide HM) h)
      obtain ⟨i0, hi0, hz0, hz1, hz2⟩ := info_parts infoB
      have r8 := hide (fun (w' : World) (h : Mw gv vn (flip v i) w') => app1 (P := Try.prog) 27 27 4 i0 (.bool false) 1 1 Try.underlying27 hi0 hz0 hz1 hz2 rfl (by decide) vn (vl vn (bv (flip v i))) (by simp [vl]) (vl_one _ _ fun _ => rfl) (by omega) (by unfold maxLen; omega) (some ⟨gv, 0, none⟩) cv w' (Rv.src h.rt))
      clear hi0 hz0 hz1 hz2
      go_upto_region 14 with (first | (go_at_call 14; refine (unhide c2 _ (unhide HW).rr).mono ?_; rintro x10 w10 ⟨B2, cB2, g2, cp2, rfl, htw, hb10⟩; obtain ⟨v9, W9, r9, ho9, hb9, _⟩ := unhide r8 w10 ((unhide HV9).later hb10); obtain ⟨fa, fc, hv9⟩ := owns_form ho9; subst hv9; have T9 := hide (show Rr W9 (some ⟨B2, 0, none⟩) N ln (fun a b => tn (L a b)) ∧ Rt W9 fa vn (flip v i) ∧ Below wr.heap.size wr W9 from ⟨htw.rr.later hb9, Rv.of_owns ho9, bl_t hb10 hb9⟩); clear htw hb10 ho9 hb9) | ((with_reducible refine wpList_append_run (o := { dst := some 84, op := Op.call { callee := Callee.builtin Builtin.append, args := #[Operand.tmp 82, Operand.tmp 83], argTypes := #[27, 27] }, type := 27, pos := "law.go:185", after := #[{ on := 3, ground := Ground.data }, { on := 4, ground := Ground.data }, { on := 2, ground := Ground.chain }], guard := none }) ?m1a (.tmp 82) (.tmp 83) 27 ?m1b _ _ ?m1c ?m1d r9 ?m1e); (case m1a => rfl); (case m1b => rfl); (case m1c => rfl); (case m1d => rfl)) | (go_at_call 24; refine (rHolds_any n vn N ln (fun a b => tn (L a b)) (flip v i) _ _ _ _ _ (by omega) (by omega) (unhide HM3) (unhide T9).1 (unhide T9).2.1).mono ?_; rintro x11 w11 ⟨rfl, hb11⟩; have T11 := hide (bl_t (unhide T9).2.2 hb11); clear hb11))
      have c3 := hide (Holds_any n vn N ln (fun a b => tn (L a b)) (flip v i) (some ⟨B, 0, none⟩) (some ⟨gv, 0, none⟩) cB cv w11 (by omega) (by omega) (unhide HM3) ((unhide HW).rr.later (unhide T11)) ((unhide HV9).rt.later (unhide T11)))
      generalize hdA n vn N ln (fun a b => tn (L a b)) (flip v i) = za at *
      generalize hdE n vn N ln (fun a b => tn (L a b)) = ze at *
      have ez : (za == za) = true := by simp
      have ef : (ze == ze) = true := by simp
      go_wp2_with (first | (go_at_call 23; refine (unhide c3).mono ?_; rintro x12 w12 ⟨rfl, hb12⟩; have T12 := hide (bl_t (unhide T11) hb12); clear hb12) | (go_at_call 25; refine (num_any _ _).mono ?_; rintro x13 w13 ⟨rfl, hw13⟩; rw [hw13]; clear hw13 w13))
      go_ret
      exact ⟨rfl, bl_t (unhide HB) (unhide T12)⟩
end Go.Proofs.Ytabjbppekijfiaa
