import Derived.Test.YtabjbppekijfiaaVsN
namespace Go.Proofs.Ytabjbppekijfiaa
open Go.RowKit

theorem uV_len (tu : List (Nat × Nat)) : (uV tu).length = tu.length * 2 := by
  induction tu with
  | nil => rfl
  | cons a r ih => simp [uV] at ih ⊢; omega
theorem tV_at (tr : List Int) (k : Nat) (h : k < tr.length) : (tV tr)[k]? = some (.int .i64 tr[k]) := by simp [tV, h]
theorem uV_take (tu : List (Nat × Nat)) (t : Nat × Nat) : (uV (tu ++ [t])).take (tu.length * 2) = uV tu := by
  rw [uV_snoc, ← uV_len, List.take_left]
theorem uV_last (tu : List (Nat × Nat)) (t : Nat × Nat) : (uV (tu ++ [t]))[tu.length * 2]? = some (.int .i64 t.1) ∧ (uV (tu ++ [t]))[tu.length * 2 + 1]? = some (.int .i64 t.2) := by
  rw [uV_snoc, ← uV_len]
  constructor
  · simp
  · rw [List.getElem?_append_right (by omega)]
    simp
set_option maxRecDepth 100000 in
set_option maxHeartbeats 4000000 in
/-- NO DECISION IS LEFT. -/
theorem back_none {P : Pb} {w0 : World} {bb kb sb vb lo B c : Nat} {ca qa : Option Addr} {cc qc : Nat} {s : Sx} {tv uv : Value} {w : World} (h : Sm P w0 bb kb sb vb lo B c ca qa cc qc s.tr s tv uv w) (hu : s.tu = []) :
    Calls Try.prog 61 #[.pointer (some ⟨sb, 0, none⟩)] w fun x w' => x = .returned (.bool false) ∧ Below w.heap.size w w' := by
  obtain ⟨ua, uc, huv⟩ := owns_form h.trn
  subst huv
  obtain ⟨_, _, _, _, _, c5, _⟩ := h.cells
  rw [hu] at c5
  clear h
  go_enter Try.func61, Try.ntmps61
  go_wp2
  go_ret
  exact ⟨rfl, Below.refl _ _⟩
theorem nd_mid {tr : List Int} (h : Nd tr) (p j : Nat) : Nd (tr.take p ++ tr.drop (p + j)) := by
  unfold Nd at *
  refine h.sublist (List.Sublist.map _ ?_)
  conv => rhs; rw [← List.take_append_drop p tr]
  refine List.Sublist.append (List.Sublist.refl _) ?_
  rw [← List.drop_drop]
  exact List.drop_sublist _ _
/-- The search, and the last decision taken out. -/
structure Bq (P : Pb) (w0 : World) (bb kb sb vb lo B c : Nat) (ca qa : Option Addr) (cc qc : Nat) (lb tp tk : Nat) (vr : List Int) (s : Sx) (tv uv : Value) (W : World) : Prop where
  sm : Sm P w0 bb kb sb vb lo B c ca qa cc qc vr s tv uv W
  lst : W.heap[lb]? = some (.cells #[.int .i64 tp, .int .i64 tk] 107 (0, 0))
  low : lo ≤ W.heap.size
theorem Bq.later {P : Pb} {w0 : World} {bb kb sb vb lo B c : Nat} {ca qa : Option Addr} {cc qc : Nat} {lb tp tk : Nat} {vr : List Int} {s : Sx} {tv uv : Value} {W W2 : World} (h : Bq P w0 bb kb sb vb lo B c ca qa cc qc lb tp tk vr s tv uv W) (hb : Below W.heap.size W W2) : Bq P w0 bb kb sb vb lo B c ca qa cc qc lb tp tk vr s tv uv W2 :=
  ⟨h.sm.later hb, (hb.block _ (blk_lt h.lst)).trans h.lst, Nat.le_trans h.low hb.size⟩
theorem Bq.sets {P : Pb} {w0 : World} {bb kb sb vb lo B c : Nat} {ca qa : Option Addr} {cc qc : Nat} {lb tp tk : Nat} {vr : List Int} {s : Sx} {tv uv : Value} {W : World} (h : Bq P w0 bb kb sb vb lo B c ca qa cc qc lb tp tk vr s tv uv W) {j : Nat} {x : Value} {tv2 uv2 : Value} {s2 : Sx}
    (hj : (#[.slice ca P.N cc, .slice qa P.m qc, .int .i64 s.lk, .slice (some ⟨vb, 0, none⟩) P.n P.n, tv, uv] : Array Value).setIfInBounds j x = #[.slice ca P.N cc, .slice qa P.m qc, .int .i64 s2.lk, .slice (some ⟨vb, 0, none⟩) P.n P.n, tv2, uv2])
    (ht : W.ownsRow lo 3 1 tv2 s2.tr.length (tV s2.tr)) (hu : W.ownsRow lo 107 2 uv2 s2.tu.length (uV s2.tu)) : Bq P w0 bb kb sb vb lo B c ca qa cc qc lb tp tk vr s2 tv2 uv2 (W.setCell ⟨sb, j, none⟩ x) :=
  ⟨h.sm.sets hj ht hu, (set_other _ _ _ _ _ (blk_ne (by decide) h.sm.str h.lst)).trans h.lst, by rw [set_size]; exact h.low⟩
theorem Bq.setv {P : Pb} {w0 : World} {bb kb sb vb lo B c : Nat} {ca qa : Option Addr} {cc qc : Nat} {lb tp tk : Nat} {vr : List Int} {s : Sx} {tv uv : Value} {W : World} (h : Bq P w0 bb kb sb vb lo B c ca qa cc qc lb tp tk vr s tv uv W) (tr2 : List Int) {v : Nat} (hv : v < P.n) (x : Int) (hx : ∀ u, u < P.n → vt tr2 u = if u = v then x else vt vr u) : Bq P w0 bb kb sb vb lo B c ca qa cc qc lb tp tk tr2 s tv uv (W.setCell ⟨vb, v, none⟩ (.int .i8 x)) := by
  obtain ⟨cur, v1, _⟩ := h.sm.val
  exact ⟨h.sm.setv tr2 hv x hx, (set_other _ _ _ _ _ (blk_ne (by decide) v1 h.lst)).trans h.lst, by rw [set_size]; exact h.low⟩
set_option maxRecDepth 100000 in
set_option maxHeartbeats 4000000 in
/-- THE SECOND WAY OF THE LAST DECISION. -/
theorem back_some {P : Pb} (hP : P.Ok) {w0 : World} {bb kb sb vb lo B c : Nat} {ca qa : Option Addr} {cc qc : Nat} {s : Sx} {tv uv : Value} {w : World} (h : Sm P w0 bb kb sb vb lo B c ca qa cc qc s.tr s tv uv w) (hI : Iv P s) (hlo : lo ≤ w.heap.size) {tu : List (Nat × Nat)} {t : Nat × Nat} (hu : s.tu = tu ++ [t]) :
    Calls Try.prog 61 #[.pointer (some ⟨sb, 0, none⟩)] w fun x w' => x = .returned (.bool true) ∧ lo ≤ w'.heap.size ∧ ∃ tv' uv', Sm P w0 bb kb sb vb lo B c ca qa cc qc (s.tr.take t.1 ++ [-(s.tr.getD t.1 0)]) ⟨s.tr.take t.1 ++ [-(s.tr.getD t.1 0)], tu, t.2⟩ tv' uv' w' := by
  have htm : t ∈ s.tu := by rw [hu]; simp
  obtain ⟨hpl, hlk⟩ := hI.pl t htm
  obtain ⟨hbo, hbk⟩ := back_open hI htm
  have hn := hP.n
  have htn := trail_le hI.nd hI.ok
  obtain ⟨ta, tc, htv⟩ := owns_form h.trl
  obtain ⟨ua, uc, huv⟩ := owns_form h.trn
  subst htv huv
  obtain ⟨tg, rfl⟩ : ∃ g, ta = some ⟨g, 0, none⟩ := by
    rcases h.trl.2 with ⟨_, q⟩ | ⟨g, cap, cur, e, _⟩
    · omega
    · injection e with e; exact ⟨g, e⟩
  obtain ⟨ug, rfl⟩ : ∃ g, ua = some ⟨g, 0, none⟩ := by
    rcases h.trn.2 with ⟨_, q⟩ | ⟨g, cap, cur, e, _⟩
    · rw [hu] at q; simp at q
    · injection e with e; exact ⟨g, e⟩
  have hul : s.tu.length = tu.length + 1 := by rw [hu]; simp
  have htuc := owns_cap h.trn
  have httc := owns_cap h.trl
  have u1 := owns_at h.trn (tu.length * 2) _ (by rw [hu]; exact (uV_last tu t).1)
  have u2 := owns_at h.trn (tu.length * 2 + 1) _ (by rw [hu]; exact (uV_last tu t).2)
  have t1 := owns_at h.trl t.1 _ (tV_at s.tr t.1 hpl)
  rw [show s.tr[t.1] = s.tr.getD t.1 0 by simp [hpl]] at t1
  obtain ⟨_, _, c2, c3, c4, c5, fr⟩ := h.cells
  rw [hul] at c5
  have hun : tu.length ≤ 131071 := by
    have := turns_le hI
    omega
  have HS := hide h
  have HI := hide hI
  have HOK := hide hP
  have HLO := hide hlo
  have HB := hide (And.intro hbo hbk)
  have HUT := hide hu
  have f5 := fr 5
  clear h hI hP hlo fr hu htm hbo hbk
  obtain ⟨tp, tk⟩ := t
  simp only at *
  generalize hfi : s.tr.getD tp 0 = first at *
  generalize hk1 : s.tr.length = tl at *
  generalize hk2 : tu.length = ul at *
  have hsb : sb < w.heap.size := blk_lt (unhide HS).str
  have hug : ug < w.heap.size := World.block_lt_of_cell? _ _ u1
  have j1 : (ul : Int) + 1 - 1 = (ul : Int) := by omega
  have j2 : IntKind.i64.wrap (ul : Int) = (ul : Int) := IntWalk.i64_in _ (by omega)
  have j3 : (ul : Int) < (ul : Int) + 1 := by omega
  have j4 : ul < ul + 1 := by omega
  go_enter Try.func61, Try.ntmps61
  go_wp2_with fail
  apply merge
  case h => intro KEY; go_region_with (fail); all_goals exact KEY.out
  have HQ := hide (show Bq P w0 bb kb sb vb lo B c ca qa cc qc w.heap.size tp tk s.tr s (.slice (some ⟨tg, 0, none⟩) tl tc) (.slice (some ⟨ug, 0, none⟩) (ul + 1) uc) (w.alloc (.cells #[.int .i64 tp, .int .i64 tk] 107)).drew from by
    rw [← hul]
    exact ⟨(unhide HS).later (((Below.refl w.heap.size w).alloc (Nat.le_refl _) _).drew), heap_new _ _, Nat.le_trans (unhide HLO) (by show w.heap.size ≤ (w.alloc (.cells #[.int .i64 tp, .int .i64 tk] 107)).heap.size; simp)⟩)
  clear HS HLO c2 c3 c4 c5 f5 u1 u2 t1 hsb hug
  generalize w.heap.size = lb at HQ ⊢
  generalize (w.alloc (.cells #[.int .i64 tp, .int .i64 tk] 107)).drew = W1 at HQ ⊢
  obtain ⟨_, _, c2, c3, c4, c5, fr⟩ := (unhide HQ).sm.cells
  have f5 := fr 5
  have HU2 := hide (show W1.ownsRow lo 107 2 (.slice (some ⟨ug, 0, none⟩) ul uc) tu.length (uV tu) from by
    have q := (unhide HQ).sm.trn
    rw [hul] at q
    have q2 := prefix_own q (p := ul) (by omega)
    rw [unhide HUT, ← hk2, uV_take, hk2] at q2
    rw [hk2]
    exact q2)
  have HQ2 := hide (((unhide HQ).sets (j := 5) (x := .slice (some ⟨ug, 0, none⟩) ul uc) (s2 := ⟨s.tr, tu, s.lk⟩) (by simp) (unhide HQ).sm.trl (unhide HU2)).later ((Below.refl _ _).drew))
  go_wp2_with fail
  go_big_region
  clear HQ HU2 c2 c3 c4 c5 fr f5
  generalize (W1.setCell ⟨sb, 5, none⟩ (.slice (some ⟨ug, 0, none⟩) ul uc)).drew = W2 at HQ2 ⊢
  obtain ⟨_, _, c2, c3, c4, c5, fr⟩ := (unhide HQ2).sm.cells
  have l0 := (cell_blk (unhide HQ2).lst 0).1
  have l1 := (cell_blk (unhide HQ2).lst 1).1
  have t1 := owns_at (unhide HQ2).sm.trl tp _ (tV_at s.tr tp (by rw [hk1]; exact hpl))
  rw [show s.tr[tp]'(by rw [hk1]; exact hpl) = first by rw [← hfi]; simp [hk1, hpl]] at t1
  simp at l0 l1
  have hplz : (tp : Int) < (tl : Int) := by omega
  go_wp2_with fail
  go_quiet (fail)
  have HQ3 := hide ((unhide HQ2).later (bl_drewN W2 nq))
  clear HQ2 c2 c3 c4 c5 fr l0 l1 t1
  generalize W2.drewN nq = W3 at HQ3 ⊢
  obtain ⟨_, _, c2, c3, c4, c5, fr⟩ := (unhide HQ3).sm.cells
  have l0 := (cell_blk (unhide HQ3).lst 0).1
  have l1 := (cell_blk (unhide HQ3).lst 1).1
  simp at l0 l1
  have hplz2 : (tp : Int) ≤ (tl : Int) := by omega
  have httz : (tl : Int) ≤ (tc : Int) := by omega
  go_wp2_with fail
  go_quiet (fail)
  have HQ4 := hide (show Bq P w0 bb kb sb vb lo B c ca qa cc qc lb tp tk (s.tr.take tp ++ s.tr.drop (tp + 0)) ⟨s.tr, tu, s.lk⟩ (.slice (some ⟨tg, 0, none⟩) tl tc) (.slice (some ⟨ug, 0, none⟩) ul uc) (W3.drewN nq) from by
    rw [Nat.add_zero, List.take_append_drop]
    exact (unhide HQ3).later (bl_drewN W3 nq))
  clear HQ3 c2 c3 c4 c5 fr l0 l1
  generalize W3.drewN nq = W4 at HQ4 ⊢
  generalize hnr : tl - tp = nr at *
  go_wp2_with fail
  go_loopg [6, 55] nr (fun g1 _ vi wr => ∃ j : Nat, vi = .int .i64 j ∧ j ≤ nr ∧ nr - j ≤ g1 ∧ Hid (Bq P w0 bb kb sb vb lo B c ca qa cc qc lb tp tk (s.tr.take tp ++ s.tr.drop (tp + j)) ⟨s.tr, tu, s.lk⟩ (.slice (some ⟨tg, 0, none⟩) tl tc) (.slice (some ⟨ug, 0, none⟩) ul uc) wr))
  case atStart => exact ⟨0, by go_num, by omega, by omega, HQ4⟩
  case round =>
    clear HQ4
    obtain ⟨j, rfl, hj, hg, HQ⟩ := hrel
    obtain ⟨_, _, c2, c3, c4, c5, fr⟩ := (unhide HQ).sm.cells
    by_cases hlt : j < nr
    · have hjt : tp + j < s.tr.length := by omega
      have tj := owns_at (unhide HQ).sm.trl (tp + j) _ (tV_at s.tr (tp + j) hjt)
      have hok := (unhide HI).ok _ (List.getElem_mem hjt)
      have hnd := nd_mid (unhide HI).nd tp j
      rw [show s.tr.drop (tp + j) = s.tr[tp + j] :: s.tr.drop (tp + j + 1) from (List.getElem_cons_drop hjt).symm] at hnd HQ
      generalize s.tr[tp + j] = x at *
      obtain ⟨z1, z2, z3⟩ := (okL_iff _ _).1 hok
      have HQ5 := hide (((unhide HQ).setv (s.tr.take tp ++ s.tr.drop (tp + j + 1)) (v := x.natAbs - 1) (by omega) 0 (fun u _ => vt_out z1 hnd u)).later ((Below.refl _ _).drew))
      obtain ⟨cv, fv⟩ := (unhide HQ).sm.vcell (v := x.natAbs - 1) (by omega)
      have cA := hide (fun w => variable_any x (by omega) (by omega) w)
      have i1 : (((x.natAbs : Int) - 1).toNat) = x.natAbs - 1 := by omega
      have i2 : (0 : Int) ≤ (x.natAbs : Int) - 1 := by omega
      have i3 : (x.natAbs : Int) - 1 < (P.n : Int) := by omega
      clear hnd HQ hok
      generalize vt (s.tr.take tp ++ x :: s.tr.drop (tp + j + 1)) (x.natAbs - 1) = oldv at *
      generalize hxm : x.natAbs = xm at *
      go_wp2_with fail
      apply merge
      case h => intro KEY; go_region_with (first | (go_at_call 49; refine (unhide cA _).mono ?_; rintro x w2 ⟨rfl, hw2⟩; rw [hw2]; clear hw2 w2)); all_goals exact KEY.out
      generalize (wr.setCell ⟨vb, xm - 1, none⟩ (.int .i8 0)).drew = W5 at HQ5 ⊢
      go_wp2_with fail
      go_roundg (nr - (j + 1))
      case measure => omega
      case rel => exact ⟨j + 1, by go_num, by omega, by omega, HQ5⟩
    · have e1 : s.tr.drop (tp + j) = [] := List.drop_eq_nil_of_le (by omega)
      rw [e1, List.append_nil] at HQ
      have HT := hide (show wr.ownsRow lo 3 1 (.slice (some ⟨tg, 0, none⟩) tp tc) (s.tr.take tp).length (tV (s.tr.take tp)) from by
        have q := (unhide HQ).sm.trl
        rw [show (⟨s.tr, tu, s.lk⟩ : Sx).tr.length = tl from hk1] at q
        have q2 := prefix_own q (p := tp) (by omega)
        rw [Nat.mul_one] at q2
        rw [show (s.tr.take tp).length = tp by simp; omega, show tV (s.tr.take tp) = (tV s.tr).take tp by simp [tV, List.map_take]]
        exact q2)
      have HQ6 := hide ((unhide HQ).sets (j := 4) (x := .slice (some ⟨tg, 0, none⟩) tp tc) (s2 := ⟨s.tr.take tp, tu, s.lk⟩) (by simp) (unhide HT) (unhide HQ).sm.trn)
      have HQ7 := hide (((unhide HQ6).sets (j := 2) (x := .int .i64 tk) (s2 := ⟨s.tr.take tp, tu, tk⟩) (by simp) (unhide HQ6).sm.trl (unhide HQ6).sm.trn).later ((Below.refl _ _).drew))
      have d2 := (unhide HQ6).sm.cells.2.2.1
      have g2 := (unhide HQ6).sm.cells.2.2.2.2.2.2 2
      have l0 := (cell_blk (unhide HQ).lst 0).1
      have l1 := (cell_blk (unhide HQ).lst 1).1
      simp at l0 l1
      have f2 := fr 2
      have f4 := fr 4
      have httz3 : (tp : Int) ≤ (tc : Int) := by omega
      clear HQ HQ6 HT fr
      go_wp2_with fail
      go_big_region
      generalize ((wr.setCell ⟨sb, 4, none⟩ (.slice (some ⟨tg, 0, none⟩) tp tc)).setCell ⟨sb, 2, none⟩ (.int .i64 tk)).drew = W7 at HQ7 ⊢
      have cT := hide (set_any (unhide HOK) (s := ⟨s.tr.take tp, tu, tk⟩) (unhide HQ7).sm (by show (s.tr.take tp).length < P.n; simp; omega) (unhide HQ7).low (-first) (okL_neg (unhide HB).2) (unhide HB).1)
      clear c2 c3 c4 c5 d2 g2 f2 f4 l0 l1 HQ7
      have hneg : IntKind.i64.wrap (-first) = -first := by
        have := (okL_iff _ _).1 (unhide HB).2
        exact IntWalk.i64_in _ (by omega)
      go_wp2_with (go_at_call 62; refine (unhide cT).mono ?_; rintro x5 w5 ⟨rfl, tv5, hs5, hl5⟩; have HZ := hide hs5; have HZ2 := hide hl5; clear hs5 hl5)
      go_ret
      exact ⟨rfl, unhide HZ2, tv5, _, unhide HZ⟩
end Go.Proofs.Ytabjbppekijfiaa
