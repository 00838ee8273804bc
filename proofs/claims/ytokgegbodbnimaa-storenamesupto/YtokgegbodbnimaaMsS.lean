import Derived.Test.YtokgegbodbnimaaMsR
namespace Go.Proofs.Ytokgegbodbnimaa
open Go.RowKit Go.Maps

theorem lev_all {H H2 : Nm → Option Hd} {L : List Nm} (h : ∀ x, x ∉ L → H2 x = H x) : lev H H2 L = H2 := by
  funext x
  by_cases q : x ∈ L
  · exact (lev_in H2 x L H).1 q
  · rw [(lev_in H2 x L H).2 q, h x q]
theorem nmsL_len (ps : List Opn) : (nmsL ps).length ≤ 2 * ps.length := by
  induction ps with
  | nil => simp [nmsL]
  | cons o r ih =>
    have := nms_le o
    have e : nmsL (o :: r) = o.nms ++ nmsL r := rfl
    rw [e, List.length_append, List.length_cons]
    omega
set_option maxRecDepth 100000 in
theorem level_nil {W : World} {B o o2 : Nat} : Calls Try.prog 44 #[.pointer (some ⟨B, o, none⟩), .pointer (some ⟨B, o2, none⟩), .slice none 0 0] W fun x W' => x = .returned (.tuple #[]) ∧ W' = W := by
  go_enter Try.func44, Try.ntmps44
  go_wp2_with fail
  go_loopg [7, 9, 12, 17, 18, 19] 0 (fun g1 _ _ vi _ _ _ wr => vi = .int .i64 0 ∧ wr = W)
  case atStart => exact ⟨rfl, rfl⟩
  case round =>
    obtain ⟨rfl, rfl⟩ := hrel
    go_wp2_with fail
    go_end0
    exact ⟨rfl, rfl⟩
/-- ONE DIRECTORY FOLLOWS ANOTHER IN ALL THAT IS PENDING. -/
theorem level_pv {W : World} {B o o2 k k2 : Nat} {d d2 : Value} {u : Int} {cur : Array Value} {H H2 : Nm → Option Hd} {ps : List Opn} {pv : Value} (hB : W.heap[B]? = some (.cells cur 75 (0, 0))) (hd : cur[o]? = some d) (hu : cur[o + 1]? = some (.int .i64 u)) (ho : o2 ≠ o ∧ o2 ≠ o + 1) (hd2 : cur[o2]? = some d2) (h : Dm W d H k) (h2 : Dm W d2 H2 k2) (hm : ∀ b, mb d2 = some b → mb d ≠ some b)
    (hp : W.ownsRow 0 84 1 pv ps.length (vals ps)) (hn : ∀ o ∈ ps, ∀ x ∈ o.nms, x.size ≤ 258) (hk : k + (nmsL ps).length < maxLen) (hpl : ps.length ≤ 1099511627776) :
    Calls Try.prog 44 #[.pointer (some ⟨B, o, none⟩), .pointer (some ⟨B, o2, none⟩), pv] W fun x W' => x = .returned (.tuple #[]) ∧ Lv W B o o2 cur d d2 H H2 k k2 (nmsL ps) (nmsL ps).length W' := by
  rcases hp.2 with ⟨rfl, e⟩ | ⟨g, cap, pcur, rfl, _, h3, h4, h5, h6, h7⟩
  · obtain rfl : ps = [] := List.length_eq_zero_iff.1 e
    exact level_nil.mono fun x W' ⟨q1, q2⟩ => ⟨q1, by
      subst q2
      exact ⟨⟨d, u, by rw [set_self hd, set_self hu]; exact hB, h, .inl rfl⟩, h2, Fx.refl _ _⟩⟩
  · refine level_any hB hd hu ho hd2 h h2 hm h3 (fun i hi => ?_) hn hk hpl
    have e := vals_at ps i hi
    rw [← h7, List.getElem?_take] at e
    split at e
    · simpa using e
    · cases e
set_option maxRecDepth 100000 in
set_option maxHeartbeats 8000000 in
theorem Sync_any {O : Nat → Prop} {B : Nat} {M : Mm} {m0 m1 : Cn} {K : Nat} {W : World} (h : Sto O B M m0 m1 K W) :
    Calls Try.prog 13 #[.pointer (some ⟨B, 0, none⟩)] W fun v W' => v = .returned (.int .i64 0) ∧ ∃ M2 : Mm, Sto (Nw O W.heap.size) B M2 m0 m0 K W' ∧ M2.ps = [] ∧ M2.cap = M.cap ∧ M2.u0 = M.u0 ∧ Fx (Nw O W.heap.size) W W' := by
  obtain ⟨k1, s1, hk1⟩ := h.s1
  have hKK := h.hK
  have hnl := nmsL_len M.ps
  have cR := ready_any (h.cells 8 _ rfl)
  have cT := lasts_any (h.cells 6 (.int .i64 M.calls) rfl) (h.cells 7 _ rfl) (cell_blk h.blk 6).2
  have nB : ∀ g bs, Bt W g bs → ∀ z, bk g = some z → ¬ z = B := fun g bs b z e q => by subst q; exact b.neC e (by decide) h.blk
  have cL : ∀ c, ∃ W1, W1 = W.setCell ⟨B, 6, none⟩ (.int .i64 c) ∧ W1.cell? ⟨B, 4, none⟩ = some M.pv ∧ Calls Try.prog 44 #[.pointer (some ⟨B, 2, none⟩), .pointer (some ⟨B, 0, none⟩), M.pv] W1.drew fun v W' => v = .returned (.tuple #[]) ∧ (W'.cell? ⟨B, 4, none⟩ = some M.pv ∧ W'.frozen? ⟨B, 4, none⟩ = false) ∧ ∃ M2 : Mm, Sto (Nw O W.heap.size) B M2 m0 m0 K (W'.setCell ⟨B, 4, none⟩ (.slice none 0 0)) ∧ M2.ps = [] ∧ M2.cap = M.cap ∧ M2.u0 = M.u0 ∧ Fx (Nw O W.heap.size) W (W'.setCell ⟨B, 4, none⟩ (.slice none 0 0)) := fun c => by
    obtain ⟨W1, hW1⟩ : ∃ w, w = W.setCell ⟨B, 6, none⟩ (.int .i64 c) := ⟨_, rfl⟩
    refine ⟨W1, hW1, ?_⟩
    have B1 : W1.heap[B]? = some (.cells (M.cur.setIfInBounds 6 (.int .i64 c)) 75 (0, 0)) := by rw [hW1]; exact set_blk h.blk _ _
    have B1d : W1.drew.heap[B]? = some (.cells (M.cur.setIfInBounds 6 (.int .i64 c)) 75 (0, 0)) := B1
    have f1 : Fx (fun b => b = B) W W1.drew := by
      rw [hW1]
      exact (Fx.set (P := fun b => b = B) (Fx.refl _ W) rfl _ _).trans (Fx.of ((Below.refl _ _).drew))
    have d01 : Dm W1.drew M.d0 M.H0 K := h.s0.dm.fx f1 fun b e q => by subst q; exact h.s0.dm.ne h.blk e
    have d11 : Dm W1.drew M.d1 M.H1 k1 := s1.dm.fx f1 fun b e q => by subst q; exact s1.dm.ne h.blk e
    have p1 : W1.drew.ownsRow 0 84 1 M.pv M.ps.length (vals M.ps) := own_same h.pen fun b e => f1.blk b (World.ownsRow.lt h.pen b e).2 fun q => by
      subst q
      rcases h.pen.2 with ⟨q2, _⟩ | ⟨g2, cp, cu, q2, _, q3, _⟩
      · rw [q2] at e; cases e
      · rw [q2] at e
        cases e
        rw [h.blk] at q3
        injection q3 with q3
        injection q3 with _ q3 _
        exact absurd q3 (by decide)
    refine ⟨(cell_blk B1 4).1.trans rfl, (level_pv (o := 2) (o2 := 0) (u := M.u1) (d := M.d1) (d2 := M.d0) B1d rfl rfl (by decide) rfl d11 d01 (fun b e1 e2 => h.mne b e1 e2) p1 (fun o ho x hx => (h.pok o ho).names x hx) (Nat.lt_of_le_of_lt (show k1 + (nmsL M.ps).length ≤ 1099511627776 by omega) (by decide)) (by have := h.lp; omega)).mono fun v W' ⟨q0, q⟩ => ⟨q0, ?_⟩⟩
    obtain ⟨d', u', q1, q2, q3⟩ := q.blk
    rw [lev_all h.sam] at q2
    have e4 : ((((M.cur.setIfInBounds 6 (.int .i64 c)).setIfInBounds 2 d').setIfInBounds (2 + 1) (.int .i64 u')))[4]? = some M.pv := rfl
    refine ⟨⟨(cell_blk q1 4).1.trans e4, (cell_blk q1 4).2⟩, { M with d1 := d', u1 := u', pv := .slice none 0 0, calls := c, H1 := M.H0, ps := [] }, ?_, rfl, rfl, rfl, ?_⟩
    · have nb1 : ∀ g bs, Bt W g bs → Bt (W'.setCell ⟨B, 4, none⟩ (.slice none 0 0)) g bs := fun g bs b => by
        have b1 : Bt W1.drew g bs := b.fx f1 (nB g bs b)
        have b2 : Bt W' g bs := b1.far B1d d11 q.fx
        exact b2.same fun z e => set_other _ _ _ _ _ fun q => by subst q; exact b2.neC e (by decide) q1
      have dm2 : ∀ d H k, Dm W' d H k → Dm (W'.setCell ⟨B, 4, none⟩ (.slice none 0 0)) d H k := fun d H k dm => dm.same fun z e => set_other _ _ _ _ _ fun q => by subst q; exact dm.ne q1 e
      have sc := h.s0.sc.same fun x g bs _ b => nb1 g bs b
      refine ⟨?_, ⟨dm2 _ _ _ q.d2, sc⟩, ⟨_, ⟨dm2 _ _ _ q2, sc⟩, ?_⟩, ?_, ⟨rfl, .inl ⟨rfl, rfl⟩⟩, fun o ho => (by cases ho), ⟨fun x g hx => sc.blw hx, fun o ho => (by cases ho), fun o ho => (by cases ho), List.Pairwise.nil⟩, fun x _ => rfl, h.l0, fun x bs e => ?_, by simp [bytesL], h.hK, .inl h.oB, fun b e => .inl (h.o0 b e), ?_, fun b e => (by cases e), fun x f b hx e => .inl (h.oh0 x f b hx e), fun x f b hx e => .inl (h.oh0 x f b hx e), fun o ho => (by cases ho)⟩
      · rw [set_blk q1]
        rfl
      · show k1 + (nmsL M.ps).length + 2 * 0 ≤ K
        omega
      · intro b e1 e2
        rcases q3 with q3 | ⟨b2, q3, q4⟩
        · exact h.mne b e1 (by rw [← q3]; exact e2)
        · have a1 := d01.lt e1
          have e2' : mb d' = some b := e2
          rw [q3] at e2'
          cases e2'
          omega
      · have := h.l0 x bs e
        simpa [bytesL] using this
      · intro b e
        have e' : mb d' = some b := e
        rcases q3 with q3 | ⟨b2, q3, q4⟩
        · exact .inl (h.o1 b (by rw [← q3]; exact e'))
        · rw [q3] at e'
          cases e'
          have := f1.size
          exact .inr (by omega)
    · refine Fx.set (((f1.mono fun b _ e => ?_).next q.fx fun b _ e => ?_)) (.inl h.oB) _ _
      · subst e; exact .inl h.oB
      · rcases e with e | e
        · subst e; exact .inl h.oB
        · exact .inl (h.o1 b e)
  have HL := hide cL
  clear cL h s1 nB
  go_enter Try.func13, Try.ntmps13
  go_upto_region 6 with (first | (go_at_call 42; refine cR.mono ?_; rintro x1 w1 ⟨rfl, rfl⟩) | (go_at_call 43; refine cT.mono ?_; rintro x2 w2 ⟨rfl, c, hw2⟩; obtain ⟨W1, hW1, c4, C3⟩ := unhide HL c; rw [← hW1] at hw2; subst hw2; clear HL hW1))
  go_region_with (first | (go_at_call 44; refine C3.mono ?_; rintro x3 w3 ⟨rfl, ⟨c43, f43⟩, HE⟩; have HE := hide HE))
  all_goals
    go_wp2_with fail
    go_ret
    exact ⟨rfl, unhide HE⟩
end Go.Proofs.Ytokgegbodbnimaa
