import Derived.Test.YtokgegbodbnimaaMsO
namespace Go.Proofs.Ytokgegbodbnimaa
open Go.RowKit Go.Maps

set_option maxRecDepth 100000 in
theorem nilO (o : Opn) (w : World) : (nilAhead 242 o.ty o.ag "larder/store.on").run Try.prog w = .ok (some false) w := by
  cases o <;> rfl
theorem Opn.val_one (o : Opn) : o.val.oneCell' = true := by cases o <;> rfl
set_option maxRecDepth 100000 in
set_option maxHeartbeats 8000000 in
theorem do_any {O : Nat → Prop} {B : Nat} {M : Mm} {m0 m1 : Cn} {K : Nat} {W : World} {n0 : Nat} (o : Opn) (h : Sto O B M m0 m1 K W) (hn0 : n0 ≤ W.heap.size) (hK : K + o.e.bytes + 2 ≤ 1099511627776) (ok : o.Ok W)
    (hf0 : ∀ f y g b, o.od = some f → M.H0 y = some g → bk g = some b → bk f = some b → False) (hf1 : ∀ f y g b, o.od = some f → M.H1 y = some g → bk g = some b → bk f = some b → False) (hfp : ∀ f o2 g b, o.od = some f → o2 ∈ M.ps → o2.od = some g → bk g = some b → bk f = some b → False) (hfo : ∀ f b, o.od = some f → bk f = some b → Nw O n0 b) :
    Calls Try.prog 40 #[.pointer (some ⟨B, 0, none⟩), .iface o.ty o.ag] W fun v W' => v = .returned (.int .i64 0) ∧ ∃ M2 : Mm, Sto (Nw O n0) B M2 (o.e.cn m0) m1 (K + o.e.bytes + 2) W' ∧ M2.ps = M.ps ++ [o] ∧ M2.cap = M.cap ∧ M2.u0 = (o.e.on (m0, M.u0)).2 ∧ Fx (Nw O n0) W W' := by
  obtain ⟨i0, hi, hz0, hz1, hz2⟩ := info_parts info84
  have hKm : K < maxLen := Nat.lt_of_le_of_lt h.hK (by decide)
  -- the operation is pending
  obtain ⟨W0, hW0⟩ : ∃ w, w = W.alloc (.cells #[.iface o.ty o.ag] 84) := ⟨_, rfl⟩
  have b0 : Below W.heap.size W W0 := by rw [hW0]; exact (Below.refl _ W).alloc (Nat.le_refl _) _
  have hlB := blk_lt h.blk
  have hpl := h.lp
  have hKK := h.hK
  obtain ⟨g, pc, W1, hr, p1, p2, p3, _⟩ := run_append_lies (P := Try.prog) W0 73 73 0 84 i0 .nilIface 1 16 Try.underlying73 hi hz0 hz1 hz2 rfl (by decide) M.pv M.ps.length (vals M.ps) (owns_below h.pen b0) ⟨W.heap.size, 0, none⟩ 1 1 [o.val] rfl
    (fun j u hj => by
      have : j = 0 := by
        have := (List.getElem?_eq_some_iff.1 hj).1
        simp at this
        exact this
      subst this
      rw [Addr.add_mid, hW0]
      simp only [Nat.add_zero]
      cases hj
      go_simp
      rfl) (fun u hu => by
      obtain rfl := List.mem_singleton.1 hu
      exact o.val_one) (by decide) (Nat.le_trans (show M.ps.length + 1 ≤ 1099511627777 by omega) (by decide)) (by omega) (Nat.zero_le _) _ rfl
  obtain ⟨pa, pn, e⟩ := owns_form h.pen
  have hpB : M.pv.ownBlock ≠ some B := fun q => by
    rcases h.pen.2 with ⟨q2, _⟩ | ⟨g2, cp, cu, q2, _, q3, _⟩
    · rw [q2] at q; cases q
    · rw [q2] at q
      cases q
      rw [h.blk] at q3
      injection q3 with q3
      injection q3 with _ q3 _
      exact absurd q3 (by decide)
  have hgB : g ≠ B := fun q => by
    rcases p3 with p3 | p3
    · exact hpB (by rw [p3, q])
    · have := b0.size
      omega
  have f1 : Fx (fun b => b = B ∨ M.pv.ownBlock = some b) W W1 := (Fx.of b0).next (Q := fun b => M.pv.ownBlock = some b) ⟨⟨p2.1, p2.2, p2.3, p2.size, fun _ q => absurd q (Nat.not_lt_zero _)⟩, fun b hb hn => p2.block b hb fun q => hn q.symm⟩ fun b _ q => .inr q
  have B1 : W1.heap[B]? = some (.cells M.cur 75 (0, 0)) := by
    rw [p2.block B (Nat.lt_of_lt_of_le hlB b0.size) (fun q => hpB q.symm)]
    exact (b0.block B hlB).trans h.blk
  -- written down
  obtain ⟨W2, hW2⟩ : ∃ w, w = W1.setCell ⟨B, 4, none⟩ (.slice (some ⟨g, 0, none⟩) (M.ps.length + 1) pc) := ⟨_, rfl⟩
  have B2 : W2.heap[B]? = some (.cells (M.cur.setIfInBounds 4 (.slice (some ⟨g, 0, none⟩) (M.ps.length + 1) pc)) 75 (0, 0)) := by rw [hW2]; exact set_blk B1 _ _
  have f2 : Fx (fun b => b = B ∨ M.pv.ownBlock = some b) W W2 := by rw [hW2]; exact f1.set (.inl rfl) _ _
  have p22 : W2.ownsRow 0 84 1 (.slice (some ⟨g, 0, none⟩) (M.ps.length + 1) pc) (M.ps.length + 1) (vals (M.ps ++ [o])) := by
    have e2 : vals (M.ps ++ [o]) = vals M.ps ++ [o.val] := by simp [vals]
    rw [e2]
    refine own_same p1 fun b eb => ?_
    cases eb
    rw [hW2]
    exact set_other _ _ _ _ _ hgB
  have cL : ∀ c, ∃ W3, W3 = W2.setCell ⟨B, 6, none⟩ (.int .i64 c) ∧ Calls Try.prog o.fO #[o.ag, .pointer (some ⟨B, 0, none⟩)] W3.drew fun v W' => v = .returned (.tuple #[]) ∧ ∃ M2 : Mm, Sto (Nw O n0) B M2 (o.e.cn m0) m1 (K + o.e.bytes + 2) W' ∧ M2.ps = M.ps ++ [o] ∧ M2.cap = M.cap ∧ M2.u0 = (o.e.on (m0, M.u0)).2 ∧ Fx (Nw O n0) W W' := fun c => by
    refine ⟨_, rfl, ?_⟩
    have B3 : ((W2.setCell ⟨B, 6, none⟩ (.int .i64 c)).drew).heap[B]? = some (.cells ((M.cur.setIfInBounds 4 (.slice (some ⟨g, 0, none⟩) (M.ps.length + 1) pc)).setIfInBounds 6 (.int .i64 c)) 75 (0, 0)) := set_blk B2 _ _
    have f3 : Fx (fun b => b = B ∨ M.pv.ownBlock = some b) W (W2.setCell ⟨B, 6, none⟩ (.int .i64 c)).drew := (f2.set (.inl rfl) _ _).trans (Fx.of ((Below.refl _ _).drew))
    have p33 : (W2.setCell ⟨B, 6, none⟩ (.int .i64 c)).drew.ownsRow 0 84 1 (.slice (some ⟨g, 0, none⟩) (M.ps.length + 1) pc) (M.ps.length + 1) (vals (M.ps ++ [o])) := own_same p22 fun b eb => by
      cases eb
      exact set_other _ _ _ _ _ hgB
    have nB : ∀ g bs, Bt W g bs → ∀ z, bk g = some z → ¬ (z = B ∨ M.pv.ownBlock = some z) := fun g bs b z e q => by
      rcases q with q | q
      · subst q; exact b.neC e (by decide) h.blk
      · rcases h.pen.2 with ⟨q2, _⟩ | ⟨g2, cp, cu, q2, _, q3, _⟩
        · rw [q2] at q; cases q
        · rw [q2] at q
          cases q
          exact b.neC e (by decide) q3
    have nM : ∀ z, mb M.d0 = some z → ¬ (z = B ∨ M.pv.ownBlock = some z) := fun z e q => by
      rcases q with q | q
      · subst q; exact h.s0.dm.ne h.blk e
      · rcases h.pen.2 with ⟨q2, _⟩ | ⟨g2, cp, cu, q2, _, q3, _⟩
        · rw [q2] at q; cases q
        · rw [q2] at q
          cases q
          exact h.s0.dm.ne q3 e
    have s3 : Sd (W2.setCell ⟨B, 6, none⟩ (.int .i64 c)).drew M.d0 M.H0 m0 K := ⟨h.s0.dm.fx f3 nM, h.s0.sc.same fun x g bs _ b => b.fx f3 (nB g bs b)⟩
    have C := on_any (u := M.u0) o B3 rfl rfl s3 hKm (ok.same fun f bs _ b => b.fx f3 (nB f bs b)) (fun f y g c e1 e2 e3 e4 => hf0 f y g c e1 e2 e3 e4) (fun x bs e => by
      have := h.l0 x bs e
      omega)
    exact C.mono fun v W' ⟨q0, d2, H2, q1⟩ => ⟨q0, h.does hn0 hK ok hf0 hf1 hfp hfo B3 p33 (fun b eb => by
      cases eb
      rcases p3 with p3 | p3
      · exact .inl (h.op g p3)
      · have := b0.size
        exact .inr (by show n0 ≤ g; omega)) f3 d2 H2 q1⟩
  have c4 := (cell_blk h.blk 4).1
  have c41 := (cell_blk B1 4)
  have c62 := (cell_blk B2 6)
  have c72 := (cell_blk B2 7).1
  have x4 : M.cur[4]? = some M.pv := rfl
  have x6 : (M.cur.setIfInBounds 4 (.slice (some ⟨g, 0, none⟩) (M.ps.length + 1) pc))[6]? = some (.int .i64 M.calls) := rfl
  have x7 : (M.cur.setIfInBounds 4 (.slice (some ⟨g, 0, none⟩) (M.ps.length + 1) pc))[7]? = some (.bool false) := rfl
  rw [x4] at c4 c41
  rw [x6] at c62
  rw [x7] at c72
  have c40 := (b0.cell (p := ⟨B, 4, none⟩) hlB).trans c4
  have cT := lasts_any c62.1 c72 c62.2
  obtain ⟨c41, f41⟩ := c41
  have HL := hide cL
  have mO := methO o
  have eO := entO o
  have nO := nilO o
  have hv9 : o.val = .iface o.ty o.ag := rfl
  rw [e] at hr c4 c40 c41
  clear cL B1 B2 f1 f2 p22 p1 p2 p3 h ok hf0 hf1 hfp hfo b0 c62 c72 x4 x6 x7 hpB e hi hz0 hz1 hz2
  go_enter Try.func40, Try.ntmps40
  go_upto_region 4 with (first | (at_builtin; refine wpList_append_run rfl _ _ 73 rfl _ _ rfl rfl (by rw [← hW0]; exact hr) ?_) | (go_at_call 43; rw [← hW2]; refine cT.mono ?_; rintro x1 w3 ⟨rfl, c, hw3⟩; obtain ⟨W3, hW3, C3⟩ := unhide HL c; rw [← hW3] at hw3; subst hw3; clear HL hW3))
  go_region_with (first | (refine C3.mono ?_; rintro x1 w4 ⟨rfl, HE⟩; have HE := hide HE))
  all_goals
    go_wp2_with fail
    go_ret
    exact ⟨rfl, unhide HE⟩
end Go.Proofs.Ytokgegbodbnimaa
