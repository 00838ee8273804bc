import Derived.Test.YtokgegbodbnimaaMsN
namespace Go.Proofs.Ytokgegbodbnimaa
open Go.RowKit Go.Maps

theorem info84 : (Try.prog.info? 84).map (fun i => (i.zero, i.size, i.bytes)) = some (some .nilIface, 1, 16) := by kernel_rfl
theorem ln_cn {o : Ope} {m : Cn} {K : Nat} (h : ∀ y cs, m y = some cs → cs.length ≤ K) : ∀ x bs, o.cn m x = some bs → bs.length ≤ K + o.bytes := by
  have hu : ∀ (m : Cn) (K : Nat) (y : Nm) (v : Option (List Int)), (∀ z cs, m z = some cs → cs.length ≤ K) → (∀ cs, v = some cs → cs.length ≤ K) → ∀ x bs, up m y v x = some bs → bs.length ≤ K := fun m K y v h1 h2 x bs e => by
    by_cases q : x = y
    · subst q; rw [up_same] at e; exact h2 bs e
    · rw [up_other _ _ q] at e; exact h1 x bs e
  have hm : ∀ y cs, m y = some cs → cs.length ≤ K + o.bytes := fun y cs e => Nat.le_trans (h y cs e) (Nat.le_add_right _ _)
  unfold Ope.cn
  cases o with
  | wr x bs => exact hu _ _ _ _ hm fun cs e => by cases e; exact Nat.le_add_left _ _
  | ap x bs =>
    simp only [Ope.on]
    cases e : m x with
    | none => exact hm
    | some cs =>
      exact hu _ _ _ _ hm fun c2 e2 => by
        cases e2
        rw [List.length_append]
        exact Nat.add_le_add_right (h x cs e) _
  | tr x n =>
    simp only [Ope.on]
    cases e : m x with
    | none => exact hm
    | some cs =>
      exact hu _ _ _ _ hm fun c2 e2 => by
        cases e2
        have := hm x cs e
        unfold tk
        rw [List.length_take]
        omega
  | rn x y =>
    simp only [Ope.on]
    cases e : m x with
    | none => exact hm
    | some cs => exact hu _ _ _ _ (hu _ _ _ _ hm fun c2 e2 => by cases e2) fun c2 e2 => by cases e2; exact hm x cs e
  | rm x => exact hu _ _ _ _ hm fun c2 e2 => by cases e2
/-- O AND WHAT IS NEW. -/
def Nw (O : Nat → Prop) (n : Nat) : Nat → Prop := fun b => O b ∨ n ≤ b
theorem od_bytes {o : Opn} {W : World} (ok : o.Ok W) (f : Hd) (e : o.od = some f) : f.n = o.e.bytes := by
  cases o with
  | wr x g bs => cases e; exact ok.2.len.symm
  | ap x g bs => cases e; exact ok.2.len.symm
  | tr x n => cases e
  | rn x y => cases e
  | rm x => cases e
/-- THE NEXT STATE. -/
theorem Sto.does {O : Nat → Prop} {B : Nat} {M : Mm} {m0 m1 : Cn} {K : Nat} {W W3 W4 : World} {o : Opn} {pv' : Value} {c : Int} {n0 : Nat} (h : Sto O B M m0 m1 K W) (hn0 : n0 ≤ W.heap.size) (hK : K + o.e.bytes + 2 ≤ 1099511627776) (ok : o.Ok W)
    (hf0 : ∀ f y g b, o.od = some f → M.H0 y = some g → bk g = some b → bk f = some b → False) (hf1 : ∀ f y g b, o.od = some f → M.H1 y = some g → bk g = some b → bk f = some b → False) (hfp : ∀ f o2 g b, o.od = some f → o2 ∈ M.ps → o2.od = some g → bk g = some b → bk f = some b → False) (hfo : ∀ f b, o.od = some f → bk f = some b → Nw O n0 b)
    (b3 : W3.heap[B]? = some (.cells ((M.cur.setIfInBounds 4 pv').setIfInBounds 6 (.int .i64 c)) 75 (0, 0))) (hp3 : W3.ownsRow 0 84 1 pv' (M.ps.length + 1) (vals (M.ps ++ [o]))) (hpo : ∀ b, pv'.ownBlock = some b → Nw O n0 b) (f3 : Fx (fun b => b = B ∨ M.pv.ownBlock = some b) W W3) (d2 : Value) (H2 : Nm → Option Hd)
    (on : On W3 W4 B ((M.cur.setIfInBounds 4 pv').setIfInBounds 6 (.int .i64 c)) M.d0 M.u0 M.H0 m0 K o d2 H2) :
    ∃ M2 : Mm, Sto (Nw O n0) B M2 (o.e.cn m0) m1 (K + o.e.bytes + 2) W4 ∧ M2.ps = M.ps ++ [o] ∧ M2.cap = M.cap ∧ M2.u0 = (o.e.on (m0, M.u0)).2 ∧ Fx (Nw O n0) W W4 := by
  obtain ⟨k1, s1, hk1⟩ := h.s1
  have nB : ∀ g bs, Bt W g bs → ∀ z, bk g = some z → ¬ (z = B ∨ M.pv.ownBlock = some z) := fun g bs b z e q => by
    rcases q with q | q
    · subst q; exact b.neC e (by decide) h.blk
    · rcases h.pen.2 with ⟨q2, _⟩ | ⟨g2, cp, cu, q2, _, q3, _⟩
      · rw [q2] at q; cases q
      · rw [q2] at q
        cases q
        exact b.neC e (by decide) q3
  have k3 : ∀ g bs, Bt W g bs → Bt W3 g bs := fun g bs b => b.fx f3 (nB g bs b)
  have nM : ∀ d H k, Dm W d H k → ∀ z, mb d = some z → ¬ (z = B ∨ M.pv.ownBlock = some z) := fun d H k dm z e q => by
    rcases q with q | q
    · subst q; exact dm.ne h.blk e
    · rcases h.pen.2 with ⟨q2, _⟩ | ⟨g2, cp, cu, q2, _, q3, _⟩
      · rw [q2] at q; cases q
      · rw [q2] at q
        cases q
        exact dm.ne q3 e
  have d13 : Dm W3 M.d1 M.H1 k1 := s1.dm.fx f3 (nM _ _ _ s1.dm)
  have fx4 := on.fx
  -- what lay keeps
  have k4 : ∀ g bs, Bt W g bs → Blw M.H0 g → Bt W4 g bs := fun g bs b q => on.kept g bs (k3 g bs b) q
  have d14 : Dm W4 M.d1 M.H1 k1 := d13.fx fx4 fun b e q => by
    rcases q with q | q | ⟨x, f, hx, q⟩
    · exact d13.ne b3 (by rw [← q]; exact e)
    · exact h.mne b q e
    · obtain ⟨bs, _, bt⟩ := h.s0.sc.con x f hx
      exact (k3 f bs bt).neM q d13 e
  have oblw : ∀ f, o.od = some f → Blw M.H0 f := fun f e y g b hy e1 e2 => (hf0 f y g b e hy e1 e2).elim
  refine ⟨{ M with d0 := d2, u0 := (o.e.on (m0, M.u0)).2, pv := pv', calls := c, H0 := H2, ps := M.ps ++ [o] }, ?_, rfl, rfl, rfl, ?_⟩
  · refine ⟨?_, ?_, ⟨k1, ⟨d14, ?_⟩, ?_⟩, ?_, ?_, ?_, ?_, ?_, ?_, ?_, ?_, hK, .inl h.oB, ?_, fun b e => .inl (h.o1 b e), hpo, ?_, fun x f b hx e => .inl (h.oh1 x f b hx e), ?_⟩
    · rw [on.blk]
      rfl
    · have := on.dir
      rw [Ope.on1] at this
      exact this.mono (by omega)
    · exact s1.sc.same fun x g bs hx b => k4 g bs b (h.hs.le1 x g hx)
    · simp only [List.length_append, List.length_singleton]
      omega
    · intro b e1 e2
      rcases on.mbk with q | ⟨b2, q1, q2⟩
      · exact h.mne b (by rw [← q]; exact e1) e2
      · have a1 := s1.dm.lt e2
        have a2 := f3.size
        rw [q1] at e1
        cases e1
        omega
    · show W4.ownsRow 0 84 1 pv' (M.ps ++ [o]).length (vals (M.ps ++ [o]))
      rw [List.length_append, List.length_singleton]
      refine own_same hp3 fun b e => fx4.blk b (World.ownsRow.lt hp3 b e).2 fun q => ?_
      have hpb : ∃ cu, W3.heap[b]? = some (.cells cu 84 (0, 0)) := by
        rcases hp3.2 with ⟨q2, _⟩ | ⟨g2, cp, cu, q2, _, q3, _⟩
        · rw [q2] at e; cases e
        · rw [q2] at e
          cases e
          exact ⟨cu, q3⟩
      obtain ⟨cu, hpb⟩ := hpb
      rcases q with q | q | ⟨x, f, hx, q⟩
      · subst q
        rw [b3] at hpb
        injection hpb with hpb
        injection hpb with _ hpb _
        exact absurd hpb (by decide)
      · exact (h.s0.dm.fx f3 (nM _ _ _ h.s0.dm)).ne hpb q
      · obtain ⟨bs, _, bt⟩ := h.s0.sc.con x f hx
        exact (k3 f bs bt).neC q (by decide) hpb
    · intro o2 ho2
      rcases List.mem_append.1 ho2 with ho2 | ho2
      · exact (h.pok o2 ho2).same fun f bs e b => k4 f bs b (h.hs.lep o2 ho2 f e)
      · obtain rfl := List.mem_singleton.1 ho2
        exact ok.same fun f bs e b => k4 f bs b (oblw f e)
    · refine ⟨fun x g hx => ?_, fun o2 ho2 f e => ?_, fun o2 ho2 f e x g b hx e1 e2 => ?_, ?_⟩
      · obtain ⟨bs, _, bt⟩ := s1.sc.con x g hx
        exact (h.hs.le1 x g hx).on on (fun b e => Nat.lt_of_lt_of_le (bt.lt e) f3.size) fun f b e1 e2 e3 => (hf1 f x g b e1 hx e3 e2).elim
      · rcases List.mem_append.1 ho2 with ho2 | ho2
        · exact (h.hs.lep o2 ho2 f e).on on (fun b eb => Nat.lt_of_lt_of_le ((h.pok o2 ho2).lt e eb) f3.size) fun f2 b e1 e2 e3 => (hfp f2 o2 f b e1 ho2 e e3 e2).elim
        · obtain rfl := List.mem_singleton.1 ho2
          refine (oblw f e).on on (fun b eb => Nat.lt_of_lt_of_le (ok.lt e eb) f3.size) fun f2 b e1 e2 e3 => ?_
          rw [e] at e1
          cases e1
          exact Nat.le_refl _
      · rcases List.mem_append.1 ho2 with ho2 | ho2
        · exact h.hs.dis o2 ho2 f e x g b hx e1 e2
        · obtain rfl := List.mem_singleton.1 ho2
          exact hf1 f x g b e hx e1 e2
      · rw [List.pairwise_append]
        refine ⟨h.hs.pdi, List.pairwise_singleton _ _, fun o2 ho2 o3 ho3 f f3 b e1 e2 e3 e4 => ?_⟩
        obtain rfl := List.mem_singleton.1 ho3
        exact hfp f3 o2 f b e2 ho2 e1 e3 e4
    · intro x hx
      rw [nmsL_snoc] at hx
      rw [← h.sam x fun q => hx (List.mem_append_left _ q)]
      exact on.other x fun q => hx (List.mem_append_right _ q)
    · intro x bs e
      have := ln_cn h.l0 x bs e
      omega
    · intro x bs e
      have := h.l1 x bs e
      rw [bytesL_snoc]
      omega
    · show (M.ps ++ [o]).length + bytesL (M.ps ++ [o]) ≤ K + o.e.bytes + 2
      rw [bytesL_snoc, List.length_append, List.length_singleton]
      have := h.lp
      omega
    · intro b e
      rcases on.mbk with q | ⟨b2, q1, q2⟩
      · exact .inl (h.o0 b (by rw [← q]; exact e))
      · rw [q1] at e
        cases e
        have := f3.size
        exact .inr (by omega)
    · intro x f b hx e
      rcases on.from_ x f hx with ⟨y, h0, hy, q1, q2⟩ | q | q
      · exact .inl (h.oh0 y h0 b hy (by rw [← q1]; exact e))
      · have := q b e
        have := f3.size
        exact .inr (by omega)
      · exact hfo f b q e
    · intro o2 ho2 f b e1 e2
      rcases List.mem_append.1 ho2 with ho2 | ho2
      · exact .inl (h.ohp o2 ho2 f b e1 e2)
      · obtain rfl := List.mem_singleton.1 ho2
        exact hfo f b e1 e2
  · refine (f3.mono fun b _ q => ?_).next fx4 fun b _ q => ?_
    · rcases q with q | q
      · subst q; exact .inl h.oB
      · exact .inl (h.op b q)
    · rcases q with q | q | ⟨x, f, hx, q⟩
      · subst q; exact .inl h.oB
      · exact .inl (h.o0 b q)
      · exact .inl (h.oh0 x f b hx q)
end Go.Proofs.Ytokgegbodbnimaa
