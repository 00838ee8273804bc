import Derived.Test.YtokgegbodbnimaaPoA
namespace Go.Proofs.Ytokgegbodbnimaa
open Go.RowKit Go.Maps

/-- Where nothing is pending, what is durable is what is seen. -/
theorem Sto.still {O : Nat → Prop} {B : Nat} {M : Mm} {m0 m1 : Cn} {K : Nat} {W : World} (h : Sto O B M m0 m1 K W) (hp : M.ps = []) : m0 = m1 := by
  obtain ⟨k1, s1, _⟩ := h.s1
  funext x
  have e : M.H0 x = M.H1 x := h.sam x (by rw [hp]; simp [nmsL])
  cases hh : M.H0 x with
  | none => rw [h.s0.sc.non x hh, s1.sc.non x (by rw [← e]; exact hh)]
  | some f =>
    obtain ⟨b0, e0, t0⟩ := h.s0.sc.con x f hh
    obtain ⟨b1, e1, t1⟩ := s1.sc.con x f (by rw [← e]; exact hh)
    have hu : u8 b0 = u8 b1 := by
      rcases t0.form with ⟨_, q⟩ | ⟨g, cu, q1, q2, _, _, _, q3⟩
      · have l1 := t1.len
        have l0 := t0.len
        rw [q] at l0
        have : b1 = [] := List.length_eq_zero_iff.1 (by rw [l1, ← l0]; rfl)
        rw [q, this]
      · rcases t1.form with ⟨q4, _⟩ | ⟨g2, cu2, q4, q5, _, _, _, q6⟩
        · rw [q4] at q1; cases q1
        · rw [q1] at q4
          cases q4
          rw [q2] at q5
          injection q5 with q5
          injection q5 with q5 _ _
          subst q5
          rw [← q3, ← q6]
    rw [e0, e1]
    have inj : ∀ a b : List Int, u8 a = u8 b → a = b := fun a b z => by
      unfold u8 at z
      exact (List.map_inj_right (fun p q w => by injection w)).1 z
    rw [inj _ _ hu]
set_option maxRecDepth 100000 in
set_option maxHeartbeats 4000000 in
theorem SetCapacity_any {O : Nat → Prop} {B : Nat} {M : Mm} {m0 m1 : Cn} {K : Nat} {W : World} (h : Sto O B M m0 m1 K W) (c : Int) :
    Calls Try.prog 25 #[.pointer (some ⟨B, 0, none⟩), .int .i64 c] W fun v W' => v = .returned (.int .i64 (if 0 ≤ c ∧ c ≤ 1073741824 then 0 else 1)) ∧ (∃ M2 : Mm, Sto O B M2 m0 m1 K W' ∧ M2.ps = M.ps ∧ M2.u0 = M.u0) ∧ Fx O W W' := by
  have cI := isCapacity_any c W
  by_cases hc : 0 ≤ c ∧ c ≤ 1073741824
  · rw [if_pos hc]
    rw [decide_eq_true hc] at cI
    have c5 := h.cells 5 (.int .i64 M.cap) rfl
    have f5 := (cell_blk h.blk 5).2
    have HE := hide (show (∃ M2 : Mm, Sto O B M2 m0 m1 K (W.setCell ⟨B, 5, none⟩ (.int .i64 c)) ∧ M2.ps = M.ps ∧ M2.u0 = M.u0) ∧ Fx O W (W.setCell ⟨B, 5, none⟩ (.int .i64 c)) from by
      have f : Fx (fun b => b = B) W (W.setCell ⟨B, 5, none⟩ (.int .i64 c)) := Fx.set (P := fun b => b = B) (Fx.refl _ W) rfl _ _
      obtain ⟨k1, s1, hk1⟩ := h.s1
      have kp : ∀ g bs, Bt W g bs → Bt (W.setCell ⟨B, 5, none⟩ (.int .i64 c)) g bs := fun g bs b => b.fx f fun z e q => by subst q; exact b.neC e (by decide) h.blk
      have dk : ∀ d H k, Dm W d H k → Dm (W.setCell ⟨B, 5, none⟩ (.int .i64 c)) d H k := fun d H k dm => dm.fx f fun z e q => by subst q; exact dm.ne h.blk e
      refine ⟨⟨{ M with cap := c }, ⟨?_, ⟨dk _ _ _ h.s0.dm, h.s0.sc.same fun _ g bs _ b => kp g bs b⟩, ⟨k1, ⟨dk _ _ _ s1.dm, s1.sc.same fun _ g bs _ b => kp g bs b⟩, hk1⟩, h.mne, ?_, fun o ho => (h.pok o ho).same fun g bs _ b => kp g bs b, h.hs, h.sam, h.l0, h.l1, h.lp, h.hK, h.oB, h.o0, h.o1, h.op, h.oh0, h.oh1, h.ohp⟩, rfl, rfl⟩, f.mono fun b _ e => by subst e; exact h.oB⟩
      · rw [set_blk h.blk]
        rfl
      · refine own_same h.pen fun b e => f.blk b (World.ownsRow.lt h.pen b e).2 fun q => ?_
        subst q
        rcases h.pen.2 with ⟨q2, _⟩ | ⟨g2, cp, cu, q2, _, q3, _⟩
        · rw [q2] at e; cases e
        · rw [q2] at e
          cases e
          rw [h.blk] at q3
          injection q3 with q3
          injection q3 with _ q3 _
          exact absurd q3 (by decide))
    clear h
    go_enter Try.func25, Try.ntmps25
    go_wp2_with (first | (go_at_call 49; refine cI.mono ?_; rintro x1 w1 ⟨rfl, rfl⟩))
    go_ret
    exact ⟨rfl, unhide HE⟩
  · rw [if_neg hc]
    rw [decide_eq_false hc] at cI
    have HE := hide (show (∃ M2 : Mm, Sto O B M2 m0 m1 K W ∧ M2.ps = M.ps ∧ M2.u0 = M.u0) ∧ Fx O W W from ⟨⟨M, h, rfl, rfl⟩, Fx.refl _ _⟩)
    clear h
    go_enter Try.func25, Try.ntmps25
    go_wp2_with (first | (go_at_call 49; refine cI.mono ?_; rintro x1 w1 ⟨rfl, rfl⟩))
    go_ret
    exact ⟨rfl, unhide HE⟩
end Go.Proofs.Ytokgegbodbnimaa
