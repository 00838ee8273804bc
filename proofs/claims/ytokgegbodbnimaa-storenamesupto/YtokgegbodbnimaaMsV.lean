import Derived.Test.YtokgegbodbnimaaMsU
namespace Go.Proofs.Ytokgegbodbnimaa
open Go.RowKit Go.Maps

/-- THE CHOICE'S NUMBERS AS THEY LIE, APART FROM THE STORE. -/
def Rk (O : Nat → Prop) (W : World) (ka : Option Addr) (ks : List Int) : Prop := ks = [] ∨ ∃ b o, ka = some ⟨b, o, none⟩ ∧ b < W.heap.size ∧ ¬ O b ∧ ∀ j (h : j < ks.length), W.cell? ⟨b, o + j, none⟩ = some (.int .i64 ks[j])
theorem neqI (o : Opn) (w : World) : (binOp .neq 84 (.iface o.ty o.ag) .nilIface).run Try.prog w = .ok (.bool true) w := by
  have h : (Op.equalIn (9999 + 1) 84 (.iface o.ty o.ag) .nilIface).run Try.prog w = .ok false w := by
    unfold Op.equalIn
    simp [run_underlying Try.underlying84]
  simp only [binOp]
  simp [Op.equal, Op.maxDepth, h]
theorem neqN (w : World) : (binOp .neq 84 .nilIface .nilIface).run Try.prog w = .ok (.bool false) w := by
  have h : (Op.equalIn (9999 + 1) 84 .nilIface .nilIface).run Try.prog w = .ok true w := by
    unfold Op.equalIn
    simp [run_underlying Try.underlying84]
  simp only [binOp]
  simp [Op.equal, Op.maxDepth, h]
/-- WHAT A CRASH HAS LEFT. -/
def Crd (O : Nat → Prop) (B : Nat) (M : Mm) (m1 : Cn) (K : Nat) (ks : List Int) (W W2 : World) : Prop := ∃ M2 : Mm, Sto (Nw O W.heap.size) B M2 (crI (M.ps.map Opn.e) ks m1 (min M.ps.length ks.length)) (crI (M.ps.map Opn.e) ks m1 (min M.ps.length ks.length)) (4 * K) W2 ∧ M2.ps = [] ∧ M2.cap = M.cap ∧ Fx (Nw O W.heap.size) W W2
/-- What is seen falls back. -/
theorem Sto.falls {O : Nat → Prop} {B : Nat} {M : Mm} {m0 m1 : Cn} {K k1 : Nat} {W Wb W1 : World} (h : Sto O B M m0 m1 K W) (hO : ∀ b, O b → b < W.heap.size) (ks : List Int) (s1 : Sd W M.d1 M.H1 m1 k1) (b : Below W.heap.size W Wb) (q : Lv Wb B 0 2 M.cur M.d0 M.d1 M.H0 M.H1 K k1 (nmsL M.ps) (nmsL M.ps).length W1) :
    ∃ d' u', Cr O B M m1 K k1 ks W 0 W1 d' u' M.H1 := by
  obtain ⟨d', u', q1, q2, q3⟩ := q.blk
  rw [lev_all fun x hx => (h.sam x hx).symm] at q2
  have hb := h.later b
  have kp : ∀ g bs, Bt W g bs → Bt W1 g bs := fun g bs t => (t.later b).far hb.blk hb.s0.dm q.fx
  have sc := s1.sc.same fun x g bs _ t => kp g bs t
  have hnl := nmsL_len M.ps
  refine ⟨d', u', ?_, ⟨q2.mono (by omega), sc⟩, ⟨q.d2, sc⟩, ?_, ?_, ?_, ⟨fun x g hx => sc.blw hx, fun o ho f e y g c hy e1 e2 => (h.hs.dis o ho f e y g c hy e1 e2).elim, h.hs.dis, h.hs.pdi⟩, fun j hj _ f e y g c hy e1 e2 => h.hs.dis _ (List.getElem_mem hj) f e y g c hy e1 e2, fun x _ => rfl, fun x bs e => h.l1 x bs e, ?_, ?_, fun x f c hx e => .inl (h.oh1 x f c hx e), ?_⟩
  · rw [q1]
    rfl
  · intro c e1 e2
    rcases q3 with q3 | ⟨b2, q3, q4⟩
    · exact h.mne c (by rw [← q3]; exact e1) e2
    · rw [q3] at e1
      cases e1
      have := hO c (h.o1 c e2)
      have := b.size
      omega
  · refine own_same hb.pen fun c e => q.fx.blk c (World.ownsRow.lt hb.pen c e).2 fun z => ?_
    rcases hb.pen.2 with ⟨q2, _⟩ | ⟨g2, cp, cu, q2, _, q3, _⟩
    · rw [q2] at e; cases e
    · rw [q2] at e
      cases e
      rcases z with z | z
      · have z2 : g2 = B := z
        rw [z2, hb.blk] at q3
        injection q3 with q3
        injection q3 with _ q3 _
        exact absurd q3 (by decide)
      · exact hb.s0.dm.ne q3 z
  · intro o ho
    exact (h.pok o ho).same fun f bs _ t => kp f bs t
  · have := h.lp
    simp only [List.drop_zero]
    omega
  · intro c e
    rcases q3 with q3 | ⟨b2, q3, q4⟩
    · exact .inl (h.o0 c (by rw [← q3]; exact e))
    · rw [q3] at e
      cases e
      have := b.size
      exact .inr (by omega)
  · refine (Fx.of b).next q.fx fun c _ z => ?_
    rcases z with z | z
    · subst z; exact .inl h.oB
    · exact .inl (h.o0 c z)
/-- The end of a crash. -/
theorem Cr.ends {O : Nat → Prop} {B : Nat} {M : Mm} {m1 : Cn} {K k1 : Nat} {ks : List Int} {w W W2 : World} {d0 : Value} {u0 : Int} {H0 : Nm → Option Hd} (h : Cr O B M m1 K k1 ks w (min M.ps.length ks.length) W d0 u0 H0) (hK : 4 * K ≤ 1099511627776) (hk1 : k1 + 2 * M.ps.length ≤ K) (hB : O B) (o1 : ∀ b, mb M.d1 = some b → O b) (hpl : M.ps.length ≤ K) (hl : ∀ x bs, crI (M.ps.map Opn.e) ks m1 (min M.ps.length ks.length) x = some bs → bs.length ≤ K)
    (q : Lv W B 2 0 ({ M with d0 := d0, u0 := u0 } : Mm).cur M.d1 d0 M.H1 H0 k1 (K + 2 * M.ps.length + min M.ps.length ks.length) (nmsL M.ps) (nmsL M.ps).length W2) :
    (W2.cell? ⟨B, 4, none⟩ = some M.pv ∧ W2.frozen? ⟨B, 4, none⟩ = false) ∧ ((∀ i, W2.frozen? ⟨B, i, none⟩ = false) ∧ W2.cell? ⟨B, 7, none⟩ = some (.bool false) ∧ W2.cell? ⟨B, 8, none⟩ = some (.bool false)) ∧ Crd O B M m1 K ks w (((W2.setCell ⟨B, 4, none⟩ (.slice none 0 0)).setCell ⟨B, 7, none⟩ (.bool false)).setCell ⟨B, 8, none⟩ (.bool false)) := by
  obtain ⟨d', u', q1, q2, q3⟩ := q.blk
  rw [lev_all h.sam] at q2
  have hnl := nmsL_len M.ps
  have e4 : ((({ M with d0 := d0, u0 := u0 } : Mm).cur.setIfInBounds 2 d').setIfInBounds (2 + 1) (.int .i64 u'))[4]? = some M.pv := rfl
  refine ⟨⟨(cell_blk q1 4).1.trans e4, (cell_blk q1 4).2⟩, ⟨fun i => (cell_blk q1 i).2, (cell_blk q1 7).1.trans rfl, (cell_blk q1 8).1.trans rfl⟩, { M with d0 := d0, u0 := u0, d1 := d', u1 := u', pv := .slice none 0 0, H0 := H0, H1 := H0, ps := [] }, ?_, rfl, rfl, ?_⟩
  · have bset := set_blk (set_blk (set_blk q1 4 (.slice none 0 0)) 7 (.bool false)) 8 (.bool false)
    have kp : ∀ g bs, Bt W g bs → Bt (((W2.setCell ⟨B, 4, none⟩ (.slice none 0 0)).setCell ⟨B, 7, none⟩ (.bool false)).setCell ⟨B, 8, none⟩ (.bool false)) g bs := fun g bs b => by
      have b2 : Bt W2 g bs := b.far h.blk h.s1.dm q.fx
      refine b2.same fun z e => ?_
      have hz : z ≠ B := fun q => by subst q; exact b2.neC e (by decide) q1
      rw [set_other _ _ _ _ _ hz, set_other _ _ _ _ _ hz, set_other _ _ _ _ _ hz]
    have dmk : ∀ d H k, Dm W2 d H k → Dm (((W2.setCell ⟨B, 4, none⟩ (.slice none 0 0)).setCell ⟨B, 7, none⟩ (.bool false)).setCell ⟨B, 8, none⟩ (.bool false)) d H k := fun d H k dm => dm.same fun z e => by
      have hz : z ≠ B := fun q => by subst q; exact dm.ne q1 e
      rw [set_other _ _ _ _ _ hz, set_other _ _ _ _ _ hz, set_other _ _ _ _ _ hz]
    have sc := h.dir.sc.same fun x g bs _ b => kp g bs b
    refine ⟨?_, ⟨(dmk _ _ _ q.d2).mono (by omega), sc⟩, ⟨_, ⟨dmk _ _ _ q2, sc⟩, ?_⟩, ?_, ⟨rfl, .inl ⟨rfl, rfl⟩⟩, fun o ho => (by cases ho), ⟨fun x g hx => sc.blw hx, fun o ho => (by cases ho), fun o ho => (by cases ho), List.Pairwise.nil⟩, fun x _ => rfl, fun x bs e => ?_, fun x bs e => ?_, by simp [bytesL], hK, .inl hB, h.o0, ?_, fun b e => (by cases e), h.oh0, h.oh0, fun o ho => (by cases ho)⟩
    · rw [bset]
      rfl
    · show k1 + (nmsL M.ps).length + 2 * 0 ≤ 4 * K
      omega
    · intro b e1 e2
      have e2' : mb d' = some b := e2
      rcases q3 with q3 | ⟨b2, q3, q4⟩
      · exact h.mne b e1 (by rw [← q3]; exact e2')
      · have := h.dir.dm.lt e1
        rw [q3] at e2'
        cases e2'
        omega
    · have := hl x bs e
      omega
    · have := hl x bs e
      simp [bytesL]
      omega
    · intro b e
      have e' : mb d' = some b := e
      rcases q3 with q3 | ⟨b2, q3, q4⟩
      · exact .inl (o1 b (by rw [← q3]; exact e'))
      · rw [q3] at e'
        cases e'
        have := h.fx.size
        exact .inr (by omega)
  · have f2 := h.fx.next q.fx fun b _ e => by
      rcases e with e | e
      · exact .inl (show O b by rw [e]; exact hB)
      · exact .inl (o1 b e)
    exact ((f2.set (.inl hB) _ _).set (.inl hB) _ _).set (.inl hB) _ _
end Go.Proofs.Ytokgegbodbnimaa
