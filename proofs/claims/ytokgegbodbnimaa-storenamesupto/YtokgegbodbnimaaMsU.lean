import Derived.Test.YtokgegbodbnimaaMsT
namespace Go.Proofs.Ytokgegbodbnimaa
open Go.RowKit Go.Maps

noncomputable def stp (o : Option Ope) (k : Option Int) (m : Cn) : Cn := match o, k with | some o, some k => (match o.rem k with | some o' => o'.cn m | none => m) | _, _ => m
/-- WHAT A CRASH LEAVES. -/
noncomputable def crI (ps : List Ope) (ks : List Int) (m : Cn) : Nat → Cn
  | 0 => m
  | i + 1 => stp ps[i]? ks[i]? (crI ps ks m i)
theorem bytesL_drop (ps : List Opn) (i : Nat) (h : i < ps.length) : bytesL (ps.drop i) = ps[i].e.bytes + bytesL (ps.drop (i + 1)) := by
  rw [List.drop_eq_getElem_cons h]
  unfold bytesL
  rw [List.map_cons, List.sum_cons]
/-- AMONG THE CHOICE'S NUMBERS. -/
structure Cr (O : Nat → Prop) (B : Nat) (M : Mm) (m1 : Cn) (K k1 : Nat) (ks : List Int) (w : World) (i : Nat) (W : World) (d0 : Value) (u0 : Int) (H0 : Nm → Option Hd) : Prop where
  blk : W.heap[B]? = some (.cells ({ M with d0 := d0, u0 := u0 } : Mm).cur 75 (0, 0))
  dir : Sd W d0 H0 (crI (M.ps.map Opn.e) ks m1 i) (K + 2 * M.ps.length + i)
  s1 : Sd W M.d1 M.H1 m1 k1
  mne : ∀ b, mb d0 = some b → mb M.d1 ≠ some b
  pen : W.ownsRow 0 84 1 M.pv M.ps.length (vals M.ps)
  pok : ∀ o ∈ M.ps, o.Ok W
  hs : Hs H0 M.H1 M.ps
  nod : ∀ j (hj : j < M.ps.length), i ≤ j → ∀ f, M.ps[j].od = some f → ∀ y g b, H0 y = some g → bk g = some b → bk f = some b → False
  sam : ∀ x, x ∉ nmsL M.ps → H0 x = M.H1 x
  len : ∀ x bs, crI (M.ps.map Opn.e) ks m1 i x = some bs → bs.length + bytesL (M.ps.drop i) ≤ K
  lb : bytesL (M.ps.drop i) ≤ K
  o0 : ∀ b, mb d0 = some b → Nw O w.heap.size b
  oh0 : ∀ x f b, H0 x = some f → bk f = some b → Nw O w.heap.size b
  fx : Fx (Nw O w.heap.size) w W
theorem Cr.later {O : Nat → Prop} {B : Nat} {M : Mm} {m1 : Cn} {K k1 : Nat} {ks : List Int} {w : World} {i : Nat} {W W2 : World} {d0 : Value} {u0 : Int} {H0 : Nm → Option Hd} (h : Cr O B M m1 K k1 ks w i W d0 u0 H0) (b : Below W.heap.size W W2) : Cr O B M m1 K k1 ks w i W2 d0 u0 H0 :=
  ⟨(b.block B (blk_lt h.blk)).trans h.blk, h.dir.later b, h.s1.later b, h.mne, owns_below h.pen b, fun o ho => (h.pok o ho).same fun _ _ _ q => q.later b, h.hs, h.nod, h.sam, h.len, h.lb, h.o0, h.oh0, h.fx.trans (Fx.of b)⟩
theorem crI_next {ps : List Opn} {ks : List Int} {m : Cn} {i : Nat} (h1 : i < ps.length) (h2 : i < ks.length) : crI (ps.map Opn.e) ks m (i + 1) = (match ps[i].e.rem ks[i] with | some o' => o'.cn (crI (ps.map Opn.e) ks m i) | none => crI (ps.map Opn.e) ks m i) := by
  show stp (ps.map Opn.e)[i]? ks[i]? _ = _
  rw [List.getElem?_map, List.getElem?_eq_getElem h1, List.getElem?_eq_getElem h2]
  rfl
/-- Nothing is left of it. -/
theorem Cr.none_ {O : Nat → Prop} {B : Nat} {M : Mm} {m1 : Cn} {K k1 : Nat} {ks : List Int} {w : World} {i : Nat} {W W2 : World} {d0 : Value} {u0 : Int} {H0 : Nm → Option Hd} (h : Cr O B M m1 K k1 ks w i W d0 u0 H0) (h1 : i < M.ps.length) (h2 : i < ks.length) (r : Rm W W2 M.ps[i] ks[i] none) : Cr O B M m1 K k1 ks w (i + 1) W2 d0 u0 H0 := by
  have e : crI (M.ps.map Opn.e) ks m1 (i + 1) = crI (M.ps.map Opn.e) ks m1 i := by
    rw [crI_next h1 h2, ← r.e]
    rfl
  have h3 := h.later r.bel
  exact ⟨h3.blk, by rw [e]; exact h3.dir.mono (by omega), h3.s1, h.mne, h3.pen, h3.pok, h.hs, fun j hj hij => h.nod j hj (by omega), h.sam, fun x bs q => by
    rw [e] at q
    have := h.len x bs q
    rw [bytesL_drop M.ps i h1] at this
    omega, by
    have := h.lb
    rw [bytesL_drop M.ps i h1] at this
    omega, h.o0, h.oh0, h3.fx⟩
theorem od_sub {o o' : Opn} {W W2 : World} {k : Int} (r : Rm W W2 o k (some o')) {f : Hd} {b : Nat} (e1 : o'.od = some f) (e2 : bk f = some b) : o.od = some f ∨ W.heap.size ≤ b := by
  rcases r.fr o' rfl with q | q
  · exact .inl (by rw [← q]; exact e1)
  · exact .inr (q f b e1 e2)
/-- Something is left. -/
theorem Cr.some_ {O : Nat → Prop} {B : Nat} {M : Mm} {m1 : Cn} {K k1 : Nat} {ks : List Int} {w : World} {i : Nat} {W W2 : World} {d0 : Value} {u0 : Int} {H0 : Nm → Option Hd} (h : Cr O B M m1 K k1 ks w i W d0 u0 H0) (h1 : i < M.ps.length) (h2 : i < ks.length) {o' : Opn} (r : Rm W W2 M.ps[i] ks[i] (some o')) (hK : K + 3 * M.ps.length ≤ 1099511627776) (hO : ∀ b, O b → b < w.heap.size) (h1B : O B) (o1 : ∀ b, mb M.d1 = some b → O b) (ohp : ∀ o ∈ M.ps, ∀ f b, o.od = some f → bk f = some b → O b) :
    Calls Try.prog o'.fO #[o'.ag, .pointer (some ⟨B, 0, none⟩)] W2.drew fun v W' => v = .returned (.tuple #[]) ∧ (∃ d2 u2 H2, Cr O B M m1 K k1 ks w (i + 1) W' d2 u2 H2) ∧ ∀ (g : Nat) (cs : Array Value) (t : TypeId), W2.heap[g]? = some (Obj.cells cs t (0, 0)) → t ≠ 75 → t ≠ 5 → W'.heap[g]? = W2.heap[g]? := by
  have h3 := h.later (r.bel.drew)
  have hsz : W.heap.size ≤ W2.drew.heap.size := r.bel.size
  have hwz : w.heap.size ≤ W.heap.size := h.fx.size
  have hmem : M.ps[i] ∈ M.ps := List.getElem_mem h1
  have olt : ∀ b, O b → b < W.heap.size := fun b q => Nat.lt_of_lt_of_le (hO b q) hwz
  have ee : crI (M.ps.map Opn.e) ks m1 (i + 1) = o'.e.cn (crI (M.ps.map Opn.e) ks m1 i) := by
    rw [crI_next h1 h2, ← r.e]
    rfl
  have hby := r.by_ o' rfl
  have hdr := bytesL_drop M.ps i h1
  -- apart
  have ap0 : ∀ f y g b, o'.od = some f → H0 y = some g → bk g = some b → bk f = some b → False := fun f y g b e1 e2 e3 e4 => by
    rcases od_sub r e1 e4 with q | q
    · exact h.nod i h1 (Nat.le_refl _) f q y g b e2 e3 e4
    · obtain ⟨bs, _, bt⟩ := h.dir.sc.con y g e2
      have := bt.lt e3
      omega
  have ap1 : ∀ f y g b, o'.od = some f → M.H1 y = some g → bk g = some b → bk f = some b → False := fun f y g b e1 e2 e3 e4 => by
    rcases od_sub r e1 e4 with q | q
    · exact h.hs.dis _ hmem f q y g b e2 e3 e4
    · obtain ⟨bs, _, bt⟩ := h.s1.sc.con y g e2
      have := bt.lt e3
      omega
  have C := on_any o' h3.blk (d := d0) rfl (u := u0) rfl h3.dir (Nat.lt_of_le_of_lt (show K + 2 * M.ps.length + i ≤ 1099511627776 by omega) (by decide)) ((r.ok o' rfl).same fun f bs _ q => q.later ((Below.refl _ _).drew)) ap0 (fun x bs q => by
    have := h.len x bs q
    omega)
  refine C.mono fun v W' ⟨q0, d2, H2, on⟩ => ⟨q0, ⟨d2, (o'.e.on (crI (M.ps.map Opn.e) ks m1 i, u0)).2, H2, ?_⟩, fun g cs t hg t1 t2 => on.fx.blk g (blk_lt hg) fun q => by
    rcases q with q | q | ⟨x, f, hx, q⟩
    · have hg2 : W2.drew.heap[B]? = some (Obj.cells cs t (0, 0)) := by rw [← q]; exact hg
      rw [h3.blk] at hg2
      injection hg2 with hg2
      injection hg2 with _ hg2 _
      exact t1 hg2.symm
    · exact h3.dir.dm.ne (show W2.drew.heap[g]? = _ from hg) q
    · obtain ⟨bs, _, bt⟩ := h3.dir.sc.con x f hx
      exact bt.neC q t2 hg⟩
  have fx := on.fx
  have k4 : ∀ g bs, Bt W2.drew g bs → Blw H0 g → Bt W' g bs := fun g bs b q => on.kept g bs b q
  have dne : ∀ d H k, Dm W2.drew d H k → mb d ≠ mb d0 ∨ mb d = none → Dm W' d H k := fun d H k dm hne => dm.fx fx fun b e q => by
    rcases q with q | q | ⟨x, f, hx, q⟩
    · exact dm.ne h3.blk (by rw [← q]; exact e)
    · rcases hne with hne | hne
      · exact hne (by rw [e, q])
      · rw [hne] at e; cases e
    · obtain ⟨bs, _, bt⟩ := h3.dir.sc.con x f hx
      exact bt.neM q dm e
  refine ⟨?_, ?_, ⟨dne _ _ _ h3.s1.dm ?_, h3.s1.sc.same fun x g bs hx b => k4 g bs b (h.hs.le1 x g hx)⟩, ?_, ?_, ?_, ⟨?_, ?_, h.hs.dis, h.hs.pdi⟩, ?_, ?_, ?_, ?_, ?_, ?_, ?_⟩
  · rw [on.blk]
    rfl
  · rw [ee, ← Ope.on1 _ _ u0]
    exact on.dir
  · cases hm : mb M.d1 with
    | none => exact .inr rfl
    | some b => exact .inl fun q => h.mne b q.symm hm
  · intro b e1 e2
    rcases on.mbk with q | ⟨b2, q1, q2⟩
    · exact h.mne b (by rw [← q]; exact e1) e2
    · rw [q1] at e1
      cases e1
      have := olt b (o1 b e2)
      omega
  · refine own_same h3.pen fun b e => fx.blk b (World.ownsRow.lt h3.pen b e).2 fun q => ?_
    have hpb : ∃ cu, W2.drew.heap[b]? = some (.cells cu 84 (0, 0)) := by
      rcases h3.pen.2 with ⟨q2, _⟩ | ⟨g2, cp, cu, q2, _, q3, _⟩
      · rw [q2] at e; cases e
      · rw [q2] at e
        cases e
        exact ⟨cu, q3⟩
    obtain ⟨cu, hpb⟩ := hpb
    rcases q with q | q | ⟨x, f, hx, q⟩
    · subst q
      rw [h3.blk] at hpb
      injection hpb with hpb
      injection hpb with _ hpb _
      exact absurd hpb (by decide)
    · exact h3.dir.dm.ne hpb q
    · obtain ⟨bs, _, bt⟩ := h3.dir.sc.con x f hx
      exact bt.neC q (by decide) hpb
  · intro o ho
    exact (h3.pok o ho).same fun f bs e b => k4 f bs b (h.hs.lep o ho f e)
  · intro x g hx
    obtain ⟨bs, _, bt⟩ := h3.s1.sc.con x g hx
    exact (h.hs.le1 x g hx).on on (fun b e => bt.lt e) fun f b e1 e2 e3 => (ap1 f x g b e1 hx e3 e2).elim
  · intro o ho f e
    refine (h.hs.lep o ho f e).on on (fun b eb => (h3.pok o ho).lt e eb) fun f2 b e1 e2 e3 => ?_
    rcases od_sub r e1 e2 with q | q
    · obtain ⟨j, hj, rfl⟩ := List.getElem_of_mem ho
      by_cases eij : i = j
      · subst eij
        rw [e] at q
        cases q
        exact Nat.le_refl _
      · exfalso
        have hp := List.pairwise_iff_getElem.1 h.hs.pdi
        rcases Nat.lt_or_ge i j with z | z
        · exact hp i j h1 hj z f2 f b q e e2 e3
        · exact hp j i hj h1 (by omega) f f2 b e q e3 e2
    · have := olt b (ohp o ho f b e e3)
      omega
  · intro j hj hij f e y g b hy e1 e2
    rcases on.from_ y g hy with ⟨z, h0, hz, q1, q2⟩ | q | q
    · exact h.nod j hj (by omega) f e z h0 b hz (by rw [← q1]; exact e1) e2
    · have := q b e1
      have := olt b (ohp _ (List.getElem_mem hj) f b e e2)
      omega
    · rcases od_sub r q e1 with q3 | q3
      · exact (List.pairwise_iff_getElem.1 h.hs.pdi) i j h1 hj (by omega) g f b q3 e e1 e2
      · have := olt b (ohp _ (List.getElem_mem hj) f b e e2)
        omega
  · intro x hx
    rw [← h.sam x hx]
    refine on.other x fun q => hx ?_
    rw [r.nm o' rfl] at q
    exact List.mem_flatMap.2 ⟨_, hmem, q⟩
  · intro x bs e
    rw [ee] at e
    have := ln_cn (o := o'.e) (K := K - (M.ps[i].e.bytes + bytesL (M.ps.drop (i + 1)))) (fun y cs q => by
      have := h.len y cs q
      omega) x bs e
    have := h.lb
    omega
  · have := h.lb
    omega
  · intro b e
    rcases on.mbk with q | ⟨b2, q1, q2⟩
    · exact h.o0 b (by rw [← q]; exact e)
    · rw [q1] at e
      cases e
      exact .inr (by omega)
  · intro x f b hx e
    rcases on.from_ x f hx with ⟨y, h0, hy, q1, q2⟩ | q | q
    · exact h.oh0 y h0 b hy (by rw [← q1]; exact e)
    · have := q b e
      exact .inr (by omega)
    · rcases od_sub r q e with q3 | q3
      · exact .inl (ohp _ hmem f b q3 e)
      · exact .inr (by omega)
  · refine h3.fx.next fx fun b _ q => ?_
    rcases q with q | q | ⟨x, f, hx, q⟩
    · subst q; exact .inl h1B
    · exact h.o0 b q
    · exact h.oh0 x f b hx q
end Go.Proofs.Ytokgegbodbnimaa
