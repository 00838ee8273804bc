import Derived.Test.YtboajcpfoejfeaaTzR
namespace Go.Proofs.Ytboajcpfoejfeaa
open Go.RowKit Go.Maps

/-- THE GROUPS BEFORE AND BEHIND THE SORTING. -/
structure T2 (w wr : World) (gv tv : Value) (E T : List En) (t : Nat) : Prop where
  row : wr.ownsRow w.heap.size 28 1 gv E.length (E.map (·.1))
  rest : ∀ (j : Nat) (x : En), t ≤ j → E[j]? = some x → wr.ownsRow w.heap.size 9 1 x.1 x.2.length (sv x.2)
  tw : Ga w wr tv T
  inj : Inj T
  sep : ∀ e ∈ T, ∀ (j g : Nat) (x : En), t ≤ j → E[j]? = some x → e.1.ownBlock = some g → x.1.ownBlock ≠ some g
  ne : ∀ g, gv.ownBlock = some g → tv.ownBlock ≠ some g
theorem T2.start {w wr : World} {gv : Value} {E : List En} (h : Ga w wr gv E) : T2 w wr gv (.slice none 0 0) E [] 0 :=
  ⟨h.row, fun j x _ hx => h.own x (List.mem_of_getElem? hx), ⟨own_nil _ _ _, fun e he => by simp at he, h.bw⟩, fun i j g x y hx => by simp at hx, fun e he => by simp at he, fun g _ e => by cases e⟩
/-- ONE GROUP TURNED IN ITS OWN BLOCK. -/
theorem T2.turn {w wr X : World} {gv tv : Value} {E T : List En} {t g : Nat} {x0 : En} (h : T2 w wr gv tv E T t) (hi : Inj E) (hx : E[t]? = some x0) (hg : x0.1.ownBlock = some g) (hgr : wr.grownBy X (some g)) :
    T2 w X gv tv E T (t + 1) ∧ (∀ e ∈ T, e.1.ownBlock ≠ some g) ∧ (∀ (j : Nat) (x : En), t + 1 ≤ j → E[j]? = some x → x.1.ownBlock ≠ some g) ∧ tv.ownBlock ≠ some g ∧ gv.ownBlock ≠ some g := by
  have hown := h.rest t x0 (Nat.le_refl _) hx
  obtain ⟨cur, hc⟩ := own_type hown hg
  have hT : ∀ e ∈ T, e.1.ownBlock ≠ some g := fun e he q => h.sep e he t g x0 (Nat.le_refl _) hx q hg
  have hE : ∀ (j : Nat) (x : En), t + 1 ≤ j → E[j]? = some x → x.1.ownBlock ≠ some g := fun j x hj hxj q => by
    have := hi t j g x0 x hx hxj hg q
    omega
  have htv : tv.ownBlock ≠ some g := fun q => by
    obtain ⟨c2, h2⟩ := own_type h.tw.row q
    rw [hc] at h2; cases h2
  have hgv : gv.ownBlock ≠ some g := fun q => by
    obtain ⟨c2, h2⟩ := own_type h.row q
    rw [hc] at h2; cases h2
  have hlo := (World.ownsRow.lt hown g hg).1
  refine ⟨⟨own_same h.row fun b e => hgr.block b (World.ownsRow.lt h.row b e).2 fun q => hgv (by rw [e, q]), fun j x hj hxj => own_same (h.rest j x (by omega) hxj) fun b e => hgr.block b (World.ownsRow.lt (h.rest j x (by omega) hxj) b e).2 fun q => hE j x hj hxj (by rw [e, q]), ⟨own_same h.tw.row fun b e => hgr.block b (World.ownsRow.lt h.tw.row b e).2 fun q => htv (by rw [e, q]), fun e he => own_same (h.tw.own e he) fun b q => hgr.block b (World.ownsRow.lt (h.tw.own e he) b q).2 fun z => hT e he (by rw [q, z]), ?_⟩, h.inj, fun e he j b x hj hxj => h.sep e he j b x (by omega) hxj, h.ne⟩, hT, hE, htv, hgv⟩
  exact h.tw.bw.grown hgr h.tw.bw.size fun b e => by cases e; exact hlo
/-- AND TURNED AGAIN. -/
theorem T2.again {w wr X : World} {gv tv : Value} {E T : List En} {t g : Nat} (h : T2 w wr gv tv E T t) (hT : ∀ e ∈ T, e.1.ownBlock ≠ some g) (hE : ∀ (j : Nat) (x : En), t ≤ j → E[j]? = some x → x.1.ownBlock ≠ some g) (htv : tv.ownBlock ≠ some g) (hgv : gv.ownBlock ≠ some g) (hlo : w.heap.size ≤ g) (hgr : wr.grownBy X (some g)) : T2 w X gv tv E T t := by
  refine ⟨own_same h.row fun b e => hgr.block b (World.ownsRow.lt h.row b e).2 fun q => hgv (by rw [e, q]), fun j x hj hxj => own_same (h.rest j x hj hxj) fun b e => hgr.block b (World.ownsRow.lt (h.rest j x hj hxj) b e).2 fun q => hE j x hj hxj (by rw [e, q]), ⟨own_same h.tw.row fun b e => hgr.block b (World.ownsRow.lt h.tw.row b e).2 fun q => htv (by rw [e, q]), fun e he => own_same (h.tw.own e he) fun b q => hgr.block b (World.ownsRow.lt (h.tw.own e he) b q).2 fun z => hT e he (by rw [q, z]), ?_⟩, h.inj, h.sep, h.ne⟩
  exact h.tw.bw.grown hgr h.tw.bw.size fun b e => by cases e; exact hlo
/-- LAID AMONG THE TWINS. -/
theorem T2.app {w wr w9 : World} {gv tv tv' : Value} {E T : List En} {t g : Nat} {x : En} {ob : Obj} (h : T2 w wr gv tv E T t) (hT : ∀ e ∈ T, e.1.ownBlock ≠ some g) (hE : ∀ (j : Nat) (x : En), t ≤ j → E[j]? = some x → x.1.ownBlock ≠ some g) (hx : wr.ownsRow w.heap.size 9 1 x.1 x.2.length (sv x.2)) (hb : x.1.ownBlock = some g)
    (hown : w9.ownsRow w.heap.size 28 1 tv' (T.length + 1) (T.map (·.1) ++ [x.1])) (hg : (wr.alloc ob).grownBy w9 tv.ownBlock) (hv : tv'.ownBlock = tv.ownBlock ∨ tv'.ownBlock = some (wr.alloc ob).heap.size) : T2 w w9 gv tv' E (T ++ [x]) t := by
  have hba : Below wr.heap.size wr (wr.alloc ob) := (Below.refl _ wr).alloc (Nat.le_refl _) ob
  have keep : ∀ b, b < wr.heap.size → tv.ownBlock ≠ some b → w9.heap[b]? = wr.heap[b]? := fun b hb2 hn => (hg.block b (Nat.lt_of_lt_of_le hb2 hba.size) fun e => hn e.symm).trans (hba.block b hb2)
  have row9 : ∀ {v : Value} {l : List Nm}, wr.ownsRow w.heap.size 9 1 v l.length (sv l) → w9.ownsRow w.heap.size 9 1 v l.length (sv l) := fun {v l} q => own_same q fun b e => keep b (World.ownsRow.lt q b e).2 fun e3 => by
    obtain ⟨c1, q1⟩ := own_type q e
    obtain ⟨c2, q2⟩ := own_type h.tw.row e3
    rw [q1] at q2; cases q2
  refine ⟨own_same h.row fun b e => keep b (World.ownsRow.lt h.row b e).2 fun e3 => h.ne b e e3, fun j y hj hy => row9 (h.rest j y hj hy), ⟨by rw [List.length_append, List.map_append]; exact hown, fun e he => ?_, ?_⟩, fun i j b y z hy hz hb1 hb2 => ?_, fun e he j b y hj hy hb1 => ?_, fun b e => ?_⟩
  · rcases List.mem_append.1 he with q | q
    · exact row9 (h.tw.own e q)
    · rw [List.mem_singleton] at q; subst q; exact row9 hx
  · exact (bl_t h.tw.bw hba).grown hg (Nat.le_trans h.tw.bw.size hba.size) fun b e => (World.ownsRow.lt h.tw.row b e).1
  · have hh : ∀ (i : Nat) (y : En), (T ++ [x])[i]? = some y → (T[i]? = some y ∧ y ∈ T) ∨ (i = T.length ∧ y = x) := fun i y hy => by
      by_cases hi : i < T.length
      · rw [List.getElem?_append_left hi] at hy; exact .inl ⟨hy, List.mem_of_getElem? hy⟩
      · rw [List.getElem?_append_right (by omega)] at hy
        have h0 : i - T.length = 0 := by have := (List.getElem?_eq_some_iff.1 hy).1; simp at this; omega
        rw [h0] at hy
        exact .inr ⟨by omega, (Option.some.inj hy).symm⟩
    rcases hh i y hy with ⟨p1, p2⟩ | ⟨p1, p2⟩
    · rcases hh j z hz with ⟨q1, q2⟩ | ⟨q1, q2⟩
      · exact h.inj i j b y z p1 q1 hb1 hb2
      · rw [q2, hb] at hb2; rw [← hb2] at hb1; exact absurd hb1 (hT y p2)
    · rcases hh j z hz with ⟨q1, q2⟩ | ⟨q1, q2⟩
      · rw [p2, hb] at hb1; rw [← hb1] at hb2; exact absurd hb2 (hT z q2)
      · omega
  · rcases List.mem_append.1 he with q | q
    · exact h.sep e q j b y hj hy hb1
    · rw [List.mem_singleton] at q; subst q
      rw [hb] at hb1
      rw [← hb1]
      exact hE j y hj hy
  · rcases hv with q | q
    · rw [q]; exact h.ne b e
    · rw [q]
      intro e2
      have := (World.ownsRow.lt h.row b e).2
      have h9 := hba.size
      cases e2
      rw [World.size_alloc] at this
      omega
end Go.Proofs.Ytboajcpfoejfeaa
