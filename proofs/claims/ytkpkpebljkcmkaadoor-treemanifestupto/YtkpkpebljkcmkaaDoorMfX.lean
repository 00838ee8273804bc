import Derived.Test.YtkpkpebljkcmkaaDoorGnS
import Derived.OneCell
namespace Go.Proofs.YtkpkpebljkcmkaaDoor
open Go.RowKit

/-- A CELL OF A ROW OF THE CALL'S OWN IS WRITTEN. -/
theorem own_set {W : World} {base : Nat} {e : TypeId} {z g n cap m : Nat} {xs : List Value} (h : W.ownsRow base e z (.slice (some ⟨g, 0, none⟩) n cap) m xs) (k : Nat) (u : Value) :
    (W.setCell ⟨g, k, none⟩ u).ownsRow base e z (.slice (some ⟨g, 0, none⟩) n cap) m (xs.set k u) := by
  obtain ⟨h1, h2⟩ := h
  refine ⟨by rw [List.length_set]; exact h1, ?_⟩
  rcases h2 with ⟨h2, _⟩ | ⟨g', cap', cur, hv, hg, hh, r1, r2, r3, r4⟩
  · cases h2
  · cases hv
    refine Or.inr ⟨g, cap, cur.setIfInBounds k u, rfl, hg, ?_, r1, r2, by simpa using r3, ?_⟩
    · have hlt := blk_lt hh
      have h' : W.heap[g] = .cells cur e (0, 0) := by simpa [Array.getElem?_eq_getElem hlt] using hh
      show (W.heap.modify g _)[g]? = _
      rw [Array.getElem?_eq_getElem (by simpa using hlt), Array.getElem_modify_self, h']
      rfl
    · rw [Array.toList_setIfInBounds, List.take_set, r4]
theorem own_sets {base : Nat} {e : TypeId} {z g n cap m : Nat} : ∀ (vs : List Value) (o : Nat) {W : World} {xs : List Value}, W.ownsRow base e z (.slice (some ⟨g, 0, none⟩) n cap) m xs → ∃ ys, (W.setCells g o vs).ownsRow base e z (.slice (some ⟨g, 0, none⟩) n cap) m ys
  | [], _, _, xs, h => ⟨xs, h⟩
  | v :: r, o, _, _, h => by
    rw [World.setCells]
    exact own_sets r (o + 1) (own_set h o v)
theorem own_there {W : World} {base : Nat} {e : TypeId} {k g n cap : Nat} {xs : List Value} (h : W.ownsRow base e k (.slice (some ⟨g, 0, none⟩) n cap) n xs) {i : Nat} (hi : i < n) : W.there g (i * k) k := fun j hj => by
  have hl : xs.length = n * k := h.1
  have hlt : i * k + j < xs.length := by
    have := Nat.mul_le_mul_right k (show i + 1 ≤ n by omega)
    rw [Nat.succ_mul] at this
    omega
  exact ⟨by rw [owns_at h _ _ (List.getElem?_eq_getElem hlt)]; rfl, owns_fro h _⟩
/-- TWO ROWS OF THE CALL'S OWN, APART FROM EACH OTHER AND FROM WHAT MUST STAY. -/
structure X2 (P : Nat → Prop) (lo : Nat) (W0 wr : World) (t1 k1 : Nat) (x : Value) (n : Nat) (t2 k2 : Nat) (y : Value) (m : Nat) : Prop where
  rx : ∃ xs, wr.ownsRow lo t1 k1 x n xs
  ry : ∃ ys, wr.ownsRow lo t2 k2 y m ys
  px : ∀ g, x.ownBlock = some g → P g ∨ W0.heap.size ≤ g
  py : ∀ g, y.ownBlock = some g → P g ∨ W0.heap.size ≤ g
  ne : ∀ g, x.ownBlock = some g → y.ownBlock ≠ some g
  fx : Fx P W0 wr
section
variable {P : Nat → Prop} {lo n m t1 k1 t2 k2 : Nat} {W0 wr w2 : World} {x y : Value}
theorem X2.swap (h : X2 P lo W0 wr t1 k1 x n t2 k2 y m) : X2 P lo W0 wr t2 k2 y m t1 k1 x n := ⟨h.ry, h.rx, h.py, h.px, fun g e q => h.ne g q e, h.fx⟩
theorem Fx.later (h : Fx P W0 wr) (hb : Below wr.heap.size wr w2) : Fx P W0 w2 := ⟨h.bel.trans (hb.mono (Nat.zero_le _)), fun b hl hp => (hb.block b (Nat.lt_of_lt_of_le hl h.size)).trans (h.blk b hl hp)⟩
theorem X2.later (h : X2 P lo W0 wr t1 k1 x n t2 k2 y m) (hb : Below wr.heap.size wr w2) : X2 P lo W0 w2 t1 k1 x n t2 k2 y m := by
  obtain ⟨xs, h1⟩ := h.rx
  obtain ⟨ys, h2⟩ := h.ry
  exact ⟨⟨xs, own_low h1 hb⟩, ⟨ys, own_low h2 hb⟩, h.px, h.py, h.ne, h.fx.later hb⟩
theorem X2.form (h : X2 P lo W0 wr t1 k1 x n t2 k2 y m) : ∃ a c, x = .slice a n c := let ⟨_, h1⟩ := h.rx; owns_form h1
theorem X2.at_ (h : X2 P lo W0 wr t1 k1 x n t2 k2 y m) (h0 : 0 < n) : ∃ g c, x = .slice (some ⟨g, 0, none⟩) n c := by
  obtain ⟨xs, h1, h2⟩ := h.rx
  rcases h2 with ⟨_, h2⟩ | ⟨g, cap, cur, e, _⟩
  · omega
  · exact ⟨g, cap, e⟩
theorem X2.there {g c : Nat} (h : X2 P lo W0 wr t1 k1 (.slice (some ⟨g, 0, none⟩) n c) n t2 k2 y m) {i : Nat} (hi : i < n) : wr.there g (i * k1) k1 := let ⟨_, h1⟩ := h.rx; own_there h1 hi
theorem X2.put {g c : Nat} (h : X2 P lo W0 wr t1 k1 (.slice (some ⟨g, 0, none⟩) n c) n t2 k2 y m) (o : Nat) (cs : List Value) : X2 P lo W0 (wr.setCells g o cs) t1 k1 (.slice (some ⟨g, 0, none⟩) n c) n t2 k2 y m := by
  obtain ⟨xs, h1⟩ := h.rx
  obtain ⟨ys, h2⟩ := h.ry
  refine ⟨own_sets cs o h1, ⟨ys, own_same h2 fun b e => heap_setCells g cs o wr b fun q => h.ne g rfl (by rw [← q]; exact e)⟩, h.px, h.py, h.ne, ⟨below_setCells g (Nat.zero_le _) cs o wr h.fx.bel, fun b hb hp => ?_⟩⟩
  rw [heap_setCells g cs o wr b ?_]
  · exact h.fx.blk b hb hp
  · intro q
    subst q
    rcases h.px b rfl with q | q
    · exact hp q
    · omega
/-- ONE MORE BEHIND THE FIRST. -/
theorem X2.app {t bytes : Nat} {z : Value} (T : Ty t t1 k1 bytes z) (h : X2 P lo W0 wr t1 k1 x n t2 k2 y m) (hlo : lo ≤ wr.heap.size) {wx : World} (news : List Value) (hnl : news.length = k1) (hsrc : ∀ j u, news[j]? = some u → wx.cell? ⟨wr.heap.size, j, none⟩ = some u) (hx : Below wr.heap.size wr wx) (h1 : ∀ u ∈ news, u.oneCell' = true) (h63 : n + 1 ≤ maxLen) (hbt : (n + 1) * bytes ≤ 140737488355328) (ty : TypeId) :
    ∃ v' w9, (Builtin.append_ #[t, t] ty #[x, .slice (some ⟨wr.heap.size, 0, none⟩) 1 1]).run Tryd.prog wx = .ok v' w9 ∧ X2 P lo W0 w9 t1 k1 v' (n + 1) t2 k2 y m := by
  have h' := h.later hx
  obtain ⟨xs, r1⟩ := h'.rx
  obtain ⟨ys, r2⟩ := h'.ry
  obtain ⟨g, cap, w9, a1, a2, a3, a4⟩ := row_app2 T r1 (Nat.le_trans hlo hx.size) news (by rw [Nat.one_mul]; exact hnl) hsrc h1 (m := 1) (by decide) h63 hbt ty
  refine ⟨_, w9, a1, ⟨⟨_, a2⟩, ⟨ys, own_same r2 fun b e => a3.blk b (World.ownsRow.lt r2 b e).2 fun q => h'.ne b q e⟩, fun b e => ?_, h'.py, fun b e q => ?_, ⟨h'.fx.bel.trans a3.bel, fun b hb hp => ?_⟩⟩⟩
  · obtain rfl : g = b := Option.some.inj e
    rcases a4 with e2 | e2
    · exact h'.px g e2
    · exact .inr (Nat.le_trans h'.fx.size e2)
  · obtain rfl : g = b := Option.some.inj e
    rcases a4 with e2 | e2
    · exact h'.ne g e2 q
    · have := (World.ownsRow.lt r2 g q).2
      omega
  · rw [a3.blk b (Nat.lt_of_lt_of_le hb h'.fx.size) ?_]
    · exact h'.fx.blk b hb hp
    · intro q
      rcases h'.px b q with e | e
      · exact hp e
      · omega
end
end Go.Proofs.YtkpkpebljkcmkaaDoor
