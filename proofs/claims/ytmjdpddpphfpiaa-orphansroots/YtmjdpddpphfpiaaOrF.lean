import Derived.Test.YtmjdpddpphfpiaaOrE
namespace Go.Proofs.Ytmjdpddpphfpiaa
open Go.RowKit Go.Maps Go.Sort Go.Shelf

theorem own_set {W : World} {base e g n cap : Nat} {xs : List Value} (h : W.ownsRow base e 1 (.slice (some ⟨g, 0, none⟩) n cap) n xs) (i : Nat) (u : Value) : (W.setCell ⟨g, i, none⟩ u).ownsRow base e 1 (.slice (some ⟨g, 0, none⟩) n cap) n (xs.set i u) := by
  rcases h.2 with ⟨q, _⟩ | ⟨g2, cap2, cur, e, hg, hh, h1, h2, h3, h4⟩
  · cases q
  · cases e
    refine ⟨by rw [List.length_set]; exact h.1, .inr ⟨g, cap, cur.setIfInBounds i u, rfl, hg, set_blk hh i u, h1, h2, by simpa using h3, ?_⟩⟩
    rw [Array.toList_setIfInBounds, List.take_set, h4]
theorem own_low {W W2 : World} {base e size n : Nat} {v : Value} {xs : List Value} (h : W.ownsRow base e size v n xs) (hb : RowKit.Below W.heap.size W W2) : W2.ownsRow base e size v n xs := own_same h fun b e => hb.block b (World.ownsRow.lt h b e).2
abbrev lt (x y : Nm) : Prop := x.data.toList < y.data.toList
theorem lt_iff (x y : Nm) : Op.bytesLess (ByteArray.toList x) (ByteArray.toList y) = decide (lt x y) := by
  rw [bytesLess_eq, ByteArray.toList_eq, ByteArray.toList_eq]
theorem lt_tri {x y : Nm} (h : ¬ lt x y) (e : x ≠ y) : lt y x := Classical.byContradiction fun q => e (kl_inj (congrArg Lit.string (List.le_antisymm (List.not_lt.1 q) (List.not_lt.1 h))))
/-- A NAME ON ITS WAY DOWN. -/
structure Ins (l : List Nm) (x : Nm) (k : Nat) (m : List Nm) : Prop where
  le : k ≤ l.length
  eq : m = l.take k ++ x :: l.drop k
  gt : ∀ y ∈ l.drop k, lt x y
theorem Ins.start (l : List Nm) (x : Nm) : Ins l x l.length (l ++ [x]) := ⟨Nat.le_refl _, by simp, by simp⟩
theorem Ins.len {l m : List Nm} {x : Nm} {k : Nat} (h : Ins l x k m) : m.length = l.length + 1 := by
  have := h.le
  rw [h.eq]; simp; omega
theorem Ins.at {l m : List Nm} {x : Nm} {k : Nat} (h : Ins l x k m) : m[k]? = some x := by
  have := h.le
  rw [h.eq, List.getElem?_append_right (by simp; omega)]
  simp [Nat.min_eq_left this]
theorem Ins.prev {l m : List Nm} {x : Nm} {k i : Nat} (h : Ins l x k m) (hi : i < k) : m[i]? = l[i]? := by
  have := h.le
  rw [h.eq, List.getElem?_append_left (by simp; omega), List.getElem?_take_of_lt hi]
theorem Ins.step {l m : List Nm} {x y : Nm} {k : Nat} (h : Ins l x (k + 1) m) (hy : l[k]? = some y) (hlt : lt x y) : Ins l x k ((m.set (k + 1) y).set k x) := by
  have hle := h.le
  have hk : k < l.length := by omega
  have hd : l.drop k = y :: l.drop (k + 1) := by
    rw [List.drop_eq_getElem_cons hk]
    rw [List.getElem?_eq_getElem hk] at hy
    rw [Option.some.inj hy]
  have ht : l.take (k + 1) = l.take k ++ [y] := by rw [List.take_add_one, hy]; rfl
  refine ⟨by omega, ?_, fun z hz => ?_⟩
  · have e1 : (l.take k).length = k := by simp; omega
    rw [h.eq, ht, hd, List.append_assoc, List.set_append_right _ _ (by omega), List.set_append_right _ _ (by omega), e1]
    simp
  · rw [hd] at hz
    rcases List.mem_cons.1 hz with rfl | q
    · exact hlt
    · exact h.gt z q
theorem Ins.done {l m L : List Nm} {x : Nm} {k : Nat} (h : Ins l x k m) (hr : Ris l L) (hx : x ∉ L) (he : ∀ i y, i + 1 = k → l[i]? = some y → ¬ lt x y) : Ris m (L ++ [x]) := by
  have hle := h.le
  have hu := hr.up
  have hlow : ∀ z ∈ l.take k, lt z x := fun z hz => by
    obtain ⟨i, hi, rfl⟩ := List.getElem_of_mem hz
    have hik : i < k := by simp at hi; omega
    have hil : i < l.length := by omega
    rw [List.getElem_take]
    have hne : ∀ j (hj : j < l.length), x ≠ l[j] := fun j hj e => hx (by rw [e]; exact (hr.mem _).1 (List.getElem_mem hj))
    have hlast : lt l[k - 1] x := lt_tri (he (k - 1) _ (by omega) (List.getElem?_eq_getElem (by omega))) (hne _ _)
    by_cases e : i = k - 1
    · subst e; exact hlast
    · exact List.lt_trans (List.pairwise_iff_getElem.1 hu i (k - 1) hil (by omega) (by omega)) hlast
  rw [h.eq]
  refine ⟨?_, fun z => ?_⟩
  · rw [List.pairwise_append, List.pairwise_cons]
    refine ⟨hu.sublist (List.take_sublist _ _), ⟨h.gt, hu.sublist (List.drop_sublist _ _)⟩, fun a ha b hb => ?_⟩
    rcases List.mem_cons.1 hb with rfl | q
    · exact hlow a ha
    · exact List.lt_trans (hlow a ha) (h.gt b q)
  · rw [List.mem_append, List.mem_append, List.mem_cons, List.mem_singleton, ← hr.mem z, ← List.take_append_drop k l, List.mem_append]
    simp only [List.take_append_drop]
    constructor
    · rintro (q | q | q)
      · exact .inl (.inl q)
      · exact .inr q
      · exact .inl (.inr q)
    · rintro ((q | q) | q)
      · exact .inl q
      · exact .inr (.inr q)
      · exact .inr (.inl q)
theorem Ris.keep {l L M : List Nm} (h : Ris l L) (hm : ∀ x, x ∈ M ↔ x ∈ L) : Ris l M := ⟨h.up, fun x => (h.mem x).trans (hm x).symm⟩
end Go.Proofs.Ytmjdpddpphfpiaa
