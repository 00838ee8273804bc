import Derived.Test.YtjlgfljfokmemaaDoorTcE
namespace Go.Proofs.YtjlgfljfokmemaaDoor
open Go.RowKit Go.Maps Go.Shelf

theorem kd_one {s : ByteArray} (h : kd s = 1) : s.data.toList.head? = some 116 := by
  unfold kd at h
  by_cases c : s.data.toList.take 2 = [116, 47] ∧ okP (ba (s.data.toList.drop 2)) = true
  · have h1 := c.1
    cases e : s.data.toList with
    | nil => rw [e] at h1; simp at h1
    | cons a r =>
      rw [e] at h1
      cases r with
      | nil => simp at h1
      | cons b r => simp at h1; rw [h1.1]; rfl
  · rw [prs_rest s c] at h
    simp only at h
    split at h <;> omega
theorem kd_two {s : ByteArray} (h : kd s = 2) : s.data.toList.head? = some 110 := by
  unfold kd at h
  by_cases c : s.data.toList.take 2 = [116, 47] ∧ okP (ba (s.data.toList.drop 2)) = true
  · rw [prs_tree s c.1 c.2] at h
    simp at h
  · rw [prs_rest s c] at h
    simp only at h
    split at h
    · rename_i hp
      unfold psO at hp
      cases e : pst s.data.toList with
      | none => rw [e] at hp; cases hp
      | some p =>
        obtain ⟨a, b⟩ := p
        rw [(pst_is e).1]
        rfl
    · omega
theorem mb_t {x : Stp} (h : mb x = true) : x.t.data.toList.head? = some 116 := by
  unfold mb at h
  split at h
  · rw [Bool.and_eq_true, decide_eq_true_eq, decide_eq_true_eq] at h
    exact kd_one h.2
  · split at h
    · rw [Bool.and_eq_true, decide_eq_true_eq, decide_eq_true_eq] at h
      exact kd_one h.2
    · cases h
theorem mb_f {x : Stp} (h : mb x = true) (hf : x.f.toList ≠ []) : x.f.data.toList.head? = some 110 := by
  unfold mb at h
  split at h
  · rw [Bool.and_eq_true, decide_eq_true_eq, decide_eq_true_eq] at h
    exact kd_two h.1
  · split at h
    · rw [Bool.and_eq_true, decide_eq_true_eq, decide_eq_true_eq] at h
      exact absurd h.1 hf
    · cases h
theorem tf_ne {s t : ByteArray} (hs : s.data.toList.head? = some 116) (ht : t.data.toList.head? = some 110) : s ≠ t := fun e => by
  rw [e, ht] at hs
  cases hs
/-- Do two steps have a name in common? -/
def tw (x y : Stp) : Bool := (x.t.toList == y.t.toList) || (!(x.f.toList == []) && x.f.toList == y.f.toList)
theorem ls_eq {s t : ByteArray} : (s.toList == t.toList) = true ↔ s = t := by
  rw [beq_iff_eq]
  constructor
  · intro h
    apply ba_inj
    rw [← Lib.toList_data, ← Lib.toList_data]
    exact h
  · intro h
    rw [h]
theorem tw_no (x y : Stp) : tw x y = false ↔ x.t ≠ y.t ∧ (x.f.toList ≠ [] → x.f ≠ y.f) := by
  unfold tw
  rw [Bool.or_eq_false_iff]
  constructor
  · rintro ⟨h1, h2⟩
    refine ⟨fun e => ?_, fun hf e => ?_⟩
    · rw [ls_eq.2 e] at h1; cases h1
    · rw [ls_eq.2 e, beq_eq_false_iff_ne.2 hf] at h2; cases h2
  · rintro ⟨h1, h2⟩
    refine ⟨Bool.eq_false_iff.2 (fun e => h1 (ls_eq.1 e)), ?_⟩
    by_cases hf : x.f.toList = []
    · rw [hf]; rfl
    · rw [Bool.eq_false_iff.2 (fun e => h2 hf (ls_eq.1 e)), Bool.and_false]
theorem mem_nms (l : List Stp) (y : Nm) : ∀ k, k ≤ l.length → (y ∈ nmsL (l.take k) ↔ ∃ j, ∃ (hj : j < l.length), j < k ∧ (y = l[j].t ∨ (l[j].f.toList ≠ [] ∧ y = l[j].f)))
  | 0, _ => by
    constructor
    · intro h; simp [nmsL] at h
    · rintro ⟨j, _, h, _⟩; omega
  | k + 1, hk => by
    rw [nmsL_snoc l k (by omega), List.mem_append, mem_nms l y k (by omega)]
    have hn : y ∈ nms l[k] ↔ (y = l[k].t ∨ (l[k].f.toList ≠ [] ∧ y = l[k].f)) := by
      unfold nms
      split
      · rename_i h; simp [h]
      · rename_i h; simp [h]
    rw [hn]
    constructor
    · rintro (⟨j, hj, h1, h2⟩ | h)
      · exact ⟨j, hj, by omega, h2⟩
      · exact ⟨k, by omega, by omega, h⟩
    · rintro ⟨j, hj, h1, h2⟩
      by_cases e : j = k
      · subst e; exact .inr h2
      · exact .inl ⟨j, hj, by omega, h2⟩
theorem nodup_tw (l : List Stp) (hm : ∀ k (hk : k < l.length), mb l[k] = true) : ∀ k, k ≤ l.length → ((nmsL (l.take k)).Nodup ↔ ∀ i (hi : i < l.length) j (hj : j < l.length), i < k → j < i → tw l[i] l[j] = false)
  | 0, _ => by
    constructor
    · intro _ i _ j _ h; omega
    · intro _; simp [nmsL]
  | k + 1, hk => by
    have hkl : k < l.length := by omega
    have ih := nodup_tw l hm k (by omega)
    have hx := hm k hkl
    have hmem := fun y => mem_nms l y k (by omega)
    have hsplit : (nmsL (l.take k) ++ nms l[k]).Nodup ↔ (nmsL (l.take k)).Nodup ∧ l[k].t ∉ nmsL (l.take k) ∧ (l[k].f.toList ≠ [] → l[k].f ∉ nmsL (l.take k)) := by
      unfold nms
      by_cases hf : l[k].f.toList = []
      · rw [if_pos hf, nodup_snoc]
        exact ⟨fun h => ⟨h.1, h.2, fun q => absurd hf q⟩, fun h => ⟨h.1, h.2.1⟩⟩
      · rw [if_neg hf, show nmsL (l.take k) ++ [l[k].t, l[k].f] = (nmsL (l.take k) ++ [l[k].t]) ++ [l[k].f] by simp, nodup_snoc, nodup_snoc]
        have hne := tf_ne (mb_t hx) (mb_f hx hf)
        constructor
        · rintro ⟨⟨h1, h2⟩, h3⟩
          exact ⟨h1, h2, fun _ q => h3 (List.mem_append_left _ q)⟩
        · rintro ⟨h1, h2, h3⟩
          refine ⟨⟨h1, h2⟩, fun q => ?_⟩
          rcases List.mem_append.1 q with q | q
          · exact h3 hf q
          · rw [List.mem_singleton] at q
            exact hne q.symm
    rw [nmsL_snoc l k hkl, hsplit, ih, hmem, hmem]
    constructor
    · rintro ⟨h1, h2, h3⟩ i hi j hj hik hji
      by_cases e : i = k
      · subst e
        rw [tw_no]
        exact ⟨fun q => h2 ⟨j, hj, hji, .inl q⟩, fun hf q => h3 hf ⟨j, hj, hji, .inr ⟨fun z => hf (by rw [q]; exact z), q⟩⟩⟩
      · exact h1 i hi j hj (by omega) hji
    · intro h
      refine ⟨fun i hi j hj hik hji => h i hi j hj (by omega) hji, ?_, fun hf => ?_⟩
      · rintro ⟨j, hj, hjk, q | ⟨q1, q⟩⟩
        · exact ((tw_no _ _).1 (h k hkl j hj (by omega) hjk)).1 q
        · exact tf_ne (mb_t hx) (mb_f (hm j hj) q1) q
      · rintro ⟨j, hj, hjk, q | ⟨q1, q⟩⟩
        · exact tf_ne (mb_t (hm j hj)) (mb_f hx hf) q.symm
        · exact ((tw_no _ _).1 (h k hkl j hj (by omega) hjk)).2 hf q
theorem ckS_tw (l : List Stp) (hm : ∀ k (hk : k < l.length), mb l[k] = true) (i j : Nat) (hi : i < l.length) (hj : j < l.length) (hji : j < i) (h : tw l[i] l[j] = true) : ckS l = 171 := by
  apply ckS_twice l hm
  intro e
  have := nodup_tw l hm l.length (Nat.le_refl _)
  rw [List.take_length] at this
  rw [this.1 e i hi j hj hi hji] at h
  cases h
theorem ckS_no (l : List Stp) (hm : ∀ k (hk : k < l.length), mb l[k] = true) (h : ∀ i (hi : i < l.length) j (hj : j < l.length), j < i → tw l[i] l[j] = false) : ckS l = 0 := by
  apply ckS_ok l hm
  have := nodup_tw l hm l.length (Nat.le_refl _)
  rw [List.take_length] at this
  exact this.2 (fun i hi j hj _ hji => h i hi j hj hji)

end Go.Proofs.YtjlgfljfokmemaaDoor
