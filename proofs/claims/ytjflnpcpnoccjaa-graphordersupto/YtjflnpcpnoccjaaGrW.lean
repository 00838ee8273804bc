import Derived.Test.YtjflnpcpnoccjaaGrU
namespace Go.Proofs.Ytjflnpcpnoccjaa
open Go.RowKit Go.Shelf

theorem gst_srt {ls : Nat → List Nat} {t k : Nat} (h : ∀ j, (ls j).Pairwise (· < ·) ∧ ∀ x ∈ ls j, x ≤ t) (j : Nat) : (gst ls t k j).Pairwise (· < ·) ∧ ∀ x ∈ gst ls t k j, x ≤ t := by
  refine ⟨?_, fun x hx => ?_⟩
  · unfold gst
    by_cases e : j = k
    · rw [if_pos e]
      by_cases q : (ls k).getLast? = some t
      · rw [if_pos q]; exact (h k).1
      · rw [if_neg q, List.pairwise_append]
        refine ⟨(h k).1, List.pairwise_singleton _ _, fun a ha b hb => ?_⟩
        rw [List.mem_singleton] at hb
        subst hb
        have h1 := (h k).2 a ha
        apply Classical.byContradiction
        intro h2
        obtain rfl : a = b := by omega
        -- the last one is at least as great
        apply q
        obtain ⟨z, hz⟩ : ∃ z, (ls k).getLast? = some z := ⟨_, List.getLast?_eq_some_getLast (List.ne_nil_of_mem ha)⟩
        have h3 := (h k).2 z (List.mem_of_getLast? hz)
        rw [hz]
        congr 1
        obtain ⟨i, hi, ei⟩ := List.getElem_of_mem ha
        rw [List.getLast?_eq_getElem?] at hz
        obtain ⟨hl, ez⟩ := List.getElem?_eq_some_iff.1 hz
        by_cases q2 : i = (ls k).length - 1
        · subst q2
          rw [← ez, ← ei]
        · have := List.pairwise_iff_getElem.1 (h k).1 i ((ls k).length - 1) hi hl (by omega)
          omega
    · rw [if_neg e]; exact (h j).1
  · rcases (gst_mem ls t k j x).1 hx with q | ⟨_, rfl⟩
    · exact (h j).2 x q
    · exact Nat.le_refl _
theorem gth_srt_from {n : Nat} : ∀ (ps : List (Ky n)) (ls : Nat → List Nat) (t0 : Nat), (∀ j, (ls j).Pairwise (· < ·) ∧ ∀ x ∈ ls j, x ≤ t0) → (∀ p ∈ ps, t0 ≤ p.1.1) → ps.Pairwise (fun a b => a.1.1 ≤ b.1.1) → ∀ j, (ps.foldl (fun ls x => gst ls x.1.1 x.1.2) ls j).Pairwise (· < ·)
  | [], ls, t0, h, _, _, j => (h j).1
  | p :: r, ls, t0, h, h2, h3, j => by
    rw [List.foldl_cons]
    rw [List.pairwise_cons] at h3
    exact gth_srt_from r (gst ls p.1.1 p.1.2) p.1.1 (gst_srt fun j => ⟨(h j).1, fun x hx => Nat.le_trans ((h j).2 x hx) (h2 p List.mem_cons_self)⟩) (fun q hq => h3.1 q hq) h3.2 j
theorem pk_fst {N : Nat} {L : Nat → Nat → Int} {u i : Nat} {p : Ky N} (h : pk N L u i = some p) : p.1.1 = u := by
  unfold pk at h
  split at h
  · cases h; rfl
  · cases h
theorem flat_srt (N : Nat) (ln : Nat → Nat) (L : Nat → Nat → Int) : ∀ u, (((List.range u).flatMap fun a => (List.range (ln a)).filterMap (pk N L a)).Pairwise fun a b => a.1.1 ≤ b.1.1) ∧ ∀ p ∈ ((List.range u).flatMap fun a => (List.range (ln a)).filterMap (pk N L a)), p.1.1 < u
  | 0 => by simp
  | u + 1 => by
    obtain ⟨h1, h2⟩ := flat_srt N ln L u
    have h3 : ∀ p ∈ (List.flatMap (fun a => (List.range (ln a)).filterMap (pk N L a)) [u]), p.1.1 = u := fun p hp => by
      simp only [List.flatMap_cons, List.flatMap_nil, List.append_nil, List.mem_filterMap] at hp
      obtain ⟨i, _, e⟩ := hp
      exact pk_fst e
    rw [List.range_succ, List.flatMap_append]
    refine ⟨List.pairwise_append.2 ⟨h1, ?_, fun a ha b hb => ?_⟩, fun p hp => ?_⟩
    · refine List.pairwise_iff_getElem.2 fun i j hi hj _ => ?_
      rw [h3 _ (List.getElem_mem hi), h3 _ (List.getElem_mem hj)]
      exact Nat.le_refl _
    · have := h2 a ha
      rw [h3 b hb]
      omega
    · rcases List.mem_append.1 hp with q | q
      · have := h2 p q; omega
      · rw [h3 p q]; omega
theorem tw_srt (N : Nat) (ln : Nat → Nat) (L : Nat → Nat → Int) (v : Nat) : (tw N ln L v).Pairwise (· < ·) := by
  unfold tw gth
  refine gth_srt_from _ _ 0 (fun j => ⟨List.Pairwise.nil, fun x hx => absurd hx List.not_mem_nil⟩) (fun p _ => Nat.zero_le _) ?_ v
  unfold uptE
  simp only [List.range_zero, List.filterMap_nil, List.append_nil]
  exact (flat_srt N ln L N).1
theorem srt_len {N : Nat} : ∀ (l : List Nat) (b : Nat), l.Pairwise (· < ·) → (∀ x ∈ l, b ≤ x ∧ x < N) → l.length ≤ N - b
  | [], b, _, _ => Nat.zero_le _
  | a :: r, b, h, h2 => by
    rw [List.pairwise_cons] at h
    have h3 := h2 a List.mem_cons_self
    have h4 := srt_len r (a + 1) h.2 fun x hx => ⟨h.1 x hx, (h2 x (List.mem_cons_of_mem _ hx)).2⟩
    rw [List.length_cons]
    omega
theorem twN_le {N : Nat} {ln : Nat → Nat} {L : Nat → Nat → Int} (hr : rgt N ln L = true) (hN : N ≤ 1048576) (v : Nat) : twN N ln L v ≤ N := by
  have := srt_len (N := N) (tw N ln L v) 0 (tw_srt N ln L v) fun x hx => ⟨Nat.zero_le _, ((tw_mem hr hN x v).1 hx).1⟩
  exact this
end Go.Proofs.Ytjflnpcpnoccjaa
