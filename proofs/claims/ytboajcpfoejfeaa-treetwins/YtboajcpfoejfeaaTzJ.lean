import Derived.Test.YtboajcpfoejfeaaTzI
namespace Go.Proofs.Ytboajcpfoejfeaa
open Go.RowKit Go.Maps

abbrev En := Value × List Nm
/-- GROUPS IN NEW MEMORY. -/
structure Ga (w wr : World) (av : Value) (E : List En) : Prop where
  row : wr.ownsRow w.heap.size 28 1 av E.length (E.map (·.1))
  own : ∀ e ∈ E, wr.ownsRow w.heap.size 9 1 e.1 e.2.length (sv e.2)
  bw : Below w.heap.size w wr
theorem Ga.later {w wr X : World} {av : Value} {E : List En} (h : Ga w wr av E) (hb : Below wr.heap.size wr X) : Ga w X av E :=
  ⟨own_low h.row hb, fun e he => own_low (h.own e he) hb, bl_t h.bw hb⟩
theorem Ga.gl {w wr : World} {av : Value} {E : List En} (h : Ga w wr av E) : Gl wr av (E.map (·.2)) := by
  obtain ⟨a, c, rfl⟩ := owns_form h.row
  refine ⟨a, c, by rw [List.length_map], fun h0 => ?_⟩
  rw [List.length_map] at h0
  rcases h.row.2 with ⟨h1, h2⟩ | ⟨g, cap, cur, h1, h2, h3, h4⟩
  · omega
  · cases h1
    refine ⟨g, 0, rfl, blk_lt h3, fun i l hi => ?_⟩
    rw [List.getElem?_map] at hi
    obtain ⟨e, he, rfl⟩ := Option.map_eq_some_iff.1 hi
    exact ⟨e.1, by rw [Nat.zero_add]; exact owns_at h.row i _ (by rw [List.getElem?_map, he]; rfl), own_sl (h.own e (List.mem_of_getElem? he))⟩
theorem Ga.start (w : World) : Ga w w (.slice none 0 0) [] := ⟨⟨rfl, .inl ⟨rfl, rfl⟩⟩, fun e he => by simp at he, Below.refl _ _⟩
theorem Ga.at {w wr : World} {a : Option Addr} {n c : Nat} {E : List En} (h : Ga w wr (.slice a n c) E) {i : Nat} (hi : i < E.length) : ∃ b, a = some ⟨b, 0, none⟩ ∧ b < wr.heap.size ∧ wr.cell? ⟨b, i, none⟩ = some (E[i]).1 := by
  rcases h.row.2 with ⟨h1, h2⟩ | ⟨g, cap, cur, h1, h2, h3, h4⟩
  · omega
  · cases h1
    exact ⟨g, rfl, blk_lt h3, owns_at h.row i _ (by rw [List.getElem?_map, List.getElem?_eq_getElem hi]; rfl)⟩
theorem infoSL : (Try.prog.info? 28).map (fun i => (i.zero, i.size, i.bytes)) = some (some (.slice none 0 0), 1, 24) := by kernel_rfl
/-- WHERE THE LAYING OF A GROUP AMONG THE OTHERS IS. -/
def Ist (E : List En) (x : En) (i : Nat) (M : List En) (b : Bool) : Prop :=
  (b = false ∧ M = E.take i ∧ ∀ y ∈ E.take i, ¬ cmpL x.2 y.2 < 0) ∨ (b = true ∧ ∃ j, j ≤ i ∧ M = E.take j ++ x :: (E.take i).drop j ∧ (∀ y ∈ E.take j, ¬ cmpL x.2 y.2 < 0) ∧ ∀ y ∈ E.drop j, ¬ cmpL y.2 x.2 < 0)
theorem Ist.len {E : List En} {x : En} {i : Nat} {M : List En} {b : Bool} (h : Ist E x i M b) : M.length ≤ E.length + 1 := by
  rcases h with ⟨_, rfl, _⟩ | ⟨_, j, _, rfl, _⟩
  · rw [List.length_take]; omega
  · simp; omega
theorem Ist.start (E : List En) (x : En) : Ist E x 0 [] false := .inl ⟨rfl, rfl, fun y hy => by simp at hy⟩
theorem Ist.mem {E : List En} {x : En} {i : Nat} {M : List En} {b : Bool} (h : Ist E x i M b) : ∀ y ∈ M, y = x ∨ y ∈ E := fun y hy => by
  rcases h with ⟨_, rfl, _⟩ | ⟨_, j, _, rfl, _⟩
  · exact .inr (List.mem_of_mem_take hy)
  · rcases List.mem_append.1 hy with hy | hy
    · exact .inr (List.mem_of_mem_take hy)
    · rcases List.mem_cons.1 hy with hy | hy
      · exact .inl hy
      · exact .inr (List.mem_of_mem_take (List.mem_of_mem_drop hy))
theorem take_snocE {E : List En} {i : Nat} (hi : i < E.length) : E.take (i + 1) = E.take i ++ [E[i]] := by
  rw [List.take_add_one, List.getElem?_eq_getElem hi]; rfl
def SrtE (E : List En) : Prop := Srt (E.map (·.2))
theorem srtE_iff {E : List En} : SrtE E ↔ E.Pairwise fun a b => ¬ cmpL b.2 a.2 < 0 := by
  unfold SrtE Srt
  rw [List.pairwise_map]
theorem le_trans_cmp {a b c : List Nm} (h : ¬ cmpL b a < 0) (k : ¬ cmpL c b < 0) : ¬ cmpL c a < 0 := fun q => by
  have f1 := cmp_flip b a
  have f2 := cmp_flip c b
  by_cases e : cmpL b c = 0
  · rw [cmp_zero b c e] at h; exact h q
  · have h2 : cmpL b c < 0 := by omega
    exact h (cmp_trans b c a h2 q)
theorem Ist.lay {E : List En} {x : En} {i : Nat} {M : List En} (hu : SrtE E) (h : Ist E x i M false) (hi : i < E.length) (hlt : cmpL x.2 (E[i]).2 < 0) : Ist E x (i + 1) ((M ++ [x]) ++ [E[i]]) true := by
  rcases h with ⟨_, rfl, h2⟩ | ⟨q, _⟩
  · have hle : ¬ cmpL (E[i]).2 x.2 < 0 := by have := cmp_flip x.2 (E[i]).2; omega
    refine .inr ⟨rfl, i, by omega, ?_, h2, fun y hy => ?_⟩
    · rw [take_snocE hi, List.drop_append_of_le_length (by rw [List.length_take]; omega), List.drop_eq_nil_of_le (by rw [List.length_take]; omega)]
      simp
    · rw [List.drop_eq_getElem_cons hi] at hy
      rcases List.mem_cons.1 hy with rfl | hy
      · exact hle
      · obtain ⟨k, hk, rfl⟩ := List.getElem_of_mem hy
        rw [List.getElem_drop]
        have hk2 : i + 1 + k < E.length := by rw [List.length_drop] at hk; omega
        exact le_trans_cmp hle (List.pairwise_iff_getElem.1 (srtE_iff.1 hu) i (i + 1 + k) hi hk2 (by omega))
  · cases q
theorem Ist.pass {E : List En} {x : En} {i : Nat} {M : List En} (h : Ist E x i M false) (hi : i < E.length) (hlt : ¬ cmpL x.2 (E[i]).2 < 0) : Ist E x (i + 1) (M ++ [E[i]]) false := by
  rcases h with ⟨_, rfl, h2⟩ | ⟨q, _⟩
  · refine .inl ⟨rfl, (take_snocE hi).symm, fun y hy => ?_⟩
    rw [take_snocE hi] at hy
    rcases List.mem_append.1 hy with hy | hy
    · exact h2 y hy
    · rw [List.mem_singleton] at hy; subst hy; exact hlt
  · cases q
theorem Ist.more {E : List En} {x : En} {i : Nat} {M : List En} (h : Ist E x i M true) (hi : i < E.length) : Ist E x (i + 1) (M ++ [E[i]]) true := by
  rcases h with ⟨q, _⟩ | ⟨_, j, hj, rfl, h2, h3⟩
  · cases q
  · refine .inr ⟨rfl, j, by omega, ?_, h2, h3⟩
    rw [take_snocE hi, List.drop_append_of_le_length (by rw [List.length_take]; omega), List.append_assoc]
    rfl
theorem Ist.end1 {E : List En} {x : En} {M : List En} (hr : SrtE E) (h : Ist E x E.length M false) : SrtE (M ++ [x]) ∧ (M ++ [x]).Perm (E ++ [x]) := by
  rcases h with ⟨_, rfl, h2⟩ | ⟨q, _⟩
  · rw [List.take_length] at h2 ⊢
    refine ⟨srtE_iff.2 (List.pairwise_append.2 ⟨srtE_iff.1 hr, List.pairwise_singleton _ _, fun a ha b hb => ?_⟩), List.Perm.refl _⟩
    rw [List.mem_singleton] at hb; subst hb; exact h2 a ha
  · cases q
theorem Ist.end2 {E : List En} {x : En} {M : List En} (hr : SrtE E) (h : Ist E x E.length M true) : SrtE M ∧ M.Perm (E ++ [x]) := by
  rcases h with ⟨q, _⟩ | ⟨_, j, hj, rfl, h2, h3⟩
  · cases q
  · rw [List.take_length]
    have hr' := srtE_iff.1 hr
    refine ⟨srtE_iff.2 ?_, ?_⟩
    · rw [List.pairwise_append, List.pairwise_cons]
      refine ⟨hr'.sublist (List.take_sublist _ _), ⟨h3, hr'.sublist (List.drop_sublist _ _)⟩, fun a ha b hb => ?_⟩
      rcases List.mem_cons.1 hb with rfl | q
      · exact h2 a ha
      · have hp := List.take_append_drop j E
        rw [← hp] at hr'
        exact (List.pairwise_append.1 hr').2.2 a ha b q
    · refine List.perm_middle.trans ?_
      rw [List.take_append_drop]
      exact List.perm_append_comm (l₁ := [x])
/-- WHAT IS GATHERED UP TO A PLACE. -/
noncomputable def gup (fs : List Fi) (i : Nat) : List (List Nm) := gal ((hds (fs.take i)).map (pth fs))
theorem gup_old {fs : List Fi} {i : Nat} {f : Fi} (hf : fs[i]? = some f) (h : f.k ∈ hds (fs.take i)) : gup fs (i + 1) = gup fs i := by
  unfold gup
  rw [List.take_add_one, hf]
  show gal ((hds (fs.take i ++ [f])).map _) = _
  rw [hds_snoc, if_pos h]
theorem gup_new {fs : List Fi} {i : Nat} {f : Fi} (hf : fs[i]? = some f) (h : f.k ∉ hds (fs.take i)) : gup fs (i + 1) = gup fs i ++ (if 1 < (rs (pth fs f.k)).length then [rs (pth fs f.k)] else []) := by
  unfold gup
  rw [List.take_add_one, hf]
  show gal ((hds (fs.take i ++ [f])).map _) = _
  rw [hds_snoc, if_neg h, List.map_append]
  exact gal_snoc _ _
theorem gup_all (fs : List Fi) : gup fs fs.length = gal (grp fs) := by
  unfold gup grp
  rw [List.take_length]
theorem gup_len (fs : List Fi) (i : Nat) : (gup fs i).length ≤ fs.length := by
  unfold gup gal
  refine Nat.le_trans (List.length_filter_le _ _) ?_
  rw [List.length_map, List.length_map]
  refine Nat.le_trans (hds_len _) ?_
  rw [List.length_take]; omega
theorem gup_row {fs : List Fi} {i : Nat} {l : List Nm} (h : l ∈ gup fs i) : l.length ≤ fs.length := by
  unfold gup gal at h
  obtain ⟨m, hm, rfl⟩ := List.mem_map.1 (List.mem_filter.1 h).1
  obtain ⟨k, _, rfl⟩ := List.mem_map.1 hm
  exact Nat.le_trans (rs_ris _).len (pth_len fs k)
/-- ALL, WHILE IT GROWS. -/
structure Tp (w wr : World) (av : Value) (fs : List Fi) (i : Nat) (E : List En) : Prop where
  ga : Ga w wr av E
  srt : SrtE E
  perm : (E.map (·.2)).Perm (gup fs i)
theorem Tp.len {w wr : World} {av : Value} {fs : List Fi} {i : Nat} {E : List En} (h : Tp w wr av fs i E) : E.length ≤ fs.length := by
  have := h.perm.length_eq
  rw [List.length_map] at this
  rw [this]
  exact gup_len fs i
theorem Tp.row {w wr : World} {av : Value} {fs : List Fi} {i : Nat} {E : List En} (h : Tp w wr av fs i E) : ∀ e ∈ E, e.2.length ≤ fs.length := fun e he => gup_row (h.perm.mem_iff.1 (List.mem_map.2 ⟨e, he, rfl⟩))
end Go.Proofs.Ytboajcpfoejfeaa
