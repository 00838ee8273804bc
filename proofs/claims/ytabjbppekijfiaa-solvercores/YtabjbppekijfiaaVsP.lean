import Derived.Test.YtabjbppekijfiaaSvD
namespace Go.Proofs.Ytabjbppekijfiaa
open Go.RowKit

/-- A LITERAL'S SIGN; WHAT A VARIABLE IS BY A TRAIL; HOW A LITERAL STANDS. -/
def sg (l : Int) : Int := if l < 0 then -1 else 1
def vt (tr : List Int) (v : Nat) : Int := match tr.find? (fun l => l.natAbs == v + 1) with | some l => sg l | none => 0
def stn (tr : List Int) (l : Int) : Int := if l < 0 then -(vt tr (l.natAbs - 1)) else vt tr (l.natAbs - 1)
theorem sg_cases (l : Int) : (l < 0 ∧ sg l = -1) ∨ (0 ≤ l ∧ sg l = 1) := by
  unfold sg
  split <;> omega
theorem vt_cases (tr : List Int) (v : Nat) : (vt tr v = 0 ∧ ∀ l ∈ tr, l.natAbs ≠ v + 1) ∨ ∃ l ∈ tr, l.natAbs = v + 1 ∧ vt tr v = sg l := by
  unfold vt
  cases h : tr.find? (fun l => l.natAbs == v + 1) with
  | none =>
    left
    refine ⟨rfl, fun l hl => ?_⟩
    have := List.find?_eq_none.1 h l hl
    simpa using this
  | some l =>
    right
    have h1 := List.find?_some h
    exact ⟨l, List.mem_of_find?_eq_some h, by simpa using h1, rfl⟩
theorem vt_range (tr : List Int) (v : Nat) : vt tr v = -1 ∨ vt tr v = 0 ∨ vt tr v = 1 := by
  rcases vt_cases tr v with ⟨h, _⟩ | ⟨l, _, _, h⟩
  · exact .inr (.inl h)
  · rcases sg_cases l with ⟨_, e⟩ | ⟨_, e⟩ <;> omega
theorem vt_nil (v : Nat) : vt [] v = 0 := rfl
theorem stn_range (tr : List Int) (l : Int) : stn tr l = -1 ∨ stn tr l = 0 ∨ stn tr l = 1 := by
  have := vt_range tr (l.natAbs - 1)
  unfold stn
  split <;> omega
theorem vt_app (A B : List Int) (v : Nat) : vt (A ++ B) v = if (∀ l ∈ A, l.natAbs ≠ v + 1) then vt B v else vt A v := by
  unfold vt
  rw [List.find?_append]
  by_cases h : ∀ l ∈ A, l.natAbs ≠ v + 1
  · rw [if_pos h]
    have : A.find? (fun l => l.natAbs == v + 1) = none := List.find?_eq_none.2 fun l hl => by simpa using h l hl
    rw [this]
    rfl
  · rw [if_neg h]
    cases e : A.find? (fun l => l.natAbs == v + 1) with
    | none =>
      exact absurd (fun l hl => by simpa using List.find?_eq_none.1 e l hl) h
    | some l => rfl
/-- NO VARIABLE TWICE. -/
def Nd (tr : List Int) : Prop := (tr.map Int.natAbs).Nodup
theorem vt_snoc {tr : List Int} {l : Int} (hl : l ≠ 0) (ho : stn tr l = 0) (v : Nat) : vt (tr ++ [l]) v = if v = l.natAbs - 1 then sg l else vt tr v := by
  have h0 : vt tr (l.natAbs - 1) = 0 := by
    unfold stn at ho
    split at ho <;> omega
  rw [vt_app]
  by_cases e : v = l.natAbs - 1
  · subst e
    rw [if_pos rfl]
    rcases vt_cases tr (l.natAbs - 1) with ⟨_, h⟩ | ⟨x, _, _, h⟩
    · rw [if_pos h]
      unfold vt
      have : (l.natAbs == l.natAbs - 1 + 1) = true := by simp; omega
      rw [List.find?_cons_of_pos (by exact this)]
    · rcases sg_cases x with ⟨_, q⟩ | ⟨_, q⟩ <;> omega
  · rw [if_neg e]
    split
    · rename_i h
      rcases vt_cases tr v with ⟨h1, _⟩ | ⟨x, hx, h1, _⟩
      · rw [h1]
        unfold vt
        have : (l.natAbs == v + 1) = false := by simp; omega
        simp [this]
      · exact absurd h1 (h x hx)
    · rfl
theorem nd_snoc {tr : List Int} {l : Int} (h : Nd tr) (hl : l ≠ 0) (ho : stn tr l = 0) : Nd (tr ++ [l]) := by
  have h0 : vt tr (l.natAbs - 1) = 0 := by
    unfold stn at ho
    split at ho <;> omega
  unfold Nd at *
  rw [List.map_append, List.nodup_append]
  refine ⟨h, by simp, ?_⟩
  intro a ha b hb
  simp at hb
  subst hb
  obtain ⟨x, hx, rfl⟩ := List.mem_map.1 ha
  rcases vt_cases tr (l.natAbs - 1) with ⟨_, h⟩ | ⟨y, _, _, h⟩
  · have := h x hx
    omega
  · rcases sg_cases y with ⟨_, q⟩ | ⟨_, q⟩ <;> omega
/-- One out of the midst. -/
theorem vt_out {A C : List Int} {x : Int} (hx : x ≠ 0) (h : Nd (A ++ x :: C)) (v : Nat) : vt (A ++ C) v = if v = x.natAbs - 1 then 0 else vt (A ++ x :: C) v := by
  unfold Nd at h
  rw [List.map_append, List.map_cons, List.nodup_append] at h
  obtain ⟨_, h2, h3⟩ := h
  rw [List.nodup_cons] at h2
  have nA : ∀ l ∈ A, l.natAbs ≠ x.natAbs := fun l hl e => h3 _ (List.mem_map.2 ⟨l, hl, rfl⟩) _ List.mem_cons_self e
  have nC : ∀ l ∈ C, l.natAbs ≠ x.natAbs := fun l hl e => h2.1 (e ▸ List.mem_map.2 ⟨l, hl, rfl⟩)
  by_cases e : v = x.natAbs - 1
  · subst e
    rw [if_pos rfl]
    rcases vt_cases (A ++ C) (x.natAbs - 1) with ⟨h, _⟩ | ⟨y, hy, h, _⟩
    · exact h
    · rcases List.mem_append.1 hy with q | q
      · have := nA y q; omega
      · have := nC y q; omega
  · rw [if_neg e, vt_app, vt_app]
    split
    · unfold vt
      have : (x.natAbs == v + 1) = false := by simp; omega
      simp [this]
    · rfl
theorem nd_out {A C : List Int} {x : Int} (h : Nd (A ++ x :: C)) : Nd (A ++ C) := by
  unfold Nd at *
  rw [List.map_append, List.nodup_append] at *
  rw [List.map_cons, List.nodup_cons] at h
  exact ⟨h.1, h.2.1.2, fun a ha b hb => h.2.2 a ha b (List.mem_cons_of_mem _ hb)⟩
theorem nd_take {tr : List Int} (h : Nd tr) (p : Nat) : Nd (tr.take p) := by
  unfold Nd at *
  rw [List.map_take]
  exact h.sublist (List.take_sublist _ _)
/-- As many variables as there are. -/
theorem nodup_le : ∀ (n : Nat) (l : List Nat), l.Nodup → (∀ x ∈ l, 1 ≤ x ∧ x ≤ n) → l.length ≤ n
  | 0, l, _, h => by
    cases l with
    | nil => simp
    | cons a r => have := h a List.mem_cons_self; omega
  | n + 1, l, hd, h => by
    have h1 := nodup_le n (l.erase (n + 1)) (hd.erase _) (fun x hx => by
      have := (hd.mem_erase_iff).1 hx
      have := h x this.2
      omega)
    have := List.length_erase (a := n + 1) (l := l)
    split at this <;> omega
theorem trail_le {n : Nat} {tr : List Int} (h : Nd tr) (ho : ∀ l ∈ tr, okL n l = true) : tr.length ≤ n := by
  have := nodup_le n (tr.map Int.natAbs) h (fun x hx => by
    obtain ⟨l, hl, rfl⟩ := List.mem_map.1 hx
    have := (okL_iff _ _).1 (ho l hl)
    omega)
  simpa using this
end Go.Proofs.Ytabjbppekijfiaa
