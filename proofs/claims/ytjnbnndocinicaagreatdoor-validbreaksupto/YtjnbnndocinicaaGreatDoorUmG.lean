import Derived.Test.YtjnbnndocinicaaGreatDoorUmF
namespace Go.Proofs.YtjnbnndocinicaaGreatDoor
open Go.RowKit Go.Maps Go.Shelf

theorem toList_eq {a b : ByteArray} : (a.toList == b.toList) = true ↔ a = b := by
  constructor
  · intro h
    have h1 := eq_of_beq h
    rw [Lib.toList_data, Lib.toList_data] at h1
    exact ByteArray.ext (Array.ext' h1)
  · rintro rfl; exact beq_self_eq_true _
theorem nmP_mem (ps : List Pd) : ∀ (n : Nat) (x : Nm) (p : Nat), p ∈ nmP ps n x ↔ p < n ∧ ∃ q, ps[p]? = some q ∧ q.nm = x
  | 0, x, p => by simp [nmP]
  | n + 1, x, p => by
    have ih := nmP_mem ps n
    unfold nmP
    cases e : ps[n]? with
    | none =>
      simp only
      rw [ih]
      constructor
      · rintro ⟨h, q⟩; exact ⟨by omega, q⟩
      · rintro ⟨h, q, h1, h2⟩
        refine ⟨?_, q, h1, h2⟩
        have : p ≠ n := fun ee => by rw [ee, e] at h1; cases h1
        omega
    | some y =>
      simp only
      unfold upF
      by_cases hx : x = y.nm
      · rw [if_pos hx, List.mem_append, ih, List.mem_singleton]
        constructor
        · rintro (⟨h, q, h1, h2⟩ | rfl)
          · exact ⟨by omega, q, h1, h2.trans hx.symm⟩
          · exact ⟨by omega, y, e, hx.symm⟩
        · rintro ⟨h, q, h1, h2⟩
          by_cases hp : p = n
          · exact .inr hp
          · exact .inl ⟨by omega, q, h1, h2.trans hx⟩
      · rw [if_neg hx, ih]
        constructor
        · rintro ⟨h, q⟩; exact ⟨by omega, q⟩
        · rintro ⟨h, q, h1, h2⟩
          refine ⟨?_, q, h1, h2⟩
          have : p ≠ n := fun ee => by rw [ee, e] at h1; cases h1; exact hx h2.symm
          omega
theorem pvJ_mem (F : Nm → List Nat) (pl : List Nm) (i : Nat) : ∀ (n : Nat) (x : Nm) (p : Nat), p ∈ pvJ F pl i n x ↔ p ∈ F x ∨ (p = i ∧ ∃ j, j < n ∧ pl[j]? = some x)
  | 0, x, p => by simp [pvJ]
  | n + 1, x, p => by
    have ih := pvJ_mem F pl i n
    unfold pvJ
    cases e : pl[n]? with
    | none =>
      simp only
      rw [ih]
      constructor
      · rintro (h | ⟨h, j, h1, h2⟩)
        · exact .inl h
        · exact .inr ⟨h, j, by omega, h2⟩
      · rintro (h | ⟨h, j, h1, h2⟩)
        · exact .inl h
        · refine .inr ⟨h, j, ?_, h2⟩
          have : j ≠ n := fun ee => by rw [ee, e] at h2; cases h2
          omega
    | some y =>
      simp only
      unfold upF
      by_cases hx : x = y
      · subst hx
        rw [if_pos rfl, List.mem_append, ih, List.mem_singleton]
        constructor
        · rintro ((h | ⟨h, j, h1, h2⟩) | rfl)
          · exact .inl h
          · exact .inr ⟨h, j, by omega, h2⟩
          · exact .inr ⟨rfl, n, by omega, e⟩
        · rintro (h | ⟨h, _⟩)
          · exact .inl (.inl h)
          · exact .inr h
      · rw [if_neg hx, ih]
        constructor
        · rintro (h | ⟨h, j, h1, h2⟩)
          · exact .inl h
          · exact .inr ⟨h, j, by omega, h2⟩
        · rintro (h | ⟨h, j, h1, h2⟩)
          · exact .inl h
          · refine .inr ⟨h, j, ?_, h2⟩
            have : j ≠ n := fun ee => by rw [ee, e] at h2; cases h2; exact hx rfl
            omega
theorem pvP_mem (ps : List Pd) : ∀ (n : Nat) (x : Nm) (p : Nat), p ∈ pvP ps n x ↔ p < n ∧ ∃ q, ps[p]? = some q ∧ x ∈ q.pl
  | 0, x, p => by simp [pvP]
  | n + 1, x, p => by
    have ih := pvP_mem ps n
    unfold pvP
    cases e : ps[n]? with
    | none =>
      simp only
      rw [ih]
      constructor
      · rintro ⟨h, q⟩; exact ⟨by omega, q⟩
      · rintro ⟨h, q, h1, h2⟩
        refine ⟨?_, q, h1, h2⟩
        have : p ≠ n := fun ee => by rw [ee, e] at h1; cases h1
        omega
    | some y =>
      simp only
      rw [pvJ_mem, ih]
      constructor
      · rintro (⟨h, q⟩ | ⟨rfl, j, h1, h2⟩)
        · exact ⟨by omega, q⟩
        · exact ⟨by omega, y, e, List.mem_of_getElem? h2⟩
      · rintro ⟨h, q, h1, h2⟩
        by_cases hp : p = n
        · subst hp
          rw [e] at h1
          cases h1
          obtain ⟨j, hj, ej⟩ := List.getElem_of_mem h2
          exact .inr ⟨rfl, j, hj, by rw [List.getElem?_eq_getElem hj, ej]⟩
        · exact .inl ⟨by omega, q, h1, h2⟩
/-- IS A WISH MET? -/
def wantP (ps : List Pd) (kd : Int) (an : Nm) (op : Int) (bd : ByteArray) : Bool :=
  if kd = 0 then ps.any fun q => meetsA an op bd q.nm q.vr q.pl else if kd = 1 then !(ps.any fun q => q.nm.toList == an.toList && fitsA op bd q.vr) else true
theorem sat_some (ps : List Pd) (an : Nm) (op : Int) (bd : ByteArray) : satL ps an op bd (nmP ps ps.length an) (pvP ps ps.length an) ≠ [] ↔ (ps.any fun q => meetsA an op bd q.nm q.vr q.pl) = true := by
  rw [List.any_eq_true, show (satL ps an op bd (nmP ps ps.length an) (pvP ps ps.length an) ≠ [] ↔ ∃ p, p ∈ satL ps an op bd (nmP ps ps.length an) (pvP ps ps.length an)) from ⟨List.exists_mem_of_ne_nil _, fun ⟨p, hp⟩ e => by rw [e] at hp; cases hp⟩]
  unfold satL
  constructor
  · rintro ⟨p, hp⟩
    obtain ⟨hp, hm⟩ := List.mem_filter.1 hp
    unfold mt at hm
    cases e : ps[p]? with
    | none => rw [e] at hm; cases hm
    | some q => rw [e] at hm; exact ⟨q, List.mem_of_getElem? e, hm⟩
  · rintro ⟨q, hq, hm⟩
    obtain ⟨p, hp, e⟩ := List.getElem_of_mem hq
    have e2 : ps[p]? = some q := by rw [List.getElem?_eq_getElem hp, e]
    refine ⟨p, List.mem_filter.2 ⟨List.mem_append.2 ?_, by unfold mt; rw [e2]; exact hm⟩⟩
    unfold meetsA at hm
    rw [Bool.or_eq_true, Bool.and_eq_true, Bool.and_eq_true] at hm
    rcases hm with ⟨h1, _⟩ | ⟨_, h2⟩
    · exact .inl ((nmP_mem ps _ _ _).2 ⟨hp, q, e2, toList_eq.1 h1⟩)
    · exact .inr ((pvP_mem ps _ _ _).2 ⟨hp, q, e2, (Lib.containsS_iff _ _).1 h2⟩)
/-- DOES THE VERSION AT A PLACE FIT? -/
def ft (ps : List Pd) (op : Int) (bd : ByteArray) (p : Nat) : Bool := match ps[p]? with | some q => fitsA op bd q.vr | none => false
theorem rem_any (ps : List Pd) (an : Nm) (op : Int) (bd : ByteArray) : (nmP ps ps.length an).any (ft ps op bd) = ps.any fun q => q.nm.toList == an.toList && fitsA op bd q.vr := by
  rw [Bool.eq_iff_iff, List.any_eq_true, List.any_eq_true]
  constructor
  · rintro ⟨p, hp, hf⟩
    obtain ⟨_, q, e, en⟩ := (nmP_mem ps _ _ _).1 hp
    unfold ft at hf
    rw [e] at hf
    refine ⟨q, List.mem_of_getElem? e, ?_⟩
    rw [Bool.and_eq_true]
    exact ⟨toList_eq.2 en, hf⟩
  · rintro ⟨q, hq, hf⟩
    rw [Bool.and_eq_true] at hf
    obtain ⟨p, hp, e⟩ := List.getElem_of_mem hq
    have e2 : ps[p]? = some q := by rw [List.getElem?_eq_getElem hp, e]
    exact ⟨p, (nmP_mem ps _ _ _).2 ⟨hp, q, e2, toList_eq.1 hf.1⟩, by unfold ft; rw [e2]; exact hf.2⟩
end Go.Proofs.YtjnbnndocinicaaGreatDoor
