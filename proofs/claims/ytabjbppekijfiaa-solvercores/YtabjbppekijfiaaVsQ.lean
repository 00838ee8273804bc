import Derived.Test.YtabjbppekijfiaaVsP
namespace Go.Proofs.Ytabjbppekijfiaa
open Go.RowKit

/-- A CLAUSE, LITERAL BY LITERAL. -/
structure Ac where
  o : Int
  al : Bool
  pr : Bool
def acN (tr : List Int) (a : Ac) (l : Int) : Ac := if stn tr l = 0 then ⟨if a.o = 0 then l else a.o, a.al && (l == if a.o = 0 then l else a.o), a.pr && decide (0 < l)⟩ else a
def acc (tr : List Int) (f : Nat → Int) : Nat → Ac
  | 0 => ⟨0, true, true⟩
  | k + 1 => acN tr (acc tr f k) (f k)
def isT (tr : List Int) (m : Nat) (f : Nat → Int) : Bool := !(bAll m fun k => !(stn tr (f k) == 1))
theorem isT_yes {tr : List Int} {m : Nat} {f : Nat → Int} {k : Nat} (hk : k < m) (h : stn tr (f k) = 1) : isT tr m f = true := by
  unfold isT
  rw [bAll_no hk (by simp [h])]
  rfl
theorem isT_no {tr : List Int} {m : Nat} {f : Nat → Int} (h : ∀ k, k < m → stn tr (f k) ≠ 1) : isT tr m f = false := by
  unfold isT
  rw [(bAll_iff _ _).2 fun k hk => by simp [h k hk]]
  rfl
theorem isT_ex {tr : List Int} {m : Nat} {f : Nat → Int} (h : isT tr m f = true) : ∃ k, k < m ∧ stn tr (f k) = 1 := by
  by_cases e : ∃ k, k < m ∧ stn tr (f k) = 1
  · exact e
  · rw [isT_no fun k hk q => e ⟨k, hk, q⟩] at h
    cases h
theorem isT_all {tr : List Int} {m : Nat} {f : Nat → Int} (h : isT tr m f = false) : ∀ k, k < m → stn tr (f k) ≠ 1 := fun k hk q => by
  rw [isT_yes hk q] at h
  cases h
theorem acc_open (tr : List Int) (f : Nat → Int) : ∀ k, (acc tr f k).o = 0 ∨ ∃ j, j < k ∧ (acc tr f k).o = f j ∧ stn tr (f j) = 0
  | 0 => .inl rfl
  | k + 1 => by
    unfold acc acN
    by_cases h : stn tr (f k) = 0
    · rw [if_pos h]
      by_cases e : (acc tr f k).o = 0
      · simp only [e, if_true]
        exact .inr ⟨k, by omega, rfl, h⟩
      · simp only [e, if_false]
        rcases acc_open tr f k with q | ⟨j, hj, q⟩
        · exact absurd q e
        · exact .inr ⟨j, by omega, q⟩
    · rw [if_neg h]
      rcases acc_open tr f k with q | ⟨j, hj, q⟩
      · exact .inl q
      · exact .inr ⟨j, by omega, q⟩
theorem acc_none (tr : List Int) (f : Nat → Int) : ∀ k, (∀ j, j < k → f j ≠ 0) → (acc tr f k).o = 0 → ∀ j, j < k → stn tr (f j) ≠ 0
  | 0, _, _ => fun j hj => absurd hj (Nat.not_lt_zero _)
  | k + 1, h0, h => fun j hj => by
    unfold acc acN at h
    by_cases e : stn tr (f k) = 0
    · rw [if_pos e] at h
      by_cases e2 : (acc tr f k).o = 0
      · simp only [e2, if_true] at h
        exact absurd h (h0 k (by omega))
      · simp only [e2, if_false] at h
    · rw [if_neg e] at h
      by_cases q : j = k
      · subst q; exact e
      · exact acc_none tr f k (fun j hj => h0 j (by omega)) h j (by omega)
theorem acc_al (tr : List Int) (f : Nat → Int) : ∀ k, (∀ j, j < k → f j ≠ 0) → (acc tr f k).al = true → ∀ j, j < k → stn tr (f j) = 0 → f j = (acc tr f k).o
  | 0, _, _ => fun j hj => absurd hj (Nat.not_lt_zero _)
  | k + 1, h0, h => fun j hj hs => by
    unfold acc acN at h ⊢
    by_cases e : stn tr (f k) = 0
    · rw [if_pos e] at h ⊢
      simp only [Bool.and_eq_true, beq_iff_eq] at h
      by_cases q : j = k
      · subst q; exact h.2
      · have := acc_al tr f k (fun j hj => h0 j (by omega)) h.1 j (by omega) hs
        by_cases e2 : (acc tr f k).o = 0
        · exact absurd hs (acc_none tr f k (fun j hj => h0 j (by omega)) e2 j (by omega))
        · simp only [e2, if_false]
          exact this
    · rw [if_neg e] at h ⊢
      by_cases q : j = k
      · subst q; exact absurd hs e
      · exact acc_al tr f k (fun j hj => h0 j (by omega)) h j (by omega) hs
theorem acc_pr (tr : List Int) (f : Nat → Int) : ∀ k, (acc tr f k).pr = false → ∃ j, j < k ∧ stn tr (f j) = 0 ∧ ¬ 0 < f j
  | 0, h => by cases h
  | k + 1, h => by
    unfold acc acN at h
    by_cases e : stn tr (f k) = 0
    · rw [if_pos e] at h
      simp only [Bool.and_eq_false_iff, decide_eq_false_iff_not] at h
      rcases h with h | h
      · obtain ⟨j, hj, q⟩ := acc_pr tr f k h
        exact ⟨j, by omega, q⟩
      · exact ⟨k, by omega, e, h⟩
    · rw [if_neg e] at h
      obtain ⟨j, hj, q⟩ := acc_pr tr f k h
      exact ⟨j, by omega, q⟩
theorem acc_prT (tr : List Int) (f : Nat → Int) : ∀ k, (acc tr f k).pr = true → ∀ j, j < k → stn tr (f j) = 0 → 0 < f j
  | 0, _ => fun j hj => absurd hj (Nat.not_lt_zero _)
  | k + 1, h => fun j hj hs => by
    unfold acc acN at h
    by_cases e : stn tr (f k) = 0
    · rw [if_pos e] at h
      simp only [Bool.and_eq_true, decide_eq_true_eq] at h
      by_cases q : j = k
      · subst q; exact h.2
      · exact acc_prT tr f k h.1 j (by omega) hs
    · rw [if_neg e] at h
      by_cases q : j = k
      · subst q; exact absurd hs e
      · exact acc_prT tr f k h j (by omega) hs
/-- A PROBLEM. -/
structure Pb where
  n : Nat
  N : Nat
  ln : Nat → Nat
  L : Nat → Nat → Int
  m : Nat
  f : Nat → Int
structure Pb.Ok (P : Pb) : Prop where
  n : P.n ≤ 131071
  cl : ∀ k, k < P.N → ∀ j, j < P.ln k → okL P.n (P.L k j) = true
  pf : ∀ j, j < P.m → okL P.n (P.f j) = true
theorem okL_ne {n l : Int} (h : okL n l = true) : l ≠ 0 := ((okL_iff _ _).1 h).1
/-- THE SCAN. -/
def Pb.tT (P : Pb) (tr : List Int) (i : Nat) : Bool := isT tr (P.ln i) (P.L i)
def Pb.ac (P : Pb) (tr : List Int) (i : Nat) : Ac := acc tr (P.L i) (P.ln i)
def Pb.fF (P : Pb) (tr : List Int) (i : Nat) : Bool := !P.tT tr i && ((P.ac tr i).o == 0)
def Pb.sN (P : Pb) (tr : List Int) (i : Nat) (s : Int × Int) : Int × Int := if P.tT tr i = true then s else (if ((P.ac tr i).al && (s.1 == 0)) = true then (P.ac tr i).o else s.1, if ((P.ac tr i).pr && (s.2 == 0)) = true then (P.ac tr i).o else s.2)
def Pb.sc (P : Pb) (tr : List Int) : Nat → Int × Int
  | 0 => (0, 0)
  | i + 1 => P.sN tr i (P.sc tr i)
def Pb.ff (P : Pb) (tr : List Int) : Int := firstN P.N (fun i => !P.fF tr i)
def Pb.cost (P : Pb) (tr : List Int) : Nat := if P.ff tr = -1 then P.N else (P.ff tr).toNat + 1
theorem firstN_cases (N : Nat) (p : Nat → Bool) : (firstN N p = -1 ∧ ∀ k, k < N → p k = true) ∨ ∃ k, k < N ∧ firstN N p = (k : Int) ∧ p k = false := by
  by_cases h : ∀ k, k < N → p k = true
  · exact .inl ⟨firstN_all h, h⟩
  · right
    unfold firstN
    cases e : (List.range N).find? (fun k => !p k) with
    | none =>
      exact absurd (fun k hk => by
        have := List.find?_eq_none.1 e k (List.mem_range.2 hk)
        simpa using this) h
    | some k =>
      have h1 := List.find?_some e
      exact ⟨k, List.mem_range.1 (List.mem_of_find?_eq_some e), rfl, by simpa using h1⟩
theorem Pb.cost_le (P : Pb) (tr : List Int) : P.cost tr ≤ P.N := by
  unfold Pb.cost
  split
  · omega
  · rcases firstN_cases P.N (fun i => !P.fF tr i) with ⟨h, _⟩ | ⟨k, hk, h, _⟩
    · exact absurd h (by assumption)
    · unfold Pb.ff
      rw [h]
      omega
theorem Pb.cl0 {P : Pb} (h : P.Ok) {i : Nat} (hi : i < P.N) : ∀ j, j < P.ln i → P.L i j ≠ 0 := fun j hj => okL_ne (h.cl i hi j hj)
/-- What a unit is. -/
theorem Pb.sc_unit (P : Pb) (tr : List Int) : ∀ N, (P.sc tr N).1 ≠ 0 → ∃ i, i < N ∧ P.tT tr i = false ∧ (P.ac tr i).al = true ∧ (P.sc tr N).1 = (P.ac tr i).o
  | 0, h => absurd rfl h
  | N + 1, h => by
    unfold Pb.sc Pb.sN at h ⊢
    by_cases e : P.tT tr N = true
    · rw [if_pos e] at h ⊢
      obtain ⟨i, hi, q⟩ := P.sc_unit tr N h
      exact ⟨i, by omega, q⟩
    · rw [if_neg e] at h ⊢
      by_cases e2 : ((P.ac tr N).al && ((P.sc tr N).1 == 0)) = true
      · rw [if_pos e2] at h ⊢
        simp only [Bool.and_eq_true] at e2
        exact ⟨N, by omega, by simpa using e, e2.1, rfl⟩
      · rw [if_neg e2] at h ⊢
        obtain ⟨i, hi, q⟩ := P.sc_unit tr N h
        exact ⟨i, by omega, q⟩
theorem Pb.sc_press (P : Pb) (tr : List Int) : ∀ N, (P.sc tr N).2 ≠ 0 → ∃ i, i < N ∧ P.tT tr i = false ∧ (P.ac tr i).pr = true ∧ (P.sc tr N).2 = (P.ac tr i).o
  | 0, h => absurd rfl h
  | N + 1, h => by
    unfold Pb.sc Pb.sN at h ⊢
    by_cases e : P.tT tr N = true
    · rw [if_pos e] at h ⊢
      obtain ⟨i, hi, q⟩ := P.sc_press tr N h
      exact ⟨i, by omega, q⟩
    · rw [if_neg e] at h ⊢
      by_cases e2 : ((P.ac tr N).pr && ((P.sc tr N).2 == 0)) = true
      · rw [if_pos e2] at h ⊢
        simp only [Bool.and_eq_true] at e2
        exact ⟨N, by omega, by simpa using e, e2.1, rfl⟩
      · rw [if_neg e2] at h ⊢
        obtain ⟨i, hi, q⟩ := P.sc_press tr N h
        exact ⟨i, by omega, q⟩
theorem Pb.sc_calm (P : Pb) (tr : List Int) : ∀ N, (P.sc tr N).2 = 0 → (∀ i, i < N → P.fF tr i = false) → ∀ i, i < N → P.tT tr i = true ∨ (P.ac tr i).pr = false
  | 0, _, _ => fun i hi => absurd hi (Nat.not_lt_zero _)
  | N + 1, h, hf => fun i hi => by
    unfold Pb.sc Pb.sN at h
    by_cases e : P.tT tr N = true
    · rw [if_pos e] at h
      by_cases q : i = N
      · subst q; exact .inl e
      · exact P.sc_calm tr N h (fun i hi => hf i (by omega)) i (by omega)
    · rw [if_neg e] at h
      have hN := hf N (by omega)
      have ho : (P.ac tr N).o ≠ 0 := fun z => by
        unfold Pb.fF at hN
        simp [e, z] at hN
      by_cases e2 : ((P.ac tr N).pr && ((P.sc tr N).2 == 0)) = true
      · rw [if_pos e2] at h
        exact absurd h ho
      · rw [if_neg e2] at h
        by_cases q : i = N
        · subst q
          right
          have h' : (P.sc tr i).2 = 0 := h
          simp [h'] at e2
          exact e2
        · exact P.sc_calm tr N h (fun i hi => hf i (by omega)) i (by omega)
end Go.Proofs.Ytabjbppekijfiaa
