import Derived.Test.YtiibobjbcgbknaaDoorStP
namespace Go.Proofs.YtiibobjbcgbknaaDoor
open Go

/-- A TEXT UP TO THE END OF ITS n-th LINE. -/
def upToL : Nat → Bs → Bs
  | 0, _ => []
  | _ + 1, [] => [10]
  | n + 1, b :: l => b :: upToL (if b = 10 then n else n + 1) l
theorem upToL_zero (l : Bs) : upToL 0 l = [] := by cases l <;> rfl
theorem bef_no : ∀ (t : Bs), (10 : UInt8) ∉ bef 10 t
  | [] => by simp [bef]
  | b :: l => by
    unfold bef
    split
    · simp
    · have := bef_no l
      simp
      exact ⟨fun h => by simp_all, this⟩
theorem bef_app (X : Bs) : ∀ (a : Bs), (10 : UInt8) ∉ a → bef 10 (a ++ 10 :: X) = a ∧ aft 10 (a ++ 10 :: X) = X
  | [], _ => ⟨by simp [bef], by simp [aft]⟩
  | b :: l, h => by
    have hb : b ≠ 10 := fun e => h (by simp [e])
    have hl : (10 : UInt8) ∉ l := fun e => h (by simp [e])
    obtain ⟨h1, h2⟩ := bef_app X l hl
    constructor
    · show bef 10 (b :: (l ++ 10 :: X)) = _
      unfold bef
      rw [if_neg hb, h1]
    · show aft 10 (b :: (l ++ 10 :: X)) = _
      unfold aft
      rw [if_neg hb, h2]
theorem linesL_app (a X : Bs) (h : (10 : UInt8) ∉ a) : linesL (a ++ 10 :: X) = a :: linesL X := by
  rw [linesL_cons _ (by simp), (bef_app X a h).1, (bef_app X a h).2]
theorem upToL_step (m : Nat) : ∀ (t : Bs), t ≠ [] → upToL (m + 1) t = bef 10 t ++ 10 :: (if (10 : UInt8) ∈ t then upToL m (aft 10 t) else [])
  | [], h => absurd rfl h
  | b :: l, _ => by
    by_cases hb : b = 10
    · subst hb
      show (10 : UInt8) :: upToL (if (10 : UInt8) = 10 then m else m + 1) l = _
      rw [if_pos rfl, if_pos List.mem_cons_self]
      unfold bef aft
      simp
    · show b :: upToL (if b = 10 then m else m + 1) l = _
      rw [if_neg hb]
      have e1 : bef 10 (b :: l) = b :: bef 10 l := by rw [bef, if_neg hb]
      have e2 : aft 10 (b :: l) = aft 10 l := by rw [aft, if_neg hb]
      have e3 : ((10 : UInt8) ∈ b :: l) ↔ (10 : UInt8) ∈ l := by
        simp
        intro h
        exact absurd h.symm hb
      rw [e1, e2]
      by_cases hl : l = []
      · subst hl
        simp [upToL, bef, e3]
      · rw [upToL_step m l hl]
        by_cases h10 : (10 : UInt8) ∈ l
        · rw [if_pos h10, if_pos (e3.2 h10)]; rfl
        · rw [if_neg h10, if_neg (fun h => h10 (e3.1 h))]; rfl
/-- THE FIRST n LINES, THEN WHAT FOLLOWS. -/
theorem lines_upTo (more : Bs) : ∀ (n : Nat) (t : Bs), n ≤ (linesL t).length → linesL (upToL n t ++ more) = (linesL t).take n ++ linesL more
  | 0, t, _ => by rw [upToL_zero]; simp
  | n + 1, t, h => by
    have ht : t ≠ [] := fun e => by subst e; simp [linesL_nil] at h
    rw [linesL_cons t ht] at h ⊢
    rw [upToL_step n t ht, List.append_assoc, List.cons_append, linesL_app _ _ (bef_no t), List.take_succ_cons, List.cons_append]
    congr 1
    simp only [List.length_cons] at h
    by_cases h10 : (10 : UInt8) ∈ t
    · rw [if_pos h10]
      exact lines_upTo more n (aft 10 t) (by omega)
    · rw [if_neg h10]
      have ha : aft 10 t = [] := ((idx1 10 t).1 h10).2.2
      rw [ha, linesL_nil] at h ⊢
      simp

theorem numb_app : ∀ (A B : List Bs) (j : Nat), numb j (A ++ B) = numb j A ++ numb (j + A.length) B
  | [], _, _ => by simp [numb]
  | a :: A, B, j => by
    show (j, a) :: numb (j + 1) (A ++ B) = (j, a) :: numb (j + 1) A ++ _
    rw [numb_app A B (j + 1), List.cons_append, List.length_cons]
    congr 3
    omega
theorem numb_split : ∀ (L : List Bs) (j k : Nat) (s : Bs) (a b : List (Nat × Bs)), numb j L = a ++ (k, s) :: b → k = j + a.length ∧ a ++ [(k, s)] = numb j (L.take (a.length + 1)) ∧ a.length + 1 ≤ L.length
  | [], _, _, _, a, b, h => by cases a <;> simp [numb] at h
  | x :: L, j, k, s, [], b, h => by
    simp [numb] at h
    obtain ⟨⟨rfl, rfl⟩, _⟩ := h
    simp [numb]
  | x :: L, j, k, s, y :: a, b, h => by
    simp only [numb, List.cons_append, List.cons.injEq] at h
    obtain ⟨hy, h⟩ := h
    obtain ⟨h1, h2, h3⟩ := numb_split L (j + 1) k s a b h
    refine ⟨by rw [h1, List.length_cons]; omega, ?_, by simp only [List.length_cons]; omega⟩
    rw [List.cons_append, h2, List.length_cons, List.take_succ_cons, ← hy]
    rfl

theorem stays (st : St) (h : st.err.isSome = true) (xs : List (Nat × Bs)) : xs.foldl stp st = st := by
  induction xs with
  | nil => rfl
  | cons x r ih =>
    have : stp st x = st := by
      unfold stp
      cases e : st.err with
      | none => rw [e] at h; cases h
      | some a => rfl
    rw [List.foldl_cons, this, ih]
theorem stp_num {st : St} (h : st.err = none) {x : Nat × Bs} {k e : Nat} (hs : (stp st x).err = some (k, e)) : x.1 = k := by
  unfold stp at hs
  rw [h] at hs
  simp only at hs
  split at hs
  · cases hs
  · split at hs
    · cases hs
    · cases hs; rfl
theorem first_err : ∀ (xs : List (Nat × Bs)) (st : St) (k e : Nat), st.err = none → (xs.foldl stp st).err = some (k, e) → ∃ a s b, xs = a ++ (k, s) :: b ∧ ((a ++ [(k, s)]).foldl stp st).err = some (k, e)
  | [], st, k, e, h, hs => by rw [List.foldl_nil, h] at hs; cases hs
  | x :: r, st, k, e, h, hs => by
    rw [List.foldl_cons] at hs
    cases hx : (stp st x).err with
    | none =>
      obtain ⟨a, s, b, h1, h2⟩ := first_err r (stp st x) k e hx hs
      exact ⟨x :: a, s, b, by rw [h1]; rfl, h2⟩
    | some q =>
      rw [stays _ (by rw [hx]; rfl)] at hs
      have hk := stp_num h hs
      refine ⟨[], x.2, r, by rw [← hk]; rfl, ?_⟩
      rw [← hk] at hs ⊢
      exact hs
/-- AN ERROR STANDS WHERE IT IS MET. -/
theorem parse_ahead (t more : Bs) (k e : Nat) (h : (parseT t).err = some (k, e)) : (parseT (upToL k t ++ more)).err = some (k, e) := by
  obtain ⟨a, s, b, h1, h2⟩ := first_err _ st0 k e rfl h
  obtain ⟨h3, h4, h5⟩ := numb_split _ 1 k s a b h1
  have hk : k = a.length + 1 := by omega
  have hl := lines_upTo more k t (by rw [hk]; exact h5)
  unfold parseT
  rw [hl, numb_app]
  have h6 : (runL (numb 1 ((linesL t).take k))).err = some (k, e) := by
    rw [hk, ← h4]
    rw [← hk]
    exact h2
  unfold runL at h6 ⊢
  rw [List.foldl_append, stays _ (by rw [h6]; rfl)]
  exact h6

end Go.Proofs.YtiibobjbcgbknaaDoor
