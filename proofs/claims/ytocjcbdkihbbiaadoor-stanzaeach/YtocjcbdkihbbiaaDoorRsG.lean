import Derived.Test.YtocjcbdkihbbiaaDoorRsF
import Derived.Test.YtocjcbdkihbbiaaDoorStU
namespace Go.Proofs.YtocjcbdkihbbiaaDoor
open Go.RowKit Go.Shelf

theorem lines_le (n : Nat) : ∀ t : Bs, t.length ≤ n → ∀ s ∈ linesL t, s.length ≤ t.length := by
  induction n with
  | zero =>
    intro t h s hs
    have : t = [] := List.length_eq_zero_iff.1 (by omega)
    subst this
    rw [linesL_nil] at hs
    cases hs
  | succ n ih =>
    intro t h s hs
    by_cases ht : t = []
    · subst ht; rw [linesL_nil] at hs; cases hs
    · rw [linesL_cons t ht] at hs
      have hlt := aft_lt 10 t ht
      rcases List.mem_cons.1 hs with rfl | hs
      · exact bef_le 10 t
      · have := ih (aft 10 t) (by omega) s hs
        omega
theorem trimR_ne (b : UInt8) (r : Bs) (hb : blB b = false) : Lib.trimRightS (b :: r) bl2 ≠ [] := by
  rw [trimR_cons]
  split
  · rw [hb]; simp
  · simp
theorem trimL_head : ∀ (l : Bs) (b : UInt8) (r : Bs), Lib.trimLeftS l bl2 = b :: r → blB b = false
  | [], b, r, h => by simp [Lib.trimLeftS] at h
  | x :: y, b, r, h => by
    rw [trimL_cons] at h
    by_cases hx : blB x = true
    · rw [if_pos hx] at h
      exact trimL_head y b r h
    · rw [if_neg hx] at h
      cases h
      simpa using hx
theorem kd_zero (s : Bs) : kd s = 0 ↔ Lib.trimLeftS s bl2 = [] := by
  have hc := trim_comm s
  constructor
  · intro h
    cases hl : Lib.trimLeftS s bl2 with
    | nil => rfl
    | cons b r =>
      exfalso
      have hb : blB b = false := trimL_head s b r hl
      have hne : Lib.trimS s bl2 ≠ [] := by rw [← hc, hl]; exact trimR_ne b r hb
      unfold kd at h
      rw [if_neg hne] at h
      cases s with
      | nil => simp [Lib.trimLeftS] at hl
      | cons x y =>
        simp only at h
        split at h <;> (try split at h) <;> (try split at h) <;> omega
  · intro h
    unfold kd
    rw [if_pos]
    rw [← hc, h]
    rfl
theorem kd_cons (b : UInt8) (r : Bs) (h : kd (b :: r) ≠ 0) : kd (b :: r) = if b.toNat = 35 then 1 else if blB b = true then 2 else 3 := by
  have hne : ¬ Lib.trimS (b :: r) bl2 = [] := fun e => h (by unfold kd; rw [if_pos e])
  unfold kd
  rw [if_neg hne]
  have e35 : (b = 35) ↔ b.toNat = 35 := ⟨fun e => by rw [e]; rfl, fun e => UInt8.toNat_inj.1 e⟩
  have eb : blB b = true ↔ (b = 32 ∨ b = 9) := by
    unfold blB bl2
    simp
  show (if b = 35 then 1 else if b = 32 then 2 else if b = 9 then 2 else 3) = _
  by_cases h1 : b = 35
  · rw [if_pos h1, if_pos (e35.1 h1)]
  · rw [if_neg h1, if_neg (fun e => h1 (e35.2 e))]
    by_cases h2 : b = 32
    · rw [if_pos h2, if_pos (eb.2 (.inl h2))]
    · rw [if_neg h2]
      by_cases h3 : b = 9
      · rw [if_pos h3, if_pos (eb.2 (.inr h3))]
      · rw [if_neg h3, if_neg (fun e => (eb.1 e).elim h2 h3)]
theorem odd_kd (s : Bs) (h : oddL s = true) : kd s ≠ 0 := by
  intro h0
  have h1 := (kd_zero s).1 h0
  unfold oddL at h
  obtain ⟨c, hc, ho⟩ := List.any_eq_true.1 h
  have key : ∀ (l : Bs), Lib.trimLeftS l bl2 = [] → ∀ c ∈ l, blB c = true := by
    intro l
    induction l with
    | nil => intro _ c hc; cases hc
    | cons b r ih =>
      intro hl c hc
      rw [trimL_cons] at hl
      by_cases hb : blB b = true
      · rw [if_pos hb] at hl
        rcases List.mem_cons.1 hc with rfl | hc
        · exact hb
        · exact ih hl c hc
      · rw [if_neg hb] at hl; cases hl
  have hb := key s h1 c hc
  have : c = 32 ∨ c = 9 := by unfold blB bl2 at hb; simpa using hb
  rcases this with rfl | rfl <;> simp [oddB] at ho

/-- THE PARAGRAPHS OF THE DEFINITION's OWN. -/
structure RD (base : Nat) (W : World) (v : Value) (ps : List (List Fd)) (vs : List Value) : Prop where
  len : vs.length = ps.length
  row : W.ownsRow base 39 1 v ps.length vs
  each : ∀ (i : Nat) u p, vs[i]? = some u → ps[i]? = some p → ∃ ts, RP base W u p ts
theorem RD.nil (base : Nat) (W : World) : RD base W (.slice none 0 0) [] [] := ⟨rfl, World.ownsRow_nil _ _ _ _, fun i u p h => by simp at h⟩
theorem RD.later {base : Nat} {W W2 : World} {v : Value} {ps : List (List Fd)} {vs : List Value} (h : RD base W v ps vs) (hb : Below W.heap.size W W2) : RD base W2 v ps vs :=
  ⟨h.len, ownsRow_below h.row hb, fun i u p h1 h2 => (h.each i u p h1 h2).imp fun _ ht => ht.later hb⟩
end Go.Proofs.YtocjcbdkihbbiaaDoor
