import Derived.Test.YtohncccejlccbaaAnA
namespace Go.Proofs.Ytohncccejlccbaa
open Go.RowKit Go.Shelf

/-- HOW LONG THE LINES HAVE BECOME. -/
def Tb (xs : List Lf) (E : Nat → List Bs) (a b : Nat) : Prop := ∀ (j : Nat) (x : Lf), xs[j]? = some x → (E x.lb).length = x.f.ls.length ∧ ∀ (i : Nat) (l l0 : Bs), (E x.lb)[i]? = some l → x.f.ls[i]? = some l0 → l.length ≤ l0.length + (if j < a ∨ (j = a ∧ i < b) then 3 else 0)
theorem Tb.step {xs : List Lf} {E : Nat → List Bs} {a b : Nat} (h : Tb xs E a b) (hinj : ∀ (i j : Nat) (x y : Lf), xs[i]? = some x → xs[j]? = some y → x.lb = y.lb → i = j) {x : Lf} (hx : xs[a]? = some x) {l : Bs} (hl : (E x.lb)[b]? = some l) {s : Bs} (hs : s.length = l.length + 3) : Tb xs (updE E x.lb ((E x.lb).set b s)) a (b + 1) := by
  intro j y hy
  obtain ⟨h1, h2⟩ := h j y hy
  by_cases e : x.lb = y.lb
  · obtain rfl := hinj a j x y hx hy e
    rw [hx] at hy
    cases hy
    have e1 : updE E x.lb ((E x.lb).set b s) x.lb = (E x.lb).set b s := if_pos rfl
    rw [e1]
    refine ⟨by rw [List.length_set]; exact h1, fun i m l0 hm h0 => ?_⟩
    by_cases ei : b = i
    · subst ei
      have hlt := (List.getElem?_eq_some_iff.1 hl).1
      rw [List.getElem?_set, if_pos rfl, if_pos hlt] at hm
      cases hm
      have := h2 b l l0 hl h0
      rw [if_neg (by omega)] at this
      rw [if_pos (by omega)]
      omega
    · rw [List.getElem?_set_ne ei] at hm
      have := h2 i m l0 hm h0
      by_cases hc : a < a ∨ (a = a ∧ i < b)
      · rw [if_pos hc] at this
        rw [if_pos (by omega)]
        exact this
      · rw [if_neg hc] at this
        omega
  · have e1 : updE E x.lb ((E x.lb).set b s) y.lb = E y.lb := if_neg (fun q => e q.symm)
    rw [e1]
    refine ⟨h1, fun i m l0 hm h0 => ?_⟩
    have := h2 i m l0 hm h0
    by_cases hc : j < a ∨ (j = a ∧ i < b)
    · rw [if_pos hc] at this
      rw [if_pos (by omega)]
      exact this
    · rw [if_neg hc] at this
      omega
theorem Tb.next {xs : List Lf} {E : Nat → List Bs} {a b : Nat} (h : Tb xs E a b) : Tb xs E (a + 1) 0 := by
  intro j y hy
  obtain ⟨h1, h2⟩ := h j y hy
  refine ⟨h1, fun i m l0 hm h0 => ?_⟩
  have := h2 i m l0 hm h0
  have hi := (List.getElem?_eq_some_iff.1 h0).1
  by_cases hc : j < a ∨ (j = a ∧ i < b)
  · rw [if_pos hc] at this
    rw [if_pos (by omega)]
    exact this
  · rw [if_neg hc] at this
    omega
theorem jt_le : ∀ (l m : List Bs), m.length = l.length → (∀ (i : Nat) (a b : Bs), m[i]? = some a → l[i]? = some b → a.length ≤ b.length + 3) → (Lib.joinTail [10] m).length ≤ (Lib.joinTail [10] l).length + 3 * l.length
  | [], [], _, _ => by simp
  | [], b :: m, h, _ => by simp at h
  | a :: l, [], h, _ => by simp at h
  | a :: l, b :: m, h, k => by
    have ih := jt_le l m (by simpa using h) fun i x y hx hy => k (i + 1) x y (by simpa using hx) (by simpa using hy)
    have h0 := k 0 b a rfl rfl
    unfold Lib.joinTail at ih ⊢
    simp only [List.map_cons, List.flatten_cons, List.length_append, List.length_cons, List.length_nil] at ih ⊢
    omega
theorem jn_le3 (l m : List Bs) (h : m.length = l.length) (k : ∀ (i : Nat) (a b : Bs), m[i]? = some a → l[i]? = some b → a.length ≤ b.length + 3) : (Lib.join m [10]).length ≤ (Lib.join l [10]).length + 3 * l.length := by
  cases l with
  | nil => cases m with
    | nil => simp
    | cons b m => simp at h
  | cons a l => cases m with
    | nil => simp at h
    | cons b m =>
      have h0 := k 0 b a rfl rfl
      have := jt_le l m (by simpa using h) fun i x y hx hy => k (i + 1) x y (by simpa using hx) (by simpa using hy)
      rw [Lib.join_cons, Lib.join_cons]
      simp only [List.length_append, List.length_cons]
      omega
theorem Aw.at2 {lo lg lgc : Nat} {m1 m2 : Value} {pb pc : Nat} {E : Nat → List Bs} {q1 : Lq} {xs : List Lf} {W : World} (h : Aw lo lg lgc m1 m2 pb pc E q1 xs W) {i : Nat} {x : Lf} (hx : xs[i]? = some x) : W.cell? ⟨pb, i * 3, none⟩ = some (.string (ba x.f.nm)) ∧ W.cell? ⟨pb, i * 3 + 1, none⟩ = some (.slice (some ⟨x.lb, 0, none⟩) x.f.ls.length x.lc) ∧ W.cell? ⟨pb, i * 3 + 2, none⟩ = some (.slice (some ⟨x.ab, 0, none⟩) x.f.ns.length x.ac) ∧ (∀ j, W.frozen? ⟨pb, j, none⟩ = false) := by
  obtain ⟨hlt, rfl⟩ := List.getElem?_eq_some_iff.1 hx
  exact h.at hlt
theorem Aw.drew {lo lg lgc : Nat} {m1 m2 : Value} {pb pc : Nat} {E : Nat → List Bs} {q1 : Lq} {xs : List Lf} {W : World} (h : Aw lo lg lgc m1 m2 pb pc E q1 xs W) : Aw lo lg lgc m1 m2 pb pc E q1 xs W.drew := h.later ((Below.refl _ _).drew)
end Go.Proofs.Ytohncccejlccbaa
