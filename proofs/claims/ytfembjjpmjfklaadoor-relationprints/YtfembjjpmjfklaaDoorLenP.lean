import Derived.Test.YtfembjjpmjfklaaDoorSlim
import Derived.Laws.MakeOwn
import Derived.Lib.SlBuf
namespace Go.Proofs.YtfembjjpmjfklaaDoor
open Go.RowKit

/-- CELLS OF A ROW OF THE CALL'S OWN ARE WRITTEN, ONE BEHIND THE OTHER. -/
theorem ownsRow_setCells {base : Nat} {e : TypeId} {z g n cap : Nat} : ∀ (vs : List Value) (o : Nat) (xs : List Value) (W : World), o + vs.length ≤ xs.length → W.ownsRow base e z (.slice (some ⟨g, 0, none⟩) n cap) n xs →
    (W.setCells g o vs).ownsRow base e z (.slice (some ⟨g, 0, none⟩) n cap) n (xs.take o ++ vs ++ xs.drop (o + vs.length))
  | [], o, xs, W, _, h => by
    show W.ownsRow _ _ _ _ _ _
    simpa using h
  | v :: r, o, xs, W, hl, h => by
    have ho : o < xs.length := by simp at hl; omega
    have ih := ownsRow_setCells r (o + 1) (xs.set o v) (W.setCell ⟨g, o, none⟩ v) (by simp at hl ⊢; omega) (ownsRow_set h o v)
    have e : (xs.set o v).take (o + 1) ++ r ++ (xs.set o v).drop (o + 1 + r.length) = xs.take o ++ (v :: r) ++ xs.drop (o + (v :: r).length) := by
      have e0 : xs.set o v = (xs.take o ++ [v]) ++ xs.drop (o + 1) := by rw [List.set_eq_take_append_cons_drop, if_pos ho]; simp
      have hlen : (xs.take o ++ [v]).length = o + 1 := by simp; omega
      have e3 : o + (v :: r).length = o + 1 + r.length := by simp; omega
      rw [e0, List.take_append_of_le_length (by omega), List.take_of_length_le (by omega), List.drop_append, List.drop_of_length_le (by omega), hlen, List.drop_drop, e3, show o + 1 + (o + 1 + r.length - (o + 1)) = o + 1 + r.length by omega]
      simp
    rw [e] at ih
    exact ih

theorem flatA_len : ∀ al : List Am, (al.flatMap amCells).length = al.length * 3
  | [] => rfl
  | a :: l => by rw [List.flatMap_cons, List.length_append, flatA_len l, List.length_cons]; show 3 + _ = _; omega
/-- A CLAUSE LENT: its atoms, a mark behind them. -/
def LE (lo : Nat) (W : World) (x : Value) (al : List Am) : Prop := ∃ C, x = .slice (some ⟨C, 0, none⟩) al.length (al.length + 1) ∧ OwnA lo W (.slice (some ⟨C, 0, none⟩) (al.length + 1) (al.length + 1)) (al ++ [mk1 77])
theorem LE.later {lo : Nat} {W W' : World} {x : Value} {al : List Am} (h : LE lo W x al) (hb : Below W.heap.size W W') : LE lo W' x al := by
  obtain ⟨C, e, h⟩ := h
  exact ⟨C, e, h.later hb⟩
theorem LE.blk {lo : Nat} {W : World} {x : Value} {al : List Am} (h : LE lo W x al) {g : Nat} (hg : x.ownBlock = some g) : lo ≤ g ∧ g < W.heap.size := by
  obtain ⟨C, rfl, h⟩ := h
  cases hg
  exact World.ownsRow.lt h C rfl
theorem LE.setOther {lo : Nat} {W : World} {x : Value} {al : List Am} (h : LE lo W x al) {g k : Nat} (hne : x.ownBlock ≠ some g) (u : Value) : LE lo (W.setCell ⟨g, k, none⟩ u) x al := by
  obtain ⟨C, rfl, h⟩ := h
  exact ⟨C, rfl, ownsRow_setCell_other h (a := ⟨g, k, none⟩) hne u⟩
/-- ITS ATOMS ALONE. -/
theorem LE.own {lo : Nat} {W : World} {x : Value} {al : List Am} (h : LE lo W x al) : OwnA lo W x al := by
  obtain ⟨C, rfl, h⟩ := h
  have hl : (al ++ [mk1 77]).length = al.length + 1 := by simp
  unfold OwnA at h
  rw [hl] at h
  obtain ⟨h1, h2⟩ := h
  refine ⟨flatA_len _, .inr ?_⟩
  rcases h2 with ⟨e, _⟩ | ⟨g, cap, cur, e, e2, e3, e4, e5, e6, e7⟩
  · cases e
  · cases e
    refine ⟨C, _, cur, rfl, e2, e3, by omega, e5, e6, ?_⟩
    have h3 := congrArg (List.take (al.length * 3)) e7
    rw [List.take_take, Nat.min_eq_left (by omega), List.flatMap_append] at h3
    rw [h3]
    exact List.take_left' (flatA_len _)

/-- CLAUSES LENT, THE FIRST k OF THEM. -/
structure LF (lo : Nat) (W : World) (M : Nat) (ms : List Value) (cl : List (List Am)) (k : Nat) : Prop where
  row : W.ownsRow lo 52 1 (.slice (some ⟨M, 0, none⟩) (cl.length + 1) (cl.length + 1)) (cl.length + 1) ms
  el : ∀ i (h : i < cl.length), i < k → ∃ x, ms[i]? = some x ∧ LE lo W x cl[i]
  ap : ∀ (i j : Nat) (x y : Value), ms[i]? = some x → ms[j]? = some y → i < k → j < k → i ≠ j → ∀ g, x.ownBlock = some g → y.ownBlock ≠ some g
  ar : ∀ (i : Nat) (x : Value), ms[i]? = some x → i < k → x.ownBlock ≠ some M
theorem LF.later {lo : Nat} {W W' : World} {M : Nat} {ms : List Value} {cl : List (List Am)} {k : Nat} (h : LF lo W M ms cl k) (hb : Below W.heap.size W W') : LF lo W' M ms cl k :=
  { h with row := ownsRow_below h.row hb, el := fun i hi hk => by obtain ⟨x, h1, h2⟩ := h.el i hi hk; exact ⟨x, h1, h2.later hb⟩ }
theorem LF.len {lo : Nat} {W : World} {M : Nat} {ms : List Value} {cl : List (List Am)} {k : Nat} (h : LF lo W M ms cl k) : ms.length = cl.length + 1 := by simpa using h.row.1
theorem LF.ltM {lo : Nat} {W : World} {M : Nat} {ms : List Value} {cl : List (List Am)} {k : Nat} (h : LF lo W M ms cl k) : lo ≤ M ∧ M < W.heap.size := h.row.lt M rfl
/-- ONE CLAUSE MORE: its block is none of those ahead. -/
theorem LF.put {lo s : Nat} {W : World} {M : Nat} {ms : List Value} {cl : List (List Am)} {k : Nat} (h : LF lo W M ms cl k) (hk : k < cl.length) (hkl : k ≤ cl.length) {x : Value} (hx : LE lo W x cl[k]) (hs : ∀ g, x.ownBlock = some g → s ≤ g) (hM : M < s) (hlt : ∀ (i : Nat) (y : Value), ms[i]? = some y → i < k → ∀ g, y.ownBlock = some g → g < s) :
    LF lo (W.setCell ⟨M, k, none⟩ x) M (ms.set k x) cl (k + 1) := by
  have hl := h.len
  have hxM : x.ownBlock ≠ some M := fun e => by have := hs M e; omega
  have hat : ∀ (i : Nat) (y : Value), (ms.set k x)[i]? = some y → i < k + 1 → (i = k ∧ y = x) ∨ (i < k ∧ ms[i]? = some y) := fun i y hy hi => by
    by_cases e : i = k
    · subst e
      rw [List.getElem?_set_self (by omega)] at hy
      exact .inl ⟨rfl, (Option.some.inj hy).symm⟩
    · rw [List.getElem?_set_ne (fun e' => e e'.symm)] at hy
      exact .inr ⟨by omega, hy⟩
  refine ⟨ownsRow_set h.row k x, fun i hi hik => ?_, fun i j y z hy hz hi hj hne g e => ?_, fun i y hy hi => ?_⟩
  · by_cases e : i = k
    · subst e
      exact ⟨x, List.getElem?_set_self (by omega), hx.setOther hxM _⟩
    · obtain ⟨y, h1, h2⟩ := h.el i hi (by omega)
      exact ⟨y, by rw [List.getElem?_set_ne (fun e' => e e'.symm)]; exact h1, h2.setOther (h.ar i y h1 (by omega)) _⟩
  · rcases hat i y hy hi with ⟨rfl, rfl⟩ | ⟨hi2, hy2⟩
    · rcases hat j z hz hj with ⟨rfl, rfl⟩ | ⟨hj2, hz2⟩
      · exact absurd rfl hne
      · intro e2
        have := hlt j z hz2 hj2 g e2
        have := hs g e
        omega
    · rcases hat j z hz hj with ⟨rfl, rfl⟩ | ⟨hj2, hz2⟩
      · intro e2
        have := hlt i y hy2 hi2 g e
        have := hs g e2
        omega
      · exact h.ap i j y z hy2 hz2 hi2 hj2 hne g e
  · rcases hat i y hy hi with ⟨rfl, rfl⟩ | ⟨hi2, hy2⟩
    · exact hxM
    · exact h.ar i y hy2 hi2
/-- THE BLOCKS SO FAR. -/
theorem LF.lt {lo : Nat} {W : World} {M : Nat} {ms : List Value} {cl : List (List Am)} {k : Nat} (h : LF lo W M ms cl k) (hk : k ≤ cl.length) (i : Nat) (y : Value) (hy : ms[i]? = some y) (hi : i < k) (g : Nat) (hg : y.ownBlock = some g) : g < W.heap.size := by
  obtain ⟨x, h1, h2⟩ := h.el i (by omega) hi
  rw [hy] at h1
  cases h1
  exact (h2.blk hg).2

/-- ALL CLAUSES LENT, AND THE MARK BEHIND THE ROW. -/
structure LN (lo : Nat) (W : World) (M K : Nat) (ms : List Value) (cl : List (List Am)) : Prop where
  lf : LF lo W M ms cl cl.length
  kl : ms[cl.length]? = some (.slice (some ⟨K, 0, none⟩) 1 1)
  kk : OwnA lo W (.slice (some ⟨K, 0, none⟩) 1 1) [mk1 78]
  km : K ≠ M
  ka : ∀ (i : Nat) (x : Value), ms[i]? = some x → i < cl.length → x.ownBlock ≠ some K
theorem LN.later {lo : Nat} {W W' : World} {M K : Nat} {ms : List Value} {cl : List (List Am)} (h : LN lo W M K ms cl) (hb : Below W.heap.size W W') : LN lo W' M K ms cl :=
  { h with lf := h.lf.later hb, kk := h.kk.later hb }

end Go.Proofs.YtfembjjpmjfklaaDoor
