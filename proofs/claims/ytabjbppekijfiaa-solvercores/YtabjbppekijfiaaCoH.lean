import Derived.Test.YtabjbppekijfiaaCoG
namespace Go.Proofs.Ytabjbppekijfiaa
open Go.RowKit

theorem getD_lt {p : List Int} (h : p.Pairwise (· < ·)) {i j : Nat} (hij : i < j) (hj : j < p.length) : p.getD i 0 < p.getD j 0 := by
  have e1 : p.getD i 0 = p[i] := by simp [show i < p.length by omega]
  have e2 : p.getD j 0 = p[j] := by simp [hj]
  rw [e1, e2]
  exact (List.pairwise_iff_getElem.1 h) i j (by omega) hj hij
theorem ch_all (p : List Int) : ∀ k, k ≤ p.length → ch p (-1) k = p.take k
  | 0, _ => by simp [ch]
  | k + 1, hk => by
    rw [ch, ch_all p k (by omega), if_neg (by omega), List.take_add_one, List.getElem?_eq_getElem (show k < p.length by omega)]
    simp [show k < p.length by omega]
theorem ch_one {p : List Int} (h : p.Pairwise (· < ·)) {i : Nat} (hi : i < p.length) : ∀ k, k ≤ p.length → ch p (i : Int) k = wo (p.take k) (p.getD i 0)
  | 0, _ => by simp [ch, wo]
  | k + 1, hk => by
    rw [ch, ch_one h hi k (by omega), wo_take (show k < p.length by omega)]
    congr 1
    by_cases e : k = i
    · subst e; simp
    · have : p.getD k 0 ≠ p.getD i 0 := by
        rcases Nat.lt_or_gt_of_ne e with q | q
        · have := getD_lt h q hi; omega
        · have := getD_lt h q (show k < p.length by omega); omega
      rw [if_neg this, if_neg (by omega)]
theorem rise_ge {p : List Int} (h : p.Pairwise (· < ·)) (h0 : ∀ x ∈ p, 0 ≤ x) : ∀ i, i < p.length → (i : Int) ≤ p.getD i 0
  | 0, hi => by have := h0 _ (getD_mem hi); omega
  | i + 1, hi => by
    have := rise_ge h h0 i (by omega)
    have := getD_lt h (show i < i + 1 by omega) hi
    omega
theorem Cs.len {N : Nat} {ln : Nat → Nat} {L : Nat → Nat → Int} {p : List Int} (h : Cs N ln L p) : p.length ≤ N := by
  by_cases e : p.length = 0
  · omega
  · have h1 := rise_ge h.rise (fun x hx => (h.inN x hx).1) (p.length - 1) (by omega)
    have h2 := h.inN _ (getD_mem (p := p) (j := p.length - 1) (by omega))
    omega
theorem Cs.pos {N : Nat} {ln : Nat → Nat} {L : Nat → Nat → Int} {p : List Int} (h : Cs N ln L p) : 0 < p.length := by
  cases p with
  | nil => exact absurd (fun x hx => absurd hx List.not_mem_nil) (h.no fun _ => false)
  | cons a r => simp
/-- The problem of some of the clauses. -/
theorem PP_prob {k : Nat} {B : Int} {N : Nat} {ln : Nat → Nat} {L : Nat → Nat → Int} (hp : prob k B N ln L 0 nof = true) {p : List Int} (hi : ∀ x ∈ p, 0 ≤ x ∧ x < (N : Int)) : prob k B p.length (fun j => ln (p.getD j 0).toNat) (fun j => L (p.getD j 0).toNat) 0 nof = true := by
  obtain ⟨q1, q2, q3, q4, q5⟩ := prob_iff.1 hp
  refine prob_iff.2 ⟨q1, q2, q3, ?_, q5⟩
  unfold lits at *
  exact (bAll_iff _ _).2 fun j hj => (bAll_iff _ _).1 q4 _ (by have := hi _ (getD_mem hj); omega)
end Go.Proofs.Ytabjbppekijfiaa
