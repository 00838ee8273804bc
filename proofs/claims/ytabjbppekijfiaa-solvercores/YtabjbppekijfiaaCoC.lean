import Derived.Test.YtabjbppekijfiaaCoB
import Derived.Test.YtabjbppekijfiaaDsA
namespace Go.Proofs.Ytabjbppekijfiaa
open Go.RowKit

/-- THE PROBLEM OF THE CLAUSES WITH THESE NUMBERS. -/
def PP (n : Nat) (ln : Nat → Nat) (L : Nat → Nat → Int) (p : List Int) : Pb := ⟨n, p.length, fun j => ln (p.getD j 0).toNat, fun j => L (p.getD j 0).toNat, 0, fun _ => 0⟩
def Al (ln : Nat → Nat) (L : Nat → Nat → Int) (v : Nat → Bool) (p : List Int) : Prop := ∀ x ∈ p, clT v (ln x.toNat) (L x.toNat) = true
theorem getD_mem {p : List Int} {j : Nat} (h : j < p.length) : p.getD j 0 ∈ p := by
  have e : p.getD j 0 = p[j] := by simp [h]
  rw [e]
  exact List.getElem_mem h
theorem PP_mo {n : Nat} {ln : Nat → Nat} {L : Nat → Nat → Int} {p : List Int} {v : Nat → Bool} : (PP n ln L p).Mo v ↔ Al ln L v p := by
  constructor
  · intro h x hx
    obtain ⟨j, hj, e⟩ := List.getElem_of_mem hx
    have := h j hj
    have e2 : p.getD j 0 = x := by rw [← e]; simp [hj]
    simp only [PP, e2] at this
    exact this
  · intro h j hj
    exact h _ (getD_mem hj)
theorem wo_mem {p : List Int} {x y : Int} : y ∈ wo p x ↔ y ∈ p ∧ y ≠ x := by simp [wo]
def Ha (ln : Nat → Nat) (L : Nat → Nat → Int) (p : List Int) (x : Int) : Prop := ∃ v, Al ln L v (wo p x)
def Ns (n : Nat) (ln : Nat → Nat) (L : Nat → Nat → Int) (B : Nat) (p : List Int) (x : Int) : Prop := ∀ v tr S, Rs (PP n ln L (wo p x)) B v tr S → v ≠ 2
/-- ALL THE CLAUSES ARE CLAUSES. -/
structure Oc (n N : Nat) (ln : Nat → Nat) (L : Nat → Nat → Int) : Prop where
  le : n ≤ 131071
  cl : ∀ k, k < N → ∀ j, j < ln k → okL n (L k j) = true
structure Cs (N : Nat) (ln : Nat → Nat) (L : Nat → Nat → Int) (p : List Int) : Prop where
  rise : p.Pairwise (· < ·)
  inN : ∀ x ∈ p, 0 ≤ x ∧ x < (N : Int)
  no : ∀ v, ¬ Al ln L v p
theorem PP_ok {n N : Nat} {ln : Nat → Nat} {L : Nat → Nat → Int} (h : Oc n N ln L) {p : List Int} (hp : ∀ x ∈ p, 0 ≤ x ∧ x < (N : Int)) : (PP n ln L p).Ok := by
  refine ⟨h.le, fun k hk j hj => ?_, fun j hj => absurd hj (Nat.not_lt_zero _)⟩
  have := hp _ (getD_mem (j := k) hk)
  exact h.cl _ (by omega) j hj
theorem wo_in {N : Nat} {p : List Int} (hp : ∀ x ∈ p, 0 ≤ x ∧ x < (N : Int)) (x : Int) : ∀ y ∈ wo p x, 0 ≤ y ∧ y < (N : Int) := fun y hy => hp y (wo_mem.1 hy).1
theorem Ha.ns {n N : Nat} {ln : Nat → Nat} {L : Nat → Nat → Int} (h : Oc n N ln L) {p : List Int} (hp : ∀ x ∈ p, 0 ≤ x ∧ x < (N : Int)) {x : Int} {B : Nat} (ha : Ha ln L p x) : Ns n ln L B p x := fun v tr S hr e => by
  subst e
  obtain ⟨v, hv⟩ := ha
  exact hr.unsat (PP_ok h (wo_in hp x)) v (PP_mo.2 hv)
theorem Ha.wo {ln : Nat → Nat} {L : Nat → Nat → Int} {p : List Int} {x z : Int} (h : Ha ln L p x) : Ha ln L (wo p z) x := by
  obtain ⟨v, hv⟩ := h
  exact ⟨v, fun y hy => hv y (wo_mem.2 ⟨(wo_mem.1 (wo_mem.1 hy).1).1, (wo_mem.1 hy).2⟩)⟩
theorem wo_lt {p : List Int} {x : Int} (h : x ∈ p) : (wo p x).length < p.length := by
  unfold wo
  refine Nat.lt_of_le_of_ne (List.length_filter_le _ _) (fun e => ?_)
  have := (List.length_filter_eq_length_iff.1 e) x h
  simp at this
/-- A PASS, AND ALL OF THEM, AS FUNCTIONS. -/
def vd (n : Nat) (ln : Nat → Nat) (L : Nat → Nat → Int) (B : Nat) (p : List Int) : Int := (Pb.fr (PP n ln L p) B n [] 0).1
theorem vd_rs {n N B : Nat} {ln : Nat → Nat} {L : Nat → Nat → Int} (ho : Oc n N ln L) {p : List Int} (hp : ∀ x ∈ p, 0 ≤ x ∧ x < (N : Int)) {v : Int} {tr : List Int} {S : Nat} (h : Rs (PP n ln L p) B v tr S) : vd n ln L B p = v := (h.same (fr_rs (PP_ok ho hp))).1
theorem vd_ns {n N B : Nat} {ln : Nat → Nat} {L : Nat → Nat → Int} (ho : Oc n N ln L) {p : List Int} (hp : ∀ x ∈ p, 0 ≤ x ∧ x < (N : Int)) {x : Int} (h : Ns n ln L B p x) : vd n ln L B (wo p x) ≠ 2 := h _ _ _ (fr_rs (P := PP n ln L (wo p x)) (PP_ok ho (wo_in hp x)))
def ps (n : Nat) (ln : Nat → Nat) (L : Nat → Nat → Int) (B : Nat) (q : List Int) : Nat → List Int
  | 0 => q
  | k + 1 => if vd n ln L B (wo (ps n ln L B q k) (q.getD k 0)) = 2 then wo (ps n ln L B q k) (q.getD k 0) else ps n ln L B q k
def cf (n : Nat) (ln : Nat → Nat) (L : Nat → Nat → Int) (B : Nat) : Nat → List Int → List Int
  | 0, q => q
  | r + 1, q => if (ps n ln L B q q.length).length = q.length then q else cf n ln L B r (ps n ln L B q q.length)
/-- WITHIN A PASS. -/
structure Is (n N B : Nat) (ln : Nat → Nat) (L : Nat → Nat → Int) (q : List Int) (k : Nat) (p : List Int) (nd : Nat → Bool) (fw : Bool) : Prop where
  cs : Cs N ln L p
  nd : ∀ x : Nat, nd x = true → Ha ln L p (x : Int)
  more : ∀ j, k ≤ j → j < q.length → q.getD j 0 ∈ p
  le : p.length ≤ q.length
  yes : fw = true → p.length < q.length
  nof : fw = false → p = q ∧ ∀ j, j < k → Ns n ln L B p (q.getD j 0)
  dq : q.Pairwise (· < ·)
  eq : p = ps n ln L B q k
theorem Is.start {n N B : Nat} {ln : Nat → Nat} {L : Nat → Nat → Int} {p : List Int} {nd : Nat → Bool} (h : Cs N ln L p) (hn : ∀ x : Nat, nd x = true → Ha ln L p (x : Int)) : Is n N B ln L p 0 p nd false :=
  ⟨h, hn, fun j _ hj => getD_mem hj, Nat.le_refl _, (by intro e; cases e), fun _ => ⟨rfl, fun j hj => absurd hj (Nat.not_lt_zero _)⟩, h.rise, rfl⟩
theorem Is.step {n N B : Nat} {ln : Nat → Nat} {L : Nat → Nat → Int} (ho : Oc n N ln L) {q p : List Int} {k : Nat} {nd nd2 : Nat → Bool} {fw : Bool} (h : Is n N B ln L q k p nd fw) (hn : ∀ x : Nat, nd2 x = true → Ha ln L p (x : Int)) (hs : Ns n ln L B p (q.getD k 0)) : Is n N B ln L q (k + 1) p nd2 fw :=
  ⟨h.cs, hn, fun j h1 h2 => h.more j (by omega) h2, h.le, h.yes, fun e => ⟨(h.nof e).1, fun j hj => by
    by_cases e2 : j = k
    · subst e2; exact hs
    · exact (h.nof e).2 j (by omega)⟩, h.dq, by
    have e1 := h.eq
    show p = if vd n ln L B (wo (ps n ln L B q k) (q.getD k 0)) = 2 then _ else _
    rw [← e1, if_neg (vd_ns ho h.cs.inN hs)]⟩
theorem Is.unsat {n N B : Nat} {ln : Nat → Nat} {L : Nat → Nat → Int} (ho : Oc n N ln L) {q p : List Int} {k : Nat} {nd : Nat → Bool} {fw : Bool} (h : Is n N B ln L q k p nd fw) (hk : k < q.length) {tr : List Int} {S : Nat} (hr : Rs (PP n ln L (wo p (q.getD k 0))) B 2 tr S) : Is n N B ln L q (k + 1) (wo p (q.getD k 0)) nd true := by
  have hm := h.more k (Nat.le_refl _) hk
  have hl := wo_lt hm
  have hle := h.le
  refine ⟨⟨h.cs.rise.filter _, wo_in h.cs.inN _, fun v hv => hr.unsat (PP_ok ho (wo_in h.cs.inN _)) v (PP_mo.2 hv)⟩, fun x hx => (h.nd x hx).wo, fun j h1 h2 => wo_mem.2 ⟨h.more j (by omega) h2, fun e => ?_⟩, by omega, fun _ => (by omega), (by intro e; cases e), h.dq, by
    have e1 := h.eq
    show _ = if vd n ln L B (wo (ps n ln L B q k) (q.getD k 0)) = 2 then wo (ps n ln L B q k) (q.getD k 0) else _
    rw [← e1, if_pos (vd_rs ho (wo_in h.cs.inN _) hr)]⟩
  have e1 : q.getD j 0 = q[j] := by simp [h2]
  have e2 : q.getD k 0 = q[k] := by simp [hk]
  have := (List.pairwise_iff_getElem.1 h.dq) k j hk h2 (by omega)
  omega
theorem Is.sat {n N B : Nat} {ln : Nat → Nat} {L : Nat → Nat → Int} (ho : Oc n N ln L) {q p : List Int} {k : Nat} {nd : Nat → Bool} {fw : Bool} (h : Is n N B ln L q k p nd fw) (hk : k < q.length) {tr : List Int} {S : Nat} (hr : Rs (PP n ln L (wo p (q.getD k 0))) B 1 tr S) : Is n N B ln L q (k + 1) p (fun y => if y = (q.getD k 0).toNat then true else nd y) fw := by
  have hm := h.cs.inN _ (h.more k (Nat.le_refl _) hk)
  have ha : Ha ln L p (q.getD k 0) := ⟨mv tr, PP_mo.1 (hr.sat (PP_ok ho (wo_in h.cs.inN _)))⟩
  refine h.step ho (fun x hx => ?_) (ha.ns ho h.cs.inN)
  by_cases e : x = (q.getD k 0).toNat
  · have : (x : Int) = q.getD k 0 := by omega
    rw [this]
    exact ha
  · simp only [e, if_false] at hx
    exact h.nd x hx
theorem Is.spent {n N B : Nat} {ln : Nat → Nat} {L : Nat → Nat → Int} (ho : Oc n N ln L) {q p : List Int} {k : Nat} {nd : Nat → Bool} {fw : Bool} (h : Is n N B ln L q k p nd fw) {v : Int} {tr : List Int} {S : Nat} (hr : Rs (PP n ln L (wo p (q.getD k 0))) B v tr S) (hv : v ≠ 2) : Is n N B ln L q (k + 1) p nd fw :=
  h.step ho h.nd fun v2 tr2 S2 h2 => by rw [(hr.same h2).1]; exact hv
theorem Is.cont {n N B : Nat} {ln : Nat → Nat} {L : Nat → Nat → Int} (ho : Oc n N ln L) {q p : List Int} {k : Nat} {nd : Nat → Bool} {fw : Bool} (h : Is n N B ln L q k p nd fw) (hk : k < q.length) (hn : nd (q.getD k 0).toNat = true) : Is n N B ln L q (k + 1) p nd fw := by
  have hm := h.cs.inN _ (h.more k (Nat.le_refl _) hk)
  have := h.nd _ hn
  rw [show (((q.getD k 0).toNat : Nat) : Int) = q.getD k 0 by omega] at this
  exact h.step ho h.nd (this.ns ho h.cs.inN)
/-- WHAT COMES OUT. -/
def Cf (n N B : Nat) (ln : Nat → Nat) (L : Nat → Nat → Int) (p : List Int) : Prop := Cs N ln L p ∧ ∀ x ∈ p, Ns n ln L B p x
theorem Is.done {n N B : Nat} {ln : Nat → Nat} {L : Nat → Nat → Int} {q p : List Int} {nd : Nat → Bool} (h : Is n N B ln L q q.length p nd false) : Cf n N B ln L p := by
  obtain ⟨e, h2⟩ := h.nof rfl
  subst e
  refine ⟨h.cs, fun x hx => ?_⟩
  obtain ⟨j, hj, e⟩ := List.getElem_of_mem hx
  have := h2 j hj
  rwa [show p.getD j 0 = x by rw [← e]; simp [hj]] at this
end Go.Proofs.Ytabjbppekijfiaa
