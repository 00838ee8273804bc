import Derived.Test.YtkpkpebljkcmkaaDoorGnB
import Derived.Sort.Walk0
namespace Go.Proofs.YtkpkpebljkcmkaaDoor
open Go.RowKit

abbrev lt (x y : Nm) : Prop := x.data.toList < y.data.toList
theorem nm_inj {x y : Nm} (h : x.data.toList = y.data.toList) : x = y := by
  have : x.data = y.data := Array.ext' h
  cases x; cases y; simp_all
theorem lt_iff (x y : Nm) : Op.bytesLess (ByteArray.toList x) (ByteArray.toList y) = decide (lt x y) := by
  rw [bytesLess_eq, ByteArray.toList_eq, ByteArray.toList_eq]
theorem lt_tri {x y : Nm} (h : ¬ lt x y) (e : x ≠ y) : lt y x := Classical.byContradiction fun q => e (nm_inj (List.le_antisymm (List.not_lt.1 q) (List.not_lt.1 h)))
theorem lt_irr (x : Nm) : ¬ lt x x := List.lt_irrefl _
theorem lt_tr {x y z : Nm} (h : lt x y) (k : lt y z) : lt x z := List.lt_trans h k
/-- ONE PATH AHEAD OF ANOTHER. -/
abbrev ltR (a b : List Value) : Prop := lt (pth a) (pth b)
/-- LAID AMONG OTHERS. -/
def insR (f : List Value) : List (List Value) → List (List Value)
  | [] => [f]
  | x :: l => if ltR f x then f :: x :: l else x :: insR f l
theorem insR_perm (f : List Value) : ∀ l, (insR f l).Perm (f :: l)
  | [] => List.Perm.refl _
  | x :: l => by
    unfold insR
    split
    · exact List.Perm.refl _
    · exact ((insR_perm f l).cons x).trans (List.Perm.swap f x l)
theorem insR_laid (f y : List Value) : ∀ {A : List (List Value)}, (∃ x ∈ A, ltR f x) → insR f (A ++ [y]) = insR f A ++ [y]
  | [], ⟨_, h, _⟩ => by cases h
  | a :: A, ⟨x, hx, hl⟩ => by
    rw [List.cons_append]
    unfold insR
    by_cases e : ltR f a
    · rw [if_pos e, if_pos e]; rfl
    · rw [if_neg e, if_neg e, List.cons_append]
      rcases List.mem_cons.1 hx with rfl | hx
      · exact absurd hl e
      · rw [insR_laid f y ⟨x, hx, hl⟩]
theorem insR_none (f : List Value) : ∀ {A : List (List Value)}, (∀ x ∈ A, ¬ ltR f x) → insR f A = A ++ [f]
  | [], _ => rfl
  | a :: A, h => by
    unfold insR
    rw [if_neg (h a List.mem_cons_self), insR_none f fun x hx => h x (List.mem_cons_of_mem _ hx)]
    rfl
theorem insR_here (f y : List Value) {A : List (List Value)} (h : ∀ x ∈ A, ¬ ltR f x) (hy : ltR f y) : insR f (A ++ [y]) = A ++ [f] ++ [y] := by
  induction A with
  | nil =>
    show (if ltR f y then f :: y :: [] else y :: insR f []) = _
    rw [if_pos hy]; rfl
  | cons a A ih =>
    rw [List.cons_append]
    unfold insR
    rw [if_neg (h a List.mem_cons_self), ih fun x hx => h x (List.mem_cons_of_mem _ hx)]
    simp
/-- PATHS THAT RISE. -/
def Up (l : List (List Value)) : Prop := l.Pairwise ltR
theorem insR_up (f : List Value) : ∀ {l : List (List Value)}, Up l → (∀ x ∈ l, pth x ≠ pth f) → Up (insR f l)
  | [], _, _ => List.pairwise_singleton _ _
  | x :: l, h, hn => by
    unfold Up at h
    rw [List.pairwise_cons] at h
    unfold insR
    split
    · rename_i e
      refine List.pairwise_cons.2 ⟨fun y hy => ?_, List.pairwise_cons.2 h⟩
      rcases List.mem_cons.1 hy with rfl | hy
      · exact e
      · exact lt_tr e (h.1 y hy)
    · rename_i e
      refine List.pairwise_cons.2 ⟨fun y hy => ?_, insR_up f h.2 fun z hz => hn z (List.mem_cons_of_mem _ hz)⟩
      rcases List.mem_cons.1 ((insR_perm f l).mem_iff.1 hy) with rfl | hy
      · exact lt_tri e fun q => hn x List.mem_cons_self q.symm
      · exact h.1 y hy
theorem up_uniq : ∀ {a b : List (List Value)}, Up a → Up b → a.Perm b → a = b
  | [], b, _, _, p => (List.nil_perm.1 p).symm
  | x :: a, [], _, _, p => absurd (List.perm_nil.1 p) (by simp)
  | x :: a, y :: b, ha, hb, p => by
    have ha' := List.pairwise_cons.1 ha
    have hb' := List.pairwise_cons.1 hb
    have e : x = y := by
      rcases List.mem_cons.1 (p.mem_iff.1 (List.mem_cons_self (a := x))) with e | hx
      · exact e
      · rcases List.mem_cons.1 (p.mem_iff.2 (List.mem_cons_self (a := y))) with e | hy
        · exact e.symm
        · exact absurd (lt_tr (ha'.1 y hy) (hb'.1 x hx)) (lt_irr _)
    subst e
    rw [up_uniq ha'.2 hb'.2 (List.Perm.cons_inv p)]
theorem up_nodup {l : List (List Value)} (h : Up l) : (l.map pth).Nodup := by
  unfold List.Nodup
  rw [List.pairwise_map]
  exact h.imp fun {a b} q e => by unfold ltR at q; rw [e] at q; exact lt_irr _ q
/-- WHAT THE TREE OF FILES IS: which error, and which files. -/
inductive Mn (L : List (List Value)) : Int → List (List Value) → Prop
  | path : (∃ r ∈ L, chk (pth r) ≠ 0) → Mn L 170 []
  | twice : (∀ r ∈ L, chk (pth r) = 0) → ¬ (L.map pth).Nodup → Mn L 171 []
  | good (M : List (List Value)) : (∀ r ∈ L, chk (pth r) = 0) → M.Perm L → Up M → Mn L 0 M
theorem Mn.uniq {L : List (List Value)} {e e' : Int} {M M' : List (List Value)} (h : Mn L e M) (k : Mn L e' M') : e = e' ∧ M = M' := by
  cases h with
  | path h =>
    obtain ⟨r, hr, hc⟩ := h
    cases k with
    | path => exact ⟨rfl, rfl⟩
    | twice k _ => exact absurd (k r hr) hc
    | good _ k _ _ => exact absurd (k r hr) hc
  | twice h hn =>
    cases k with
    | path k => obtain ⟨r, hr, hc⟩ := k; exact absurd (h r hr) hc
    | twice => exact ⟨rfl, rfl⟩
    | good _ _ p u => exact absurd (((p.map pth).nodup_iff).1 (up_nodup u)) hn
  | good _ h p u =>
    cases k with
    | path k => obtain ⟨r, hr, hc⟩ := k; exact absurd (h r hr) hc
    | twice _ hn => exact absurd (((p.map pth).nodup_iff).1 (up_nodup u)) hn
    | good _ _ p' u' => exact ⟨rfl, up_uniq u u' (p.trans p'.symm)⟩
theorem chk_two (s : ByteArray) : chk s = 0 ∨ chk s = 170 := by
  unfold chk
  split
  · exact .inl rfl
  · exact .inr rfl
theorem Mn.len {L M : List (List Value)} {e : Int} (h : Mn L e M) : M.length ≤ L.length := by
  cases h with
  | path => exact Nat.zero_le _
  | twice => exact Nat.zero_le _
  | good _ _ p _ => rw [p.length_eq]; exact Nat.le_refl _
theorem Mn.ok {L M : List (List Value)} {e : Int} (h : Mn L e M) {P : List Value → Prop} (hp : ∀ r ∈ L, P r) : ∀ r ∈ M, P r := by
  cases h with
  | path => intro r hr; cases hr
  | twice => intro r hr; cases hr
  | good _ _ p _ => exact fun r hr => hp r (p.mem_iff.1 hr)
/-- PACKAGES, AS THEY READ. -/
structure Pk where
  nm : Nm
  vr : Nm
  fs : List (List Value)
structure PkC (cs : List Value) (p : Pk) (x : Value) : Prop where
  len : cs.length = 43
  one : ∀ u ∈ cs, u.oneCell' = true
  c0 : cs[0]? = some (.string p.nm)
  c1 : cs[1]? = some (.string p.vr)
  c7 : cs[7]? = some x
def Pks (w : World) (v : Value) (ps : List Pk) : Prop := ∃ a c, v = .slice a ps.length c ∧ (0 < ps.length → ∃ b o, a = some ⟨b, o, none⟩ ∧ b < w.heap.size ∧ ∀ (i : Nat) (p : Pk), ps[i]? = some p → ∃ cs x, w.rangeAt b (o + i * 43) cs ∧ PkC cs p x ∧ Rws 40 34 w x p.fs)
theorem Pks.form {w : World} {v : Value} {ps : List Pk} (h : Pks w v ps) : ∃ a c, v = .slice a ps.length c := let ⟨a, c, e, _⟩ := h; ⟨a, c, e⟩
theorem Pks.later {w w' : World} {v : Value} {ps : List Pk} (h : Pks w v ps) (hb : Below w.heap.size w w') : Pks w' v ps := by
  obtain ⟨a, c, h1, h2⟩ := h
  refine ⟨a, c, h1, fun h0 => ?_⟩
  obtain ⟨b, o, h3, h4, h5⟩ := h2 h0
  refine ⟨b, o, h3, Nat.lt_of_lt_of_le h4 hb.size, fun i p hp => ?_⟩
  obtain ⟨cs, x, k1, k2, k3⟩ := h5 i p hp
  exact ⟨cs, x, rangeAt_later k1 h4 hb, k2, k3.later hb⟩
theorem Pks.at {w : World} {a : Option Addr} {n c : Nat} {ps : List Pk} (h : Pks w (.slice a n c) ps) {i : Nat} (hi : i < ps.length) : ∃ b o cs xa xc, a = some ⟨b, o, none⟩ ∧ b < w.heap.size ∧ w.rangeAt b (o + i * 43) cs ∧ PkC cs ps[i] (.slice xa (ps[i]).fs.length xc) ∧ Rws 40 34 w (.slice xa (ps[i]).fs.length xc) (ps[i]).fs := by
  obtain ⟨a2, c2, e, hr⟩ := h
  cases e
  obtain ⟨b, o, ea, hl, hc⟩ := hr (by omega)
  obtain ⟨cs, x, k1, k2, k3⟩ := hc i _ (List.getElem?_eq_getElem hi)
  obtain ⟨xa, xc, rfl⟩ := k3.form
  exact ⟨b, o, cs, xa, xc, ea, hl, k1, k2, k3⟩
/-- ALL THEIR FILES. -/
def allF (ps : List Pk) : List (List Value) := ps.flatMap (·.fs)
theorem allF_snoc {ps : List Pk} {i : Nat} (hi : i < ps.length) : allF (ps.take (i + 1)) = allF (ps.take i) ++ (ps[i]).fs := by
  unfold allF
  rw [List.take_add_one, List.getElem?_eq_getElem hi, List.flatMap_append]
  simp
theorem infoK : (Tryd.prog.info? 49).map (·.size) = some 43 := by kernel_rfl
end Go.Proofs.YtkpkpebljkcmkaaDoor
