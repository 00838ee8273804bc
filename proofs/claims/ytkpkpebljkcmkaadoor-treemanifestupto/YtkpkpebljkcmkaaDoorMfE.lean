import Derived.Test.YtkpkpebljkcmkaaDoorMfD
import Derived.Test.YtkpkpebljkcmkaaDoorShF
import Derived.Test.YtkpkpebljkcmkaaDoorShelfT
import Derived.Shelf.Small.Strs
import Derived.Shelf.SlSortCmp.NoneTotal
namespace Go.Proofs.YtkpkpebljkcmkaaDoor
open Go.RowKit Go.Sort Go.Shelf

section
variable {ops : Array Oper} {rest : List Oper} {o : Oper} {a : Act} {w : World} {Q : Exit → Act → World → Prop}
theorem b_box2 {t : Nat} (cs : List Value) (x : Operand) (ho : o.op = .box t x) (hw : Region.wanted o (yielded ops a.tmps) = true) (hx : a.eval x = .agg cs.toArray)
    (h : wpList Tryd.prog ops Q rest (a.put o.dst (.pointer (some ⟨w.heap.size, 0, none⟩))) (w.alloc (.cells cs.toArray t))) : wpList Tryd.prog ops Q (o :: rest) a w := by
  refine BigFrame.wpList_want hw fun K hK => ?_
  unfold Oper.wp execOp
  simp only [ho, Sem.run_bind, Instr.box, hx, newVar, newRow, run_newObj_alloc, Sem.run_pure, Result.andThen_ok]
  exact hK _ _ h
end
def cmB (a b : Nm) : Int := Lib.compareBytes a.data.toList b.data.toList
theorem cb_neg : ∀ a b : List UInt8, Lib.compareBytes a b < 0 ↔ a < b
  | [], [] => by simp [Lib.compareBytes]
  | [], _ :: _ => by simp [Lib.compareBytes]
  | _ :: _, [] => by simp [Lib.compareBytes]
  | x :: a, y :: b => by
    rw [Lib.compareBytes, List.cons_lt_cons_iff]
    by_cases h : x < y
    · rw [if_pos h]; simp [h]
    · rw [if_neg h]
      by_cases h2 : y < x
      · rw [if_pos h2]
        have : x ≠ y := fun e => by rw [e] at h2; exact h (by rw [e]; exact h2)
        simp [h, this]
      · rw [if_neg h2, cb_neg a b]
        have e : x = y := by
          have h3 : ¬ x.toNat < y.toNat := h
          have h4 : ¬ y.toNat < x.toNat := h2
          exact UInt8.toNat.inj (by omega)
        simp [e]
theorem cb_zero : ∀ a b : List UInt8, Lib.compareBytes a b = 0 ↔ a = b
  | [], [] => by simp [Lib.compareBytes]
  | [], _ :: _ => by simp [Lib.compareBytes]
  | _ :: _, [] => by simp [Lib.compareBytes]
  | x :: a, y :: b => by
    rw [Lib.compareBytes]
    by_cases h : x < y
    · rw [if_pos h]
      have : x ≠ y := fun e => by rw [e] at h; exact absurd h (by show ¬ y.toNat < y.toNat; omega)
      simp [this]
    · rw [if_neg h]
      by_cases h2 : y < x
      · rw [if_pos h2]
        have : x ≠ y := fun e => by rw [e] at h2; exact absurd h2 (by show ¬ y.toNat < y.toNat; omega)
        simp [this]
      · rw [if_neg h2, cb_zero a b]
        have e : x = y := by
          have h3 : ¬ x.toNat < y.toNat := h
          have h4 : ¬ y.toNat < x.toNat := h2
          exact UInt8.toNat.inj (by omega)
        simp [e]
theorem cmB_neg {a b : Nm} : cmB a b < 0 ↔ lt a b := cb_neg _ _
theorem cmB_zero {a b : Nm} : cmB a b = 0 ↔ a = b := (cb_zero _ _).trans ⟨nm_inj, fun e => by rw [e]⟩
abbrev RowT := {r : List Value // isT 40 34 r}
theorem swoR : SWO (ltOf fun x y : RowT => cmB (pth x.1) (pth y.1)) where
  irrefl x := by
    unfold ltOf
    exact decide_eq_false fun q => lt_irr _ (cmB_neg.1 q)
  trans x y z h1 h2 := by
    unfold ltOf at *
    exact decide_eq_true (cmB_neg.2 (lt_tr (cmB_neg.1 (of_decide_eq_true h1)) (cmB_neg.1 (of_decide_eq_true h2))))
  ntrans x y z h1 h2 := by
    unfold ltOf at *
    refine decide_eq_false fun q => ?_
    have a1 := fun p => of_decide_eq_false h1 (cmB_neg.2 p)
    have a2 := fun p => of_decide_eq_false h2 (cmB_neg.2 p)
    have a3 := cmB_neg.1 q
    by_cases e : pth x.1 = pth y.1
    · exact a2 (by rw [← e]; exact a3)
    · exact a2 (lt_tr (lt_tri a1 e) a3)
set_option maxRecDepth 100000 in
theorem byPath_any {x y : List Value} (hx : isT 40 34 x) (hy : isT 40 34 y) (w : World) :
    Calls Tryd.prog 30 #[.agg x.toArray, .agg y.toArray] w fun e w' => e = .returned (.int .i64 (cmB (pth x) (pth y))) ∧ ∃ q os', w' = grow (w.drewN q) os' := by
  obtain ⟨s, hs0, hsp, _⟩ := hx.path2
  obtain ⟨t, ht0, htp, _⟩ := hy.path2
  rw [hsp, htp]
  have HE := hide (show ∃ q os', (w.alloc (.cells x.toArray 40)).alloc (.cells y.toArray 40) = grow (w.drewN q) os' from by
    refine ⟨0, #[.cells x.toArray 40, .cells y.toArray 40], ?_⟩
    rw [alloc_eq_grow, alloc_eq_grow, grow_grow]
    rfl)
  have c0 : ((w.alloc (.cells x.toArray 40)).alloc (.cells y.toArray 40)).cell? ⟨w.heap.size, 0, none⟩ = some (.string s) := by
    have h1 : (w.alloc (.cells x.toArray 40)).cell? ⟨w.heap.size, 0, none⟩ = some (.string s) := by rw [World.cell?_alloc_new]; simpa using hs0
    exact cell_later h1 ((Below.refl _ _).alloc (Nat.le_refl _) _)
  have c1 : ((w.alloc (.cells x.toArray 40)).alloc (.cells y.toArray 40)).cell? ⟨w.heap.size + 1, 0, none⟩ = some (.string t) := by
    have e : w.heap.size + 1 = (w.alloc (.cells x.toArray 40)).heap.size := by simp
    rw [e, World.cell?_alloc_new]; simpa using ht0
  have HC := hide (Any.strings_Compare Tryd.lays106 s t ((w.alloc (.cells x.toArray 40)).alloc (.cells y.toArray 40)))
  clear hx hy hs0 ht0
  go_enter Tryd.func30, Tryd.ntmps30
  go_wp2_with (first
    | (with_reducible refine b_box2 x _ rfl rfl rfl ?_)
    | (with_reducible refine b_box2 y _ rfl rfl rfl ?_)
    | (go_at_call 37; refine (unhide HC).mono ?_; rintro e w1 ⟨rfl, rfl⟩))
  go_ret
  exact ⟨rfl, unhide HE⟩
end Go.Proofs.YtkpkpebljkcmkaaDoor
