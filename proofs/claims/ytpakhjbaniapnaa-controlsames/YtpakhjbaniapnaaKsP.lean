import Derived.Test.YtpakhjbaniapnaaProg
import Derived.Below
import Derived.WalkKit
import Derived.Deep.RegionWith
import Derived.Deep.RegionHeld3
import Derived.Sort.BigQuietIn
import Derived.Handy
import Derived.OwnWalk
namespace Go.Proofs.Ytpakhjbaniapnaa
open Go.RowKit

theorem hide {p : Prop} (h : p) : Hid p := h
theorem unhide {p : Prop} (h : Hid p) : p := h.out
theorem bl_t {w w1 w2 : World} (h : Below w.heap.size w w1) (h2 : Below w1.heap.size w1 w2) : Below w.heap.size w w2 := h.trans (h2.mono h.size)
theorem bl_drewN (w : World) (n : Nat) : Below w.heap.size w (w.drewN n) := (Below.refl _ w).trans ⟨rfl, rfl, rfl, Nat.le_refl _, fun _ _ => rfl⟩
theorem ret_bool {a b : Bool} (h : a = b) : Ending.returned (.bool a) = .returned (.bool b) := by rw [h]

structure Am where
  n : ByteArray
  op : Int
  v : ByteArray
def amCells (a : Am) : List Value := [.string a.n, .int .i64 a.op, .string a.v]
/-- A SLICE OF THESE ATOMS. -/
def Ams (w : World) (v : Value) (al : List Am) : Prop :=
  ∃ a c, v = .slice a al.length c ∧ al.length ≤ 9223372036854775807 ∧ ∀ i (h : i < al.length), ∃ b o, a = some ⟨b, o, none⟩ ∧ b < w.heap.size ∧ w.cell? ⟨b, o + i * 3, none⟩ = some (.string al[i].n) ∧ w.cell? ⟨b, o + i * 3 + 1, none⟩ = some (.int .i64 al[i].op) ∧ w.cell? ⟨b, o + i * 3 + 2, none⟩ = some (.string al[i].v)
theorem Ams.later {w w' : World} {v : Value} {al : List Am} (h : Ams w v al) (hb : Below w.heap.size w w') : Ams w' v al := by
  obtain ⟨a, c, h1, h2, h3⟩ := h
  refine ⟨a, c, h1, h2, fun i hi => ?_⟩
  obtain ⟨b, o, e1, e2, e3, e4, e5⟩ := h3 i hi
  exact ⟨b, o, e1, Nat.lt_of_lt_of_le e2 hb.size, (hb.cell (p := ⟨b, _, none⟩) e2).trans e3, (hb.cell (p := ⟨b, _, none⟩) e2).trans e4, (hb.cell (p := ⟨b, _, none⟩) e2).trans e5⟩
theorem Ams.shape {w : World} {v : Value} {al : List Am} (h : Ams w v al) : ∃ a c, v = .slice a al.length c := by
  obtain ⟨a, c, e, _⟩ := h
  exact ⟨a, c, e⟩
theorem Ams.bigL {w : World} {v : Value} {al : List Am} (h : Ams w v al) : al.length ≤ 9223372036854775807 := by
  obtain ⟨a, c, e, h2, _⟩ := h
  exact h2
theorem Ams.elem {w : World} {va : Option Addr} {n vc : Nat} {al : List Am} (h : Ams w (.slice va n vc) al) (k : Nat) (hk : k < al.length) : ∃ b o, va = some ⟨b, o, none⟩ ∧ b < w.heap.size ∧ w.cell? ⟨b, o + k * 3, none⟩ = some (.string al[k].n) ∧ w.cell? ⟨b, o + k * 3 + 1, none⟩ = some (.int .i64 al[k].op) ∧ w.cell? ⟨b, o + k * 3 + 2, none⟩ = some (.string al[k].v) := by
  obtain ⟨a, c, e, _, h3⟩ := h
  cases e
  exact h3 k hk
/-- A SLICE OF THESE TEXTS. -/
def Sts (w : World) (v : Value) (nl : List ByteArray) : Prop :=
  ∃ a c, v = .slice a nl.length c ∧ nl.length ≤ 9223372036854775807 ∧ ∀ i (h : i < nl.length), ∃ b o, a = some ⟨b, o, none⟩ ∧ b < w.heap.size ∧ w.cell? ⟨b, o + i, none⟩ = some (.string nl[i])
theorem Sts.later {w w' : World} {v : Value} {nl : List ByteArray} (h : Sts w v nl) (hb : Below w.heap.size w w') : Sts w' v nl := by
  obtain ⟨a, c, h1, h2, h3⟩ := h
  refine ⟨a, c, h1, h2, fun i hi => ?_⟩
  obtain ⟨b, o, e1, e2, e3⟩ := h3 i hi
  exact ⟨b, o, e1, Nat.lt_of_lt_of_le e2 hb.size, (hb.cell (p := ⟨b, _, none⟩) e2).trans e3⟩
theorem Sts.shape {w : World} {v : Value} {nl : List ByteArray} (h : Sts w v nl) : ∃ a c, v = .slice a nl.length c := by
  obtain ⟨a, c, e, _⟩ := h
  exact ⟨a, c, e⟩
theorem Sts.bigL {w : World} {v : Value} {nl : List ByteArray} (h : Sts w v nl) : nl.length ≤ 9223372036854775807 := by
  obtain ⟨a, c, e, h2, _⟩ := h
  exact h2
theorem Sts.elem {w : World} {va : Option Addr} {n vc : Nat} {nl : List ByteArray} (h : Sts w (.slice va n vc) nl) (k : Nat) (hk : k < nl.length) : ∃ b o, va = some ⟨b, o, none⟩ ∧ b < w.heap.size ∧ w.cell? ⟨b, o + k, none⟩ = some (.string nl[k]) := by
  obtain ⟨a, c, e, _, h3⟩ := h
  cases e
  exact h3 k hk
/-- A SLICE OF THESE CLAUSES. -/
def Cls (w : World) (v : Value) (cl : List (List Am)) : Prop :=
  ∃ a c, v = .slice a cl.length c ∧ cl.length ≤ 9223372036854775807 ∧ ∀ i (h : i < cl.length), ∃ b o x, a = some ⟨b, o, none⟩ ∧ b < w.heap.size ∧ w.cell? ⟨b, o + i, none⟩ = some x ∧ Ams w x cl[i]
theorem Cls.later {w w' : World} {v : Value} {cl : List (List Am)} (h : Cls w v cl) (hb : Below w.heap.size w w') : Cls w' v cl := by
  obtain ⟨a, c, h1, h2, h3⟩ := h
  refine ⟨a, c, h1, h2, fun i hi => ?_⟩
  obtain ⟨b, o, x, e1, e2, e3, e4⟩ := h3 i hi
  exact ⟨b, o, x, e1, Nat.lt_of_lt_of_le e2 hb.size, (hb.cell (p := ⟨b, _, none⟩) e2).trans e3, e4.later hb⟩
theorem Cls.shape {w : World} {v : Value} {cl : List (List Am)} (h : Cls w v cl) : ∃ a c, v = .slice a cl.length c := by
  obtain ⟨a, c, e, _⟩ := h
  exact ⟨a, c, e⟩
theorem Cls.bigL {w : World} {v : Value} {cl : List (List Am)} (h : Cls w v cl) : cl.length ≤ 9223372036854775807 := by
  obtain ⟨a, c, e, h2, _⟩ := h
  exact h2
theorem Cls.elem {w : World} {va : Option Addr} {n vc : Nat} {al : List (List Am)} (h : Cls w (.slice va n vc) al) (k : Nat) (hk : k < al.length) : ∃ b o x, va = some ⟨b, o, none⟩ ∧ b < w.heap.size ∧ w.cell? ⟨b, o + k, none⟩ = some x ∧ Ams w x al[k] := by
  obtain ⟨a, c, e, _, h3⟩ := h
  cases e
  exact h3 k hk

/-! ### Are two lists the same? -/
def eqL {α : Type} (e : α → α → Bool) : List α → List α → Bool
  | [], [] => true
  | a :: l, b :: m => e a b && eqL e l m
  | _, _ => false
theorem eqL_len {α : Type} (e : α → α → Bool) : ∀ (l m : List α), l.length ≠ m.length → eqL e l m = false
  | [], [], h => absurd rfl h
  | [], b :: m, _ => rfl
  | a :: l, [], _ => rfl
  | a :: l, b :: m, h => by
    show (e a b && eqL e l m) = false
    rw [eqL_len e l m (by simpa using h), Bool.and_false]
theorem eqL_bad {α : Type} (e : α → α → Bool) : ∀ (l m : List α) (k : Nat) (h1 : k < l.length) (h2 : k < m.length), e l[k] m[k] = false → eqL e l m = false
  | [], _, k, h1, _, _ => absurd h1 (Nat.not_lt_zero _)
  | _ :: _, [], k, _, h2, _ => absurd h2 (Nat.not_lt_zero _)
  | a :: l, b :: m, 0, _, _, h => by
    have h' : e a b = false := h
    show (e a b && eqL e l m) = false
    rw [h', Bool.false_and]
  | a :: l, b :: m, k + 1, h1, h2, h => by
    show (e a b && eqL e l m) = false
    rw [eqL_bad e l m k (Nat.lt_of_succ_lt_succ h1) (Nat.lt_of_succ_lt_succ h2) h, Bool.and_false]
theorem eqL_good {α : Type} (e : α → α → Bool) : ∀ (l m : List α), l.length = m.length → (∀ k (h1 : k < l.length) (h2 : k < m.length), e l[k] m[k] = true) → eqL e l m = true
  | [], [], _, _ => rfl
  | [], _ :: _, h, _ => by cases h
  | _ :: _, [], h, _ => by cases h
  | a :: l, b :: m, h, hh => by
    have h0 : e a b = true := hh 0 (Nat.succ_pos _) (Nat.succ_pos _)
    show (e a b && eqL e l m) = true
    rw [h0, Bool.true_and]
    exact eqL_good e l m (by simpa using h) (fun k h1 h2 => hh (k + 1) (Nat.succ_lt_succ h1) (Nat.succ_lt_succ h2))
def eqS (a b : ByteArray) : Bool := a.toList == b.toList
def eqA (a b : Am) : Bool := (a.n.toList == b.n.toList && a.op == b.op) && a.v.toList == b.v.toList
theorem upto_two {α : Type} {e : α → α → Bool} {l m : List α} {k : Nat} (h : ∀ j (h1 : j < l.length) (h2 : j < m.length), j < k → e l[j] m[j] = true) (hk1 : k < l.length) (hk2 : k < m.length) (h0 : e l[k] m[k] = true) : ∀ j (h1 : j < l.length) (h2 : j < m.length), j < k + 1 → e l[j] m[j] = true := fun j h1 h2 hj => by
  by_cases e' : j < k
  · exact h j h1 h2 e'
  · obtain rfl : j = k := by omega
    exact h0

end Go.Proofs.Ytpakhjbaniapnaa
