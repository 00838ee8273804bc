import Derived.Test.YtokgegbodbnimaaSvA
import Derived.Maps.OwnSet
import Derived.Maps.OwnOps
import Derived.Lib.SliceRun
namespace Go.Proofs.Ytokgegbodbnimaa
open Go.RowKit Go.Maps

abbrev Nm := ByteArray
/-- A SLICE'S HEADER. -/
structure Hd where
  a : Option Addr
  n : Nat
  c : Nat
def hv (h : Hd) : Value := .slice h.a h.n h.c
def hv0 : Option Hd → Value
  | none => .slice none 0 0
  | some h => hv h
def ln0 : Option Hd → Nat
  | none => 0
  | some h => h.n
def kl (x : Nm) : Lit := .string x.data.toList
theorem kl_inj {x y : Nm} (h : kl x = kl y) : x = y := by
  unfold kl at h
  injection h with h
  have : x.data = y.data := by simpa using h
  cases x; cases y; simp_all
def raw (v : Value) : Option (DataW Value × List MemPlace) := some (.held v, [])
theorem law9 : Keyed Try.prog 9 := string_keyed Try.underlying9
theorem zero22 (w : World) : (zeroValue 22).run Try.prog w = .ok (.slice none 0 0) w := by kernel_rfl
def up {α : Type} (H : Nm → Option α) (x : Nm) (v : Option α) : Nm → Option α := fun y => if y = x then v else H y
theorem up_same {α : Type} (H : Nm → Option α) (x : Nm) (v : Option α) : up H x v x = v := if_pos rfl
theorem up_other {α : Type} (H : Nm → Option α) {x y : Nm} (v : Option α) (h : y ≠ x) : up H x v y = H y := if_neg h
/-- WHAT A MAP'S DATUM SAYS. -/
structure Rep (D : DataW Value) (H : Nm → Option Hd) : Prop where
  has : ∀ x : Nm, x.size ≤ maxLen → Maps.has D (kl x) = (H x).isSome
  at_ : ∀ x : Nm, x.size ≤ maxLen → ∀ z, D.atKey (kl x) z = match H x with | some h => .held (hv h) | none => z
  lim : ∀ x, H x ≠ none → x.size ≤ 258
theorem Rep.start : Rep (.map []) (fun _ => none) := ⟨fun _ _ => rfl, fun _ _ _ => rfl, fun _ h => absurd rfl h⟩
theorem Rep.put {D : DataW Value} {H : Nm → Option Hd} (r : Rep D H) (hD : IsMap D) {x : Nm} (hx : x.size ≤ 258) (h : Hd) : Rep (D.put (kl x) (.held (hv h))) (up H x (some h)) := by
  refine ⟨fun y hy => ?_, fun y hy z => ?_, fun y hy => ?_⟩
  · by_cases e : y = x
    · subst e
      rw [has_put_same hD (show WideAt.IsKeyLit (kl y) from trivial), up_same]
      rfl
    · rw [has_put_other (fun q => e (kl_inj q)), up_other _ _ e, r.has y hy]
  · by_cases e : y = x
    · subst e
      rw [atKey_put_same hD (show WideAt.IsKeyLit (kl y) from trivial), up_same]
    · rw [atKey_put_other (fun q => e (kl_inj q)), up_other _ _ e, r.at_ y hy]
  · by_cases e : y = x
    · subst e; exact hx
    · rw [up_other _ _ e] at hy; exact r.lim y hy
theorem Rep.del {D : DataW Value} {H : Nm → Option Hd} (r : Rep D H) (x : Nm) : Rep (D.del (kl x)) (up H x none) := by
  refine ⟨fun y hy => ?_, fun y hy z => ?_, fun y hy => ?_⟩
  · by_cases e : y = x
    · subst e
      rw [has_del_same, up_same]
      rfl
    · rw [has_del_other (fun q => e (kl_inj q)), up_other _ _ e, r.has y hy]
  · by_cases e : y = x
    · subst e
      rw [atKey_del_same, up_same]
    · rw [atKey_del_other (fun q => e (kl_inj q)), up_other _ _ e, r.at_ y hy]
  · by_cases e : y = x
    · subst e; rw [up_same] at hy; exact absurd rfl hy
    · rw [up_other _ _ e] at hy; exact r.lim y hy
/-- A DIRECTORY'S MAP AS IT LIES, OF AT MOST k NAMES. -/
def Dm (W : World) (d : Value) (H : Nm → Option Hd) (k : Nat) : Prop :=
  (d = .map none ∧ ∀ x, H x = none) ∨ ∃ b D, d = .map (some b) ∧ W.ownsMap Try.prog 9 raw b k D ∧ Rep D H
def mb : Value → Option Nat
  | .map b => b
  | _ => none
theorem Dm.lim {W : World} {d : Value} {H : Nm → Option Hd} {k : Nat} (h : Dm W d H k) : ∀ x, H x ≠ none → x.size ≤ 258 := fun x hx => by
  rcases h with ⟨_, h⟩ | ⟨b, D, _, _, r⟩
  · exact absurd (h x) hx
  · exact r.lim x hx
theorem Dm.lt {W : World} {d : Value} {H : Nm → Option Hd} {k : Nat} (h : Dm W d H k) {b : Nat} (e : mb d = some b) : b < W.heap.size := by
  rcases h with ⟨rfl, _⟩ | ⟨b2, D, rfl, ho, r⟩
  · cases e
  · cases e; exact ho.lt
theorem Dm.mono {W : World} {d : Value} {H : Nm → Option Hd} {k k2 : Nat} (h : Dm W d H k) (hk : k ≤ k2) : Dm W d H k2 := by
  rcases h with h | ⟨b, D, e, ho, r⟩
  · exact .inl h
  · exact .inr ⟨b, D, e, ho.mono hk, r⟩
theorem Dm.same {W W2 : World} {d : Value} {H : Nm → Option Hd} {k : Nat} (h : Dm W d H k) (hb : ∀ b, mb d = some b → W2.heap[b]? = W.heap[b]?) : Dm W2 d H k := by
  rcases h with h | ⟨b, D, rfl, ho, r⟩
  · exact .inl h
  · obtain ⟨es, clock, h1, h2⟩ := ho
    exact .inr ⟨b, D, rfl, ⟨es, clock, (hb b rfl).trans h1, h2⟩, r⟩
theorem Dm.later {W W2 : World} {d : Value} {H : Nm → Option Hd} {k : Nat} (h : Dm W d H k) (hb : Below W.heap.size W W2) : Dm W2 d H k := h.same fun b e => hb.block b (h.lt e)
theorem Dm.form {W : World} {d : Value} {H : Nm → Option Hd} {k : Nat} (h : Dm W d H k) : ∃ o, d = .map o := by
  rcases h with ⟨rfl, _⟩ | ⟨b, D, rfl, _⟩
  · exact ⟨_, rfl⟩
  · exact ⟨_, rfl⟩
theorem key9 {x : Nm} (hx : x.size ≤ maxLen) : keyOf Try.prog 9 (.string x) = some (kl x) := WideMaps.keyOf_string_mk Try.underlying9 hx
theorem raw_inv {v : Value} {d : DataW Value} {ps : List MemPlace} (h : raw v = some (d, ps)) : d = .held v := by
  unfold raw at h
  injection h with h
  injection h with h _
  exact h.symm
theorem look2 {W : World} {d : Value} {H : Nm → Option Hd} {k : Nat} (h : Dm W d H k) {x : Nm} (hx : x.size ≤ maxLen) : (Instr.lookup 70 d (.string x) true).run Try.prog W = .ok (.tuple #[hv0 (H x), .bool (H x).isSome]) W := by
  rcases h with ⟨rfl, h⟩ | ⟨b, D, rfl, ho, r⟩
  · rw [h x]
    exact Maps.look_nil true law9 Try.underlying70 (zero22 W) (key9 hx)
  · obtain ⟨v, ps, hr, hv2⟩ := ho.look_ok law9 Try.underlying70 (zero22 W) (zd := .held (.slice none 0 0)) (zp := []) rfl (key9 hx)
    rw [hr, r.has x hx]
    have e := raw_inv hv2
    rw [r.at_ x hx] at e
    cases hH : H x with
    | none =>
      simp only [hH] at e
      cases e
      rfl
    | some h =>
      simp only [hH] at e
      cases e
      rfl
theorem look1 {W : World} {d : Value} {H : Nm → Option Hd} {k : Nat} (h : Dm W d H k) {x : Nm} (hx : x.size ≤ maxLen) : (Instr.lookup 70 d (.string x) false).run Try.prog W = .ok (hv0 (H x)) W := by
  rcases h with ⟨rfl, h⟩ | ⟨b, D, rfl, ho, r⟩
  · rw [h x]
    exact Maps.look_nil false law9 Try.underlying70 (zero22 W) (key9 hx)
  · obtain ⟨v, ps, hr, hv2⟩ := ho.lookup law9 Try.underlying70 (zero22 W) (zd := .held (.slice none 0 0)) (zp := []) rfl (key9 hx)
    rw [hr]
    have e := raw_inv hv2
    rw [r.at_ x hx] at e
    cases hH : H x with
    | none =>
      simp only [hH] at e
      cases e
      rfl
    | some h =>
      simp only [hH] at e
      cases e
      rfl
/-- NOTHING BUT BLOCKS OF P HAS CHANGED. -/
structure Fx (P : Nat → Prop) (W W2 : World) : Prop where
  bel : Below 0 W W2
  blk : ∀ b, b < W.heap.size → ¬ P b → W2.heap[b]? = W.heap[b]?
theorem Fx.of {P : Nat → Prop} {W W2 : World} (h : Below W.heap.size W W2) : Fx P W W2 := ⟨h.mono (Nat.zero_le _), fun b hb _ => h.block b hb⟩
theorem Fx.size {P : Nat → Prop} {W W2 : World} (h : Fx P W W2) : W.heap.size ≤ W2.heap.size := h.bel.size
theorem Fx.trans {P : Nat → Prop} {A B C : World} (h : Fx P A B) (k : Fx P B C) : Fx P A C := ⟨h.bel.trans k.bel, fun b hb hp => (k.blk b (Nat.lt_of_lt_of_le hb h.size) hp).trans (h.blk b hb hp)⟩
theorem Fx.next {P Q : Nat → Prop} {A B C : World} (h : Fx P A B) (k : Fx Q B C) (q : ∀ b, b < A.heap.size → Q b → P b) : Fx P A C := ⟨h.bel.trans k.bel, fun b hb hp => (k.blk b (Nat.lt_of_lt_of_le hb h.size) (fun z => hp (q b hb z))).trans (h.blk b hb hp)⟩
theorem Fx.refl (P : Nat → Prop) (W : World) : Fx P W W := Fx.of (Below.refl _ _)
theorem Fx.mono {P Q : Nat → Prop} {W W2 : World} (h : Fx P W W2) (hp : ∀ b, b < W.heap.size → P b → Q b) : Fx Q W W2 := ⟨h.bel, fun b hb hn => h.blk b hb fun q => hn (hp b hb q)⟩
theorem blk_lt {W : World} {g : Nat} {o : Obj} (h : W.heap[g]? = some o) : g < W.heap.size := (Array.getElem?_eq_some_iff.1 h).1
theorem set_blk {W : World} {g : Nat} {cur : Array Value} {t : TypeId} (h : W.heap[g]? = some (.cells cur t (0, 0))) (j : Nat) (u : Value) : (W.setCell ⟨g, j, none⟩ u).heap[g]? = some (.cells (cur.setIfInBounds j u) t (0, 0)) := by
  obtain ⟨hlt, hk⟩ := Array.getElem?_eq_some_iff.1 h
  show (W.heap.modify g _)[g]? = _
  rw [Array.getElem?_eq_getElem (by rw [Array.size_modify]; exact hlt), Array.getElem_modify_self, hk]
  rfl
theorem set_other (W : World) (g j : Nat) (u : Value) (k : Nat) (hk : k ≠ g) : (W.setCell ⟨g, j, none⟩ u).heap[k]? = W.heap[k]? := Below.heap_setCell W ⟨g, j, none⟩ u k hk
theorem set_size (W : World) (g j : Nat) (u : Value) : (W.setCell ⟨g, j, none⟩ u).heap.size = W.heap.size := by
  show (W.heap.modify g _).size = _
  rw [Array.size_modify]
theorem cell_blk {W : World} {g : Nat} {cur : Array Value} {t : TypeId} (h : W.heap[g]? = some (.cells cur t (0, 0))) (i : Nat) : W.cell? ⟨g, i, none⟩ = cur[i]? ∧ W.frozen? ⟨g, i, none⟩ = false := by
  refine ⟨?_, by simp [World.frozen?, h]⟩
  simp [World.cell?, h]
theorem Fx.set {P : Nat → Prop} {W W2 : World} (h : Fx P W W2) {g : Nat} (hp : P g) (j : Nat) (u : Value) : Fx P W (W2.setCell ⟨g, j, none⟩ u) :=
  ⟨h.bel.setCell (p := ⟨g, j, none⟩) (Nat.zero_le _) u, fun b hb hn => (set_other _ _ _ _ _ (fun e => hn (by rw [e]; exact hp))).trans (h.blk b hb hn)⟩
theorem Dm.fx {P : Nat → Prop} {W W2 : World} {d : Value} {H : Nm → Option Hd} {k : Nat} (h : Dm W d H k) (f : Fx P W W2) (hp : ∀ b, mb d = some b → ¬ P b) : Dm W2 d H k := h.same fun b e => f.blk b (h.lt e) (hp b e)
/-- A NAME COMES IN, AND GOES. -/
theorem put_map {W : World} {b k : Nat} {H : Nm → Option Hd} (h : Dm W (.map (some b)) H k) (hk : k < maxLen) {x : Nm} (hx : x.size ≤ 258) (f : Hd) :
    ∃ W2, (Instr.mapUpdate 70 (.map (some b)) (.string x) (hv f)).run Try.prog W = .ok () W2 ∧ Dm W2 (.map (some b)) (up H x (some f)) (k + 1) ∧ Fx (fun c => c = b) W W2 := by
  rcases h with ⟨e, _⟩ | ⟨b2, D, e, ho, r⟩
  · cases e
  · cases e
    obtain ⟨W2, hr, ho2, ht⟩ := ho.store law9 Try.underlying70 hk (key9 (x := x) (Nat.le_trans hx (by decide))) (val := hv f) (d := .held (hv f)) (ps := []) rfl
    have hg := ht.grown
    exact ⟨W2, hr, .inr ⟨b, _, rfl, ho2, r.put ho.isMap hx f⟩, ⟨hg.1, hg.2, hg.3, hg.size, fun _ h => absurd h (Nat.not_lt_zero _)⟩, fun c hc hn => hg.block c hc (by intro q; cases q; exact hn rfl)⟩
theorem del_map {W : World} {d : Value} {k : Nat} {H : Nm → Option Hd} (h : Dm W d H k) {x : Nm} (hx : x.size ≤ maxLen) (ty : TypeId) :
    ∃ W2, (Builtin.delete_ #[70, 9] ty #[d, .string x]).run Try.prog W = .ok (.tuple #[]) W2 ∧ Dm W2 d (up H x none) k ∧ Fx (fun c => mb d = some c) W W2 := by
  rcases h with ⟨rfl, h⟩ | ⟨b, D, rfl, ho, r⟩
  · refine ⟨W, Maps.drop_nil law9 Try.underlying70 (key9 hx) ty, .inl ⟨rfl, fun y => ?_⟩, Fx.refl _ _⟩
    by_cases e : y = x
    · subst e; exact up_same _ _ _
    · rw [up_other _ _ e]; exact h y
  · obtain ⟨W2, hr, ho2, ht⟩ := ho.drop law9 Try.underlying70 (key9 hx) ty
    have hg := ht.grown
    exact ⟨W2, hr, .inr ⟨b, _, rfl, ho2, r.del x⟩, ⟨hg.1, hg.2, hg.3, hg.size, fun _ h => absurd h (Nat.not_lt_zero _)⟩, fun c hc hn => hg.block c hc (by intro q; cases q; exact hn rfl)⟩
end Go.Proofs.Ytokgegbodbnimaa
