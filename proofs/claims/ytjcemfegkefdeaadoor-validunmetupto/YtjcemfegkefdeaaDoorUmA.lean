import Derived.Test.YtjcemfegkefdeaaDoorLeaf
import Derived.Below
import Derived.ArgAppend
import Derived.Laws.OwnMore
import Derived.OwnWalk
import Derived.Deep.AppendLies
import Derived.LoopIn
import Derived.Maps.OwnSet
import Derived.Maps.OwnOps
import Derived.Maps.AppendAt
import Derived.Lib.SliceRun
namespace Go.Proofs.YtjcemfegkefdeaaDoor
open Go.RowKit Go.Maps

abbrev Nm := ByteArray
/-- A SLICE'S HEADER. -/
structure Hd where
  a : Option Addr
  n : Nat
  c : Nat
def hv (h : Hd) : Value := .slice h.a h.n h.c
def hv0 : Option Hd → Value
  | none => .slice none 0 0
  | some h => hv h
def ln0 : Option Hd → Nat
  | none => 0
  | some h => h.n
def kl (x : Nm) : Lit := .string x.data.toList
theorem kl_inj {x y : Nm} (h : kl x = kl y) : x = y := by
  unfold kl at h
  injection h with h
  have : x.data = y.data := by simpa using h
  cases x; cases y; simp_all
def raw (v : Value) : Option (DataW Value × List MemPlace) := some (.held v, [])
theorem law9 : Keyed Tryd.prog 9 := string_keyed Tryd.underlying9
theorem zero22 (w : World) : (zeroValue 29).run Tryd.prog w = .ok (.slice none 0 0) w := by kernel_rfl
def up {α : Type} (H : Nm → Option α) (x : Nm) (v : Option α) : Nm → Option α := fun y => if y = x then v else H y
theorem up_same {α : Type} (H : Nm → Option α) (x : Nm) (v : Option α) : up H x v x = v := if_pos rfl
theorem up_other {α : Type} (H : Nm → Option α) {x y : Nm} (v : Option α) (h : y ≠ x) : up H x v y = H y := if_neg h
/-- WHAT A MAP'S DATUM SAYS. -/
structure Rep (D : DataW Value) (H : Nm → Option Hd) : Prop where
  has : ∀ x : Nm, x.size ≤ maxLen → Maps.has D (kl x) = (H x).isSome
  at_ : ∀ x : Nm, x.size ≤ maxLen → ∀ z, D.atKey (kl x) z = match H x with | some h => .held (hv h) | none => z
  lim : ∀ x, H x ≠ none → x.size ≤ maxLen
theorem Rep.start : Rep (.map []) (fun _ => none) := ⟨fun _ _ => rfl, fun _ _ _ => rfl, fun _ h => absurd rfl h⟩
theorem Rep.put {D : DataW Value} {H : Nm → Option Hd} (r : Rep D H) (hD : IsMap D) {x : Nm} (hx : x.size ≤ maxLen) (h : Hd) : Rep (D.put (kl x) (.held (hv h))) (up H x (some h)) := by
  refine ⟨fun y hy => ?_, fun y hy z => ?_, fun y hy => ?_⟩
  · by_cases e : y = x
    · subst e
      rw [has_put_same hD (show WideAt.IsKeyLit (kl y) from trivial), up_same]
      rfl
    · rw [has_put_other (fun q => e (kl_inj q)), up_other _ _ e, r.has y hy]
  · by_cases e : y = x
    · subst e
      rw [atKey_put_same hD (show WideAt.IsKeyLit (kl y) from trivial), up_same]
    · rw [atKey_put_other (fun q => e (kl_inj q)), up_other _ _ e, r.at_ y hy]
  · by_cases e : y = x
    · subst e; exact hx
    · rw [up_other _ _ e] at hy; exact r.lim y hy
theorem Rep.del {D : DataW Value} {H : Nm → Option Hd} (r : Rep D H) (x : Nm) : Rep (D.del (kl x)) (up H x none) := by
  refine ⟨fun y hy => ?_, fun y hy z => ?_, fun y hy => ?_⟩
  · by_cases e : y = x
    · subst e
      rw [has_del_same, up_same]
      rfl
    · rw [has_del_other (fun q => e (kl_inj q)), up_other _ _ e, r.has y hy]
  · by_cases e : y = x
    · subst e
      rw [atKey_del_same, up_same]
    · rw [atKey_del_other (fun q => e (kl_inj q)), up_other _ _ e, r.at_ y hy]
  · by_cases e : y = x
    · subst e; rw [up_same] at hy; exact absurd rfl hy
    · rw [up_other _ _ e] at hy; exact r.lim y hy
/-- A DIRECTORY'S MAP AS IT LIES, OF AT MOST k NAMES. -/
def Dm (W : World) (d : Value) (H : Nm → Option Hd) (k : Nat) : Prop :=
  (d = .map none ∧ ∀ x, H x = none) ∨ ∃ b D, d = .map (some b) ∧ W.ownsMap Tryd.prog 9 raw b k D ∧ Rep D H
def mb : Value → Option Nat
  | .map b => b
  | _ => none
theorem Dm.lim {W : World} {d : Value} {H : Nm → Option Hd} {k : Nat} (h : Dm W d H k) : ∀ x, H x ≠ none → x.size ≤ maxLen := fun x hx => by
  rcases h with ⟨_, h⟩ | ⟨b, D, _, _, r⟩
  · exact absurd (h x) hx
  · exact r.lim x hx
theorem Dm.lt {W : World} {d : Value} {H : Nm → Option Hd} {k : Nat} (h : Dm W d H k) {b : Nat} (e : mb d = some b) : b < W.heap.size := by
  rcases h with ⟨rfl, _⟩ | ⟨b2, D, rfl, ho, r⟩
  · cases e
  · cases e; exact ho.lt
theorem Dm.mono {W : World} {d : Value} {H : Nm → Option Hd} {k k2 : Nat} (h : Dm W d H k) (hk : k ≤ k2) : Dm W d H k2 := by
  rcases h with h | ⟨b, D, e, ho, r⟩
  · exact .inl h
  · exact .inr ⟨b, D, e, ho.mono hk, r⟩
theorem Dm.same {W W2 : World} {d : Value} {H : Nm → Option Hd} {k : Nat} (h : Dm W d H k) (hb : ∀ b, mb d = some b → W2.heap[b]? = W.heap[b]?) : Dm W2 d H k := by
  rcases h with h | ⟨b, D, rfl, ho, r⟩
  · exact .inl h
  · obtain ⟨es, clock, h1, h2⟩ := ho
    exact .inr ⟨b, D, rfl, ⟨es, clock, (hb b rfl).trans h1, h2⟩, r⟩
theorem Dm.later {W W2 : World} {d : Value} {H : Nm → Option Hd} {k : Nat} (h : Dm W d H k) (hb : Below W.heap.size W W2) : Dm W2 d H k := h.same fun b e => hb.block b (h.lt e)
theorem Dm.form {W : World} {d : Value} {H : Nm → Option Hd} {k : Nat} (h : Dm W d H k) : ∃ o, d = .map o := by
  rcases h with ⟨rfl, _⟩ | ⟨b, D, rfl, _⟩
  · exact ⟨_, rfl⟩
  · exact ⟨_, rfl⟩
theorem key9 {x : Nm} (hx : x.size ≤ maxLen) : keyOf Tryd.prog 9 (.string x) = some (kl x) := WideMaps.keyOf_string_mk Tryd.underlying9 hx
theorem raw_inv {v : Value} {d : DataW Value} {ps : List MemPlace} (h : raw v = some (d, ps)) : d = .held v := by
  unfold raw at h
  injection h with h
  injection h with h _
  exact h.symm
theorem look2 {W : World} {d : Value} {H : Nm → Option Hd} {k : Nat} (h : Dm W d H k) {x : Nm} (hx : x.size ≤ maxLen) : (Instr.lookup 47 d (.string x) true).run Tryd.prog W = .ok (.tuple #[hv0 (H x), .bool (H x).isSome]) W := by
  rcases h with ⟨rfl, h⟩ | ⟨b, D, rfl, ho, r⟩
  · rw [h x]
    exact Maps.look_nil true law9 Tryd.underlying47 (zero22 W) (key9 hx)
  · obtain ⟨v, ps, hr, hv2⟩ := ho.look_ok law9 Tryd.underlying47 (zero22 W) (zd := .held (.slice none 0 0)) (zp := []) rfl (key9 hx)
    rw [hr, r.has x hx]
    have e := raw_inv hv2
    rw [r.at_ x hx] at e
    cases hH : H x with
    | none =>
      simp only [hH] at e
      cases e
      rfl
    | some h =>
      simp only [hH] at e
      cases e
      rfl
theorem look1 {W : World} {d : Value} {H : Nm → Option Hd} {k : Nat} (h : Dm W d H k) {x : Nm} (hx : x.size ≤ maxLen) : (Instr.lookup 47 d (.string x) false).run Tryd.prog W = .ok (hv0 (H x)) W := by
  rcases h with ⟨rfl, h⟩ | ⟨b, D, rfl, ho, r⟩
  · rw [h x]
    exact Maps.look_nil false law9 Tryd.underlying47 (zero22 W) (key9 hx)
  · obtain ⟨v, ps, hr, hv2⟩ := ho.lookup law9 Tryd.underlying47 (zero22 W) (zd := .held (.slice none 0 0)) (zp := []) rfl (key9 hx)
    rw [hr]
    have e := raw_inv hv2
    rw [r.at_ x hx] at e
    cases hH : H x with
    | none =>
      simp only [hH] at e
      cases e
      rfl
    | some h =>
      simp only [hH] at e
      cases e
      rfl
/-- NOTHING BUT BLOCKS OF P HAS CHANGED. -/
structure Fx (P : Nat → Prop) (W W2 : World) : Prop where
  bel : Below 0 W W2
  blk : ∀ b, b < W.heap.size → ¬ P b → W2.heap[b]? = W.heap[b]?
theorem Fx.of {P : Nat → Prop} {W W2 : World} (h : Below W.heap.size W W2) : Fx P W W2 := ⟨h.mono (Nat.zero_le _), fun b hb _ => h.block b hb⟩
theorem Fx.size {P : Nat → Prop} {W W2 : World} (h : Fx P W W2) : W.heap.size ≤ W2.heap.size := h.bel.size
theorem Fx.trans {P : Nat → Prop} {A B C : World} (h : Fx P A B) (k : Fx P B C) : Fx P A C := ⟨h.bel.trans k.bel, fun b hb hp => (k.blk b (Nat.lt_of_lt_of_le hb h.size) hp).trans (h.blk b hb hp)⟩
theorem Fx.next {P Q : Nat → Prop} {A B C : World} (h : Fx P A B) (k : Fx Q B C) (q : ∀ b, b < A.heap.size → Q b → P b) : Fx P A C := ⟨h.bel.trans k.bel, fun b hb hp => (k.blk b (Nat.lt_of_lt_of_le hb h.size) (fun z => hp (q b hb z))).trans (h.blk b hb hp)⟩
theorem Fx.refl (P : Nat → Prop) (W : World) : Fx P W W := Fx.of (Below.refl _ _)
theorem Fx.mono {P Q : Nat → Prop} {W W2 : World} (h : Fx P W W2) (hp : ∀ b, b < W.heap.size → P b → Q b) : Fx Q W W2 := ⟨h.bel, fun b hb hn => h.blk b hb fun q => hn (hp b hb q)⟩
theorem blk_lt {W : World} {g : Nat} {o : Obj} (h : W.heap[g]? = some o) : g < W.heap.size := (Array.getElem?_eq_some_iff.1 h).1
theorem set_blk {W : World} {g : Nat} {cur : Array Value} {t : TypeId} (h : W.heap[g]? = some (.cells cur t (0, 0))) (j : Nat) (u : Value) : (W.setCell ⟨g, j, none⟩ u).heap[g]? = some (.cells (cur.setIfInBounds j u) t (0, 0)) := by
  obtain ⟨hlt, hk⟩ := Array.getElem?_eq_some_iff.1 h
  show (W.heap.modify g _)[g]? = _
  rw [Array.getElem?_eq_getElem (by rw [Array.size_modify]; exact hlt), Array.getElem_modify_self, hk]
  rfl
theorem set_other (W : World) (g j : Nat) (u : Value) (k : Nat) (hk : k ≠ g) : (W.setCell ⟨g, j, none⟩ u).heap[k]? = W.heap[k]? := Below.heap_setCell W ⟨g, j, none⟩ u k hk
theorem set_size (W : World) (g j : Nat) (u : Value) : (W.setCell ⟨g, j, none⟩ u).heap.size = W.heap.size := by
  show (W.heap.modify g _).size = _
  rw [Array.size_modify]
theorem cell_blk {W : World} {g : Nat} {cur : Array Value} {t : TypeId} (h : W.heap[g]? = some (.cells cur t (0, 0))) (i : Nat) : W.cell? ⟨g, i, none⟩ = cur[i]? ∧ W.frozen? ⟨g, i, none⟩ = false := by
  refine ⟨?_, by simp [World.frozen?, h]⟩
  simp [World.cell?, h]
theorem Fx.set {P : Nat → Prop} {W W2 : World} (h : Fx P W W2) {g : Nat} (hp : P g) (j : Nat) (u : Value) : Fx P W (W2.setCell ⟨g, j, none⟩ u) :=
  ⟨h.bel.setCell (p := ⟨g, j, none⟩) (Nat.zero_le _) u, fun b hb hn => (set_other _ _ _ _ _ (fun e => hn (by rw [e]; exact hp))).trans (h.blk b hb hn)⟩
theorem Dm.fx {P : Nat → Prop} {W W2 : World} {d : Value} {H : Nm → Option Hd} {k : Nat} (h : Dm W d H k) (f : Fx P W W2) (hp : ∀ b, mb d = some b → ¬ P b) : Dm W2 d H k := h.same fun b e => f.blk b (h.lt e) (hp b e)
/-- A NAME COMES IN, AND GOES. -/
theorem put_map {W : World} {b k : Nat} {H : Nm → Option Hd} (h : Dm W (.map (some b)) H k) (hk : k < maxLen) {x : Nm} (hx : x.size ≤ maxLen) (f : Hd) :
    ∃ W2, (Instr.mapUpdate 47 (.map (some b)) (.string x) (hv f)).run Tryd.prog W = .ok () W2 ∧ Dm W2 (.map (some b)) (up H x (some f)) (k + 1) ∧ Fx (fun c => c = b) W W2 := by
  rcases h with ⟨e, _⟩ | ⟨b2, D, e, ho, r⟩
  · cases e
  · cases e
    obtain ⟨W2, hr, ho2, ht⟩ := ho.store law9 Tryd.underlying47 hk (key9 (x := x) hx) (val := hv f) (d := .held (hv f)) (ps := []) rfl
    have hg := ht.grown
    exact ⟨W2, hr, .inr ⟨b, _, rfl, ho2, r.put ho.isMap hx f⟩, ⟨hg.1, hg.2, hg.3, hg.size, fun _ h => absurd h (Nat.not_lt_zero _)⟩, fun c hc hn => hg.block c hc (by intro q; cases q; exact hn rfl)⟩

def bk (h : Hd) : Option Nat := h.a.map (·.block)
theorem bk_own (h : Hd) : (hv h).ownBlock = bk h := by
  obtain ⟨a, n, c⟩ := h
  cases a <;> rfl
def ints (l : List Nat) : List Value := l.map fun (p : Nat) => Value.int .i64 (p : Int)
theorem ints_len (l : List Nat) : (ints l).length = l.length := by simp [ints]
theorem own_same {W W2 : World} {base e size n : Nat} {v : Value} {xs : List Value} (h : W.ownsRow base e size v n xs) (q : ∀ b, v.ownBlock = some b → W2.heap[b]? = W.heap[b]?) : W2.ownsRow base e size v n xs := by
  refine ⟨h.1, ?_⟩
  rcases h.2 with z | ⟨g, cap, cur, h1, h2, h3, h4⟩
  · exact .inl z
  · exact .inr ⟨g, cap, cur, h1, h2, (q g (by rw [h1]; rfl)).trans h3, h4⟩
/-- A MAP OF LISTS OF PLACES. -/
structure Mi (W : World) (base : Nat) (d : Value) (H : Nm → Option Hd) (F : Nm → List Nat) (k : Nat) : Prop where
  dm : Dm W d H k
  non : ∀ x, H x = none → F x = []
  con : ∀ x h, H x = some h → W.ownsRow base 3 1 (hv h) (F x).length (ints (F x))
  inj : ∀ x y h g b, H x = some h → H y = some g → bk h = some b → bk g = some b → x = y
theorem Mi.own {W : World} {base : Nat} {d : Value} {H : Nm → Option Hd} {F : Nm → List Nat} {k : Nat} (m : Mi W base d H F k) (x : Nm) : W.ownsRow base 3 1 (hv0 (H x)) (F x).length (ints (F x)) := by
  cases h : H x with
  | none => rw [m.non x h]; exact World.ownsRow_nil _ _ _ _
  | some f => exact m.con x f h
theorem Mi.same {W W2 : World} {base : Nat} {d : Value} {H : Nm → Option Hd} {F : Nm → List Nat} {k : Nat} (m : Mi W base d H F k) (q1 : ∀ b, mb d = some b → W2.heap[b]? = W.heap[b]?) (q2 : ∀ x h b, H x = some h → bk h = some b → W2.heap[b]? = W.heap[b]?) : Mi W2 base d H F k :=
  ⟨m.dm.same q1, m.non, fun x h e => own_same (m.con x h e) fun b eb => q2 x h b e (by rw [← bk_own]; exact eb), m.inj⟩
theorem Mi.lt {W : World} {base : Nat} {d : Value} {H : Nm → Option Hd} {F : Nm → List Nat} {k : Nat} (m : Mi W base d H F k) {x : Nm} {h : Hd} {b : Nat} (e : H x = some h) (eb : bk h = some b) : base ≤ b ∧ b < W.heap.size := World.ownsRow.lt (m.con x h e) b (by rw [bk_own]; exact eb)
theorem Mi.later {W W2 : World} {base : Nat} {d : Value} {H : Nm → Option Hd} {F : Nm → List Nat} {k : Nat} (m : Mi W base d H F k) (hb : RowKit.Below W.heap.size W W2) : Mi W2 base d H F k := m.same (fun b e => hb.block b (m.dm.lt e)) fun _ _ b e eb => hb.block b (m.lt e eb).2
theorem Mi.ne {W : World} {base : Nat} {d : Value} {H : Nm → Option Hd} {F : Nm → List Nat} {k : Nat} (m : Mi W base d H F k) {x : Nm} {h : Hd} {b : Nat} (e : H x = some h) (eb : bk h = some b) {d2 : Value} {H2 : Nm → Option Hd} {k2 : Nat} (hd : Dm W d2 H2 k2) : mb d2 ≠ some b := fun q => by
  rcases (m.con x h e).2 with ⟨q1, _⟩ | ⟨g, cap, cur, q1, _, q3, _⟩
  · have := bk_own h; rw [q1] at this; rw [← this] at eb; cases eb
  · have e2 : bk h = some g := by rw [← bk_own, q1]; rfl
    rw [eb] at e2
    cases e2
    rcases hd with ⟨rfl, _⟩ | ⟨b2, D, rfl, ho, _⟩
    · cases q
    · cases q
      obtain ⟨es, clock, h1, _⟩ := ho
      rw [q3] at h1
      cases h1
def upF (F : Nm → List Nat) (x : Nm) (l : List Nat) : Nm → List Nat := fun y => if y = x then l else F y
theorem upF_same (F : Nm → List Nat) (x : Nm) (l : List Nat) : upF F x l x = l := if_pos rfl
theorem upF_other (F : Nm → List Nat) {x y : Nm} (l : List Nat) (h : y ≠ x) : upF F x l y = F y := if_neg h
theorem infoI : (Tryd.prog.info? 3).map (fun i => (i.zero, i.size, i.bytes)) = some (some (.int .i64 0), 1, 8) := by kernel_rfl
theorem info_parts2 {P : Program} {e : TypeId} {z : Value} {s b : Nat} (h : (P.info? e).map (fun i => (i.zero, i.size, i.bytes)) = some (some z, s, b)) : ∃ i, P.info? e = some i ∧ i.zero = some z ∧ i.size = s ∧ i.bytes = b := by
  obtain ⟨i, h1, h2⟩ := Option.map_eq_some_iff.1 h
  simp only [Prod.mk.injEq] at h2
  exact ⟨i, h1, h2.1, h2.2.1, h2.2.2⟩
theorem slice_hd {W : World} {base e size n : Nat} {v : Value} {xs : List Value} (h : W.ownsRow base e size v n xs) : ∃ f : Hd, v = hv f ∧ f.n = n := by
  rcases h.2 with ⟨h1, h2⟩ | ⟨g, cap, cur, h1, _⟩
  · exact ⟨⟨none, 0, 0⟩, h1, h2.symm⟩
  · exact ⟨⟨_, n, cap⟩, h1, rfl⟩
/-- ONE PLACE MORE BEHIND A NAME'S. -/
theorem Mi.add {W : World} {base b k : Nat} {H : Nm → Option Hd} {F : Nm → List Nat} (m : Mi W base (.map (some b)) H F k) (hk : k < maxLen) (hbase : base ≤ W.heap.size) {x : Nm} (hx : x.size ≤ maxLen) (p : Nat) (hl : (F x).length ≤ 1099511627776) (ty : TypeId) :
    ∃ h' W2 W3, (Builtin.append_ #[29, 29] ty #[hv0 (H x), .slice (some ⟨W.heap.size, 0, none⟩) 1 1]).run Tryd.prog (W.alloc (.cells #[.int .i64 (p : Int)] 3)) = .ok (hv h') W2 ∧ (Instr.mapUpdate 47 (.map (some b)) (.string x) (hv h')).run Tryd.prog W2 = .ok () W3 ∧
      Mi W3 base (.map (some b)) (up H x (some h')) (upF F x (F x ++ [p])) (k + 1) ∧ (∀ c, c < W.heap.size → c ≠ b → (∀ h, H x = some h → bk h ≠ some c) → W3.heap[c]? = W.heap[c]? ∧ W2.heap[c]? = W.heap[c]?) ∧ W2.heap[b]? = W.heap[b]? ∧ ((∃ h, H x = some h ∧ bk h' = bk h) ∨ ∀ c, bk h' = some c → W.heap.size ≤ c) ∧ RowKit.Below 0 W W3 := by
  obtain ⟨i0, hi, hz0, hz1, hz2⟩ := info_parts2 infoI
  have b1 : RowKit.Below W.heap.size W (W.alloc (.cells #[.int .i64 (p : Int)] 3)) := (Below.refl _ W).alloc (Nat.le_refl _) _
  have m1 := m.later b1
  obtain ⟨v', W2, hr, ho, hg, _, hat⟩ := run_append_own_at (P := Tryd.prog) (W.alloc (.cells #[.int .i64 (p : Int)] 3)) base 29 ty 3 i0 (.int .i64 0) 1 8 Tryd.underlying29 hi hz0 hz1 hz2 rfl (by decide) (hv0 (H x)) (F x).length (ints (F x)) (m1.own x) ⟨W.heap.size, 0, none⟩ 1 1 [.int .i64 (p : Int)] rfl (cell_one_new _ _ _) (by simp [Value.oneCell']) (Nat.le_trans (Nat.add_le_add_right hl 1) (by decide)) (by omega) (by rw [World.size_alloc]; omega)
  obtain ⟨h', rfl, hn'⟩ := slice_hd ho
  have hob : ∀ c, (hv0 (H x)).ownBlock = some c → ∃ h, H x = some h ∧ bk h = some c := fun c e => by
    cases hh : H x with
    | none => rw [hh] at e; cases e
    | some h => rw [hh] at e; exact ⟨h, rfl, by rw [← bk_own]; exact e⟩
  have k2 : ∀ c, c < W.heap.size → (∀ h, H x = some h → bk h ≠ some c) → W2.heap[c]? = W.heap[c]? := fun c hc hn => (hg.block c (by rw [World.size_alloc]; omega) fun e => by
    obtain ⟨h, q1, q2⟩ := hob c e.symm
    exact hn h q1 q2).trans (b1.block c hc)
  have hbl : b < W.heap.size := m.dm.lt rfl
  have hbk2 : W2.heap[b]? = W.heap[b]? := k2 b hbl fun h e eb => m.ne e eb m.dm rfl
  have d2 : Dm W2 (.map (some b)) H k := m.dm.same fun c e => by cases e; exact hbk2
  obtain ⟨W3, hr3, d3, f3⟩ := put_map d2 hk hx h'
  have s2 : W.heap.size ≤ W2.heap.size := by have := hg.size; rw [World.size_alloc] at this; omega
  have ho' : W2.ownsRow base 3 1 (hv h') ((F x).length + 1) (ints (F x ++ [p])) := by
    have : ints (F x ++ [p]) = ints (F x) ++ [.int .i64 (p : Int)] := by simp [ints]
    rw [this]; exact ho
  have hnb : ∀ c, bk h' = some c → c ≠ b := fun c e q => by
    subst q
    rcases ho'.2 with ⟨q1, q2⟩ | ⟨g, cap, cur, q1, _, q3, _⟩
    · omega
    · have e2 : bk h' = some g := by rw [← bk_own, q1]; rfl
      rw [e] at e2
      cases e2
      rcases d2 with ⟨q, _⟩ | ⟨b2, D, q, hoo, _⟩
      · cases q
      · cases q
        obtain ⟨es, clock, h1, _⟩ := hoo
        rw [q3] at h1
        cases h1
  have hsrc : (∃ h, H x = some h ∧ bk h' = bk h) ∨ ∀ c, bk h' = some c → W.heap.size ≤ c := by
    rcases hat with q | q
    · rw [bk_own] at q
      cases hh : H x with
      | none => rw [hh] at q; right; intro c e; rw [e] at q; cases q
      | some h => rw [hh] at q; left; exact ⟨h, rfl, by rw [q]; exact bk_own h⟩
    · right
      intro c e
      rw [bk_own, e] at q
      injection q with q
      rw [World.size_alloc] at q
      omega
  refine ⟨h', W2, W3, hr, hr3, ⟨d3, fun y e => ?_, fun y h e => ?_, fun y z h g c e1 e2 c1 c2 => ?_⟩, fun c hc hcb hn => ⟨(f3.blk c (by omega) hcb).trans (k2 c hc hn), k2 c hc hn⟩, hbk2, hsrc, ?_⟩
  · by_cases q : y = x
    · subst q; rw [up_same] at e; cases e
    · rw [up_other _ _ q] at e; rw [upF_other _ _ q]; exact m.non y e
  · by_cases q : y = x
    · subst q
      rw [up_same] at e
      cases e
      rw [upF_same, List.length_append]
      exact own_same ho' fun c ec => f3.blk c (World.ownsRow.lt ho' c ec).2 (hnb c (by rw [← bk_own]; exact ec))
    · rw [up_other _ _ q] at e
      rw [upF_other _ _ q]
      refine own_same (m.con y h e) fun c ec => ?_
      have ec' : bk h = some c := by rw [← bk_own]; exact ec
      have hc := (m.lt e ec').2
      exact (f3.blk c (by omega) (fun z => m.ne e ec' m.dm (by rw [z]; rfl))).trans (k2 c hc fun g e3 e4 => q (m.inj y x h g c e e3 ec' e4))
  · by_cases qy : y = x
    · by_cases qz : z = x
      · rw [qy, qz]
      · exfalso
        subst qy
        rw [up_same] at e1
        rw [up_other _ _ qz] at e2
        cases e1
        rcases hsrc with ⟨h0, q1, q2⟩ | q
        · exact qz (m.inj z y g h0 c e2 q1 c2 (by rw [← q2]; exact c1))
        · have := (m.lt e2 c2).2
          have := q c c1
          omega
    · by_cases qz : z = x
      · exfalso
        subst qz
        rw [up_same] at e2
        rw [up_other _ _ qy] at e1
        cases e2
        rcases hsrc with ⟨h0, q1, q2⟩ | q
        · exact qy (m.inj y z h h0 c e1 q1 c1 (by rw [← q2]; exact c2))
        · have := (m.lt e1 c1).2
          have := q c c2
          omega
      · rw [up_other _ _ qy] at e1
        rw [up_other _ _ qz] at e2
        exact m.inj y z h g c e1 e2 c1 c2
  · have b2 : RowKit.Below 0 W W2 := (b1.mono (Nat.zero_le _)).grown hg (Nat.zero_le _) (fun _ _ => Nat.zero_le _)
    exact b2.trans f3.bel
end Go.Proofs.YtjcemfegkefdeaaDoor
