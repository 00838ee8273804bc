import Derived.Test.YtmjdpddpphfpiaaSvA
import Derived.Maps.OwnSet
import Derived.Maps.OwnOps
import Derived.Maps.RangeWalk
import Derived.Maps.AppendAt
import Derived.Lib.SliceRun
import Derived.Laws.Tables
import Derived.Deep.WholeRow
import Derived.Deep.LoopGhost
namespace Go.Proofs.Ytmjdpddpphfpiaa
open Go.RowKit Go.Maps

abbrev Nm := ByteArray
def kl (x : Nm) : Lit := .string x.data.toList
theorem kl_inj {x y : Nm} (h : kl x = kl y) : x = y := by
  unfold kl at h
  injection h with h
  have : x.data = y.data := by simpa using h
  cases x; cases y; simp_all
def raw (v : Value) : Option (DataW Value × List MemPlace) := some (.held v, [])
theorem law9 : Keyed Try.prog 9 := string_keyed Try.underlying9
def up {α : Type} (H : Nm → Option α) (x : Nm) (v : Option α) : Nm → Option α := fun y => if y = x then v else H y
theorem up_same {α : Type} (H : Nm → Option α) (x : Nm) (v : Option α) : up H x v x = v := if_pos rfl
theorem up_other {α : Type} (H : Nm → Option α) {x y : Nm} (v : Option α) (h : y ≠ x) : up H x v y = H y := if_neg h
theorem key9 {x : Nm} (hx : x.size ≤ maxLen) : keyOf Try.prog 9 (.string x) = some (kl x) := WideMaps.keyOf_string_mk Try.underlying9 hx
theorem raw_inv {v : Value} {d : DataW Value} {ps : List MemPlace} (h : raw v = some (d, ps)) : d = .held v := by
  unfold raw at h
  injection h with h
  injection h with h _
  exact h.symm
/-- NOTHING BUT BLOCKS OF P HAS CHANGED. -/
structure Fx (P : Nat → Prop) (W W2 : World) : Prop where
  bel : Below 0 W W2
  blk : ∀ b, b < W.heap.size → ¬ P b → W2.heap[b]? = W.heap[b]?
theorem Fx.of {P : Nat → Prop} {W W2 : World} (h : Below W.heap.size W W2) : Fx P W W2 := ⟨h.mono (Nat.zero_le _), fun b hb _ => h.block b hb⟩
theorem Fx.size {P : Nat → Prop} {W W2 : World} (h : Fx P W W2) : W.heap.size ≤ W2.heap.size := h.bel.size
theorem Fx.trans {P : Nat → Prop} {A B C : World} (h : Fx P A B) (k : Fx P B C) : Fx P A C := ⟨h.bel.trans k.bel, fun b hb hp => (k.blk b (Nat.lt_of_lt_of_le hb h.size) hp).trans (h.blk b hb hp)⟩
theorem Fx.refl (P : Nat → Prop) (W : World) : Fx P W W := Fx.of (Below.refl _ _)
theorem Fx.mono {P Q : Nat → Prop} {W W2 : World} (h : Fx P W W2) (hp : ∀ b, b < W.heap.size → P b → Q b) : Fx Q W W2 := ⟨h.bel, fun b hb hn => h.blk b hb fun q => hn (hp b hb q)⟩
theorem Fx.below {P : Nat → Prop} {W W2 : World} {B : Nat} (h : Fx P W W2) (hB : B ≤ W.heap.size) (hp : ∀ b, b < B → ¬ P b) : Below B W W2 :=
  ⟨h.bel.1, h.bel.2, h.bel.3, h.bel.size, fun b hb => h.blk b (Nat.lt_of_lt_of_le hb hB) (hp b hb)⟩
theorem blk_lt {W : World} {g : Nat} {o : Obj} (h : W.heap[g]? = some o) : g < W.heap.size := (Array.getElem?_eq_some_iff.1 h).1
theorem set_blk {W : World} {g : Nat} {cur : Array Value} {t : TypeId} (h : W.heap[g]? = some (.cells cur t (0, 0))) (j : Nat) (u : Value) : (W.setCell ⟨g, j, none⟩ u).heap[g]? = some (.cells (cur.setIfInBounds j u) t (0, 0)) := by
  obtain ⟨hlt, hk⟩ := Array.getElem?_eq_some_iff.1 h
  show (W.heap.modify g _)[g]? = _
  rw [Array.getElem?_eq_getElem (by rw [Array.size_modify]; exact hlt), Array.getElem_modify_self, hk]
  rfl
theorem set_other (W : World) (g j : Nat) (u : Value) (k : Nat) (hk : k ≠ g) : (W.setCell ⟨g, j, none⟩ u).heap[k]? = W.heap[k]? := Below.heap_setCell W ⟨g, j, none⟩ u k hk
theorem set_size (W : World) (g j : Nat) (u : Value) : (W.setCell ⟨g, j, none⟩ u).heap.size = W.heap.size := by
  show (W.heap.modify g _).size = _
  rw [Array.size_modify]
theorem cell_blk {W : World} {g : Nat} {cur : Array Value} {t : TypeId} (h : W.heap[g]? = some (.cells cur t (0, 0))) (i : Nat) : W.cell? ⟨g, i, none⟩ = cur[i]? ∧ W.frozen? ⟨g, i, none⟩ = false := by
  refine ⟨?_, by simp [World.frozen?, h]⟩
  simp [World.cell?, h]
theorem own_same {W W2 : World} {base : Nat} {e : TypeId} {size : Nat} {v : Value} {n : Nat} {xs : List Value} (h : W.ownsRow base e size v n xs) (hb : ∀ g, v.ownBlock = some g → W2.heap[g]? = W.heap[g]?) : W2.ownsRow base e size v n xs := by
  refine ⟨h.1, ?_⟩
  rcases h.2 with h' | ⟨g, cap, cur, rfl, h2, h3, h4⟩
  · exact .inl h'
  · exact .inr ⟨g, cap, cur, rfl, h2, (hb g rfl).trans h3, h4⟩
def hasN (l : List Nm) (x : Nm) : Bool := l.any fun y => decide (y = x)
theorem hasN_iff {l : List Nm} {x : Nm} : hasN l x = true ↔ x ∈ l := by
  unfold hasN
  rw [List.any_eq_true]
  constructor
  · rintro ⟨y, hy, e⟩
    rw [← of_decide_eq_true e]
    exact hy
  · intro h
    exact ⟨x, h, decide_eq_true rfl⟩
theorem hasN_no {l : List Nm} {x : Nm} : hasN l x = false ↔ x ∉ l := by
  rw [← hasN_iff]; simp
theorem hasN_eq {l m : List Nm} {x y : Nm} (h : x ∈ l ↔ y ∈ m) : hasN l x = hasN m y := by
  rw [Bool.eq_iff_iff, hasN_iff, hasN_iff]; exact h
/-- A SET OF NAMES IN A MAP, AS IT LIES. -/
structure RepV (D : DataW Value) (l : List Nm) : Prop where
  has : ∀ x : Nm, x.size ≤ maxLen → Maps.has D (kl x) = hasN l x
  at_ : ∀ x : Nm, x.size ≤ maxLen → ∀ z, D.atKey (kl x) z = if hasN l x = true then .held (.agg #[]) else z
theorem RepV.start : RepV (.map []) [] := ⟨fun _ _ => rfl, fun _ _ _ => rfl⟩
theorem RepV.put {D : DataW Value} {l : List Nm} (r : RepV D l) (hD : IsMap D) (x : Nm) : RepV (D.put (kl x) (.held (.agg #[]))) (l ++ [x]) := by
  refine ⟨fun y hy => ?_, fun y hy z => ?_⟩
  · by_cases e : y = x
    · subst e
      rw [has_put_same hD (show WideAt.IsKeyLit (kl y) from trivial)]
      exact (hasN_iff.2 (by simp)).symm
    · rw [has_put_other (fun q => e (kl_inj q)), r.has y hy]
      exact hasN_eq (by simp [e])
  · by_cases e : y = x
    · subst e
      rw [atKey_put_same hD (show WideAt.IsKeyLit (kl y) from trivial), if_pos (hasN_iff.2 (by simp))]
    · rw [atKey_put_other (fun q => e (kl_inj q)), r.at_ y hy, show hasN (l ++ [x]) y = hasN l y from hasN_eq (by simp [e])]
def Dv (W : World) (b : Nat) (l : List Nm) (k : Nat) : Prop := ∃ D, W.ownsMap Try.prog 9 raw b k D ∧ RepV D l
theorem Dv.lt {W : World} {b : Nat} {l : List Nm} {k : Nat} (h : Dv W b l k) : b < W.heap.size := let ⟨_, o, _⟩ := h; o.lt
theorem Dv.same {W W2 : World} {b : Nat} {l : List Nm} {k : Nat} (h : Dv W b l k) (hb : W2.heap[b]? = W.heap[b]?) : Dv W2 b l k := by
  obtain ⟨D, ⟨es, clock, h1, h2⟩, r⟩ := h
  exact ⟨D, ⟨es, clock, hb.trans h1, h2⟩, r⟩
theorem Dv.later {W W2 : World} {b : Nat} {l : List Nm} {k : Nat} (h : Dv W b l k) (hb : Below W.heap.size W W2) : Dv W2 b l k := h.same (hb.block b h.lt)
theorem Dv.make (W : World) : Dv (W.alloc (.map #[] 0)) W.heap.size [] 0 := ⟨_, World.ownsMap_made W Try.prog 9 raw, RepV.start⟩
theorem zeroS (w : World) : (zeroValue 38).run Try.prog w = .ok (.agg #[]) w := by kernel_rfl
theorem Dv.look {W : World} {b : Nat} {l : List Nm} {k : Nat} (h : Dv W b l k) {x : Nm} (hx : x.size ≤ maxLen) : (Instr.lookup 37 (.map (some b)) (.string x) true).run Try.prog W = .ok (.tuple #[.agg #[], .bool (hasN l x)]) W := by
  obtain ⟨D, ho, r⟩ := h
  obtain ⟨v, ps, hr, hv2⟩ := ho.look_ok law9 Try.underlying37 (zeroS W) (zd := .held (.agg #[])) (zp := []) rfl (key9 hx)
  have e := raw_inv hv2
  rw [r.at_ x hx] at e
  have e2 : v = .agg #[] := by
    by_cases q : hasN l x = true
    · rw [if_pos q] at e; cases e; rfl
    · rw [if_neg q] at e; cases e; rfl
  rw [hr, r.has x hx, e2]
theorem Dv.put {W : World} {b k : Nat} {l : List Nm} (h : Dv W b l k) (hk : k < maxLen) {x : Nm} (hx : x.size ≤ maxLen) :
    ∃ W2, (Instr.mapUpdate 37 (.map (some b)) (.string x) (.agg #[])).run Try.prog W = .ok () W2 ∧ Dv W2 b (l ++ [x]) (k + 1) ∧ Fx (fun c => c = b) W W2 := by
  obtain ⟨D, ho, r⟩ := h
  obtain ⟨W2, hr, ho2, ht⟩ := ho.store law9 Try.underlying37 hk (key9 (x := x) hx) (val := .agg #[]) (d := .held (.agg #[])) (ps := []) rfl
  have hg := ht.grown
  exact ⟨W2, hr, ⟨_, ho2, r.put ho.isMap x⟩, ⟨hg.1, hg.2, hg.3, hg.size, fun _ h => absurd h (Nat.not_lt_zero _)⟩, fun c hc hn => hg.block c hc (by intro q; cases q; exact hn rfl)⟩
theorem bx_eq (x : Nm) : (ByteArray.toList x == ByteArray.toList x) = true := by simp
theorem ba_ne {x y : Nm} (e : x ≠ y) : (ByteArray.toList x == ByteArray.toList y) = false := by
  rw [beq_eq_false_iff_ne, ByteArray.toList_eq, ByteArray.toList_eq]
  exact fun z => e (kl_inj (by unfold kl; rw [z]))
theorem ba_if (x y : Nm) : (ByteArray.toList x == ByteArray.toList y) = decide (x = y) := by
  by_cases e : x = y
  · subst e; simp
  · rw [ba_ne e, decide_eq_false e]
/-- ONE THAT IS HELD: ITS CELLS. -/
structure Hx where
  cs : List Value
  nm : Nm
  es : Bool
  mr : Int
structure Hx.ok (h : Hx) : Prop where
  len : h.cs.length = 44
  one : ∀ x ∈ h.cs, x.oneCell' = true
  c0 : h.cs[0]? = some (.string h.nm)
  c2 : h.cs[2]? = some (.bool h.es)
  c43 : h.cs[43]? = some (.int .i64 h.mr)
  sz : h.nm.size ≤ 140737488351232
/-- A LIST OF THEM; A LIST OF NAMES. -/
def Hls (w : World) (v : Value) (hs : List Hx) : Prop := ∃ a c, v = .slice a hs.length c ∧ (∀ h ∈ hs, h.ok) ∧ (0 < hs.length → ∃ b o, a = some ⟨b, o, none⟩ ∧ b < w.heap.size ∧ ∀ i h, hs[i]? = some h → w.rangeAt b (o + i * 44) h.cs)
def Sl (w : World) (v : Value) (l : List Nm) : Prop := ∃ a c, v = .slice a l.length c ∧ (0 < l.length → ∃ b o, a = some ⟨b, o, none⟩ ∧ b < w.heap.size ∧ ∀ i s, l[i]? = some s → w.cell? ⟨b, o + i, none⟩ = some (.string s))
theorem Hls.form {w : World} {v : Value} {hs : List Hx} (h : Hls w v hs) : ∃ a c, v = .slice a hs.length c := let ⟨a, c, e, _⟩ := h; ⟨a, c, e⟩
theorem Sl.form {w : World} {v : Value} {l : List Nm} (h : Sl w v l) : ∃ a c, v = .slice a l.length c := let ⟨a, c, e, _⟩ := h; ⟨a, c, e⟩
theorem Hls.ok2 {w : World} {v : Value} {hs : List Hx} (h : Hls w v hs) : ∀ x ∈ hs, x.ok := let ⟨_, _, _, o, _⟩ := h; o
theorem Hls.later {w w2 : World} {v : Value} {hs : List Hx} (h : Hls w v hs) (hb : Below w.heap.size w w2) : Hls w2 v hs := by
  obtain ⟨a, c, e, ho, hr⟩ := h
  refine ⟨a, c, e, ho, fun h0 => ?_⟩
  obtain ⟨b, o, ea, hl, hc⟩ := hr h0
  exact ⟨b, o, ea, Nat.lt_of_lt_of_le hl hb.size, fun i h hi j u hj => (hb.cell (p := ⟨b, _, none⟩) hl).trans (hc i h hi j u hj)⟩
theorem Sl.later {w w2 : World} {v : Value} {l : List Nm} (h : Sl w v l) (hb : Below w.heap.size w w2) : Sl w2 v l := by
  obtain ⟨a, c, e, hr⟩ := h
  refine ⟨a, c, e, fun h0 => ?_⟩
  obtain ⟨b, o, ea, hl, hc⟩ := hr h0
  exact ⟨b, o, ea, Nat.lt_of_lt_of_le hl hb.size, fun i s hi => (hb.cell (p := ⟨b, _, none⟩) hl).trans (hc i s hi)⟩
theorem Hls.at {w : World} {a : Option Addr} {n c : Nat} {hs : List Hx} (h : Hls w (.slice a n c) hs) {i : Nat} (hi : i < hs.length) : ∃ b o, a = some ⟨b, o, none⟩ ∧ b < w.heap.size ∧ (hs[i]).ok ∧ w.rangeAt b (o + i * 44) (hs[i]).cs := by
  obtain ⟨a2, c2, e, ho, hr⟩ := h
  cases e
  obtain ⟨b, o, ea, hl, hc⟩ := hr (by omega)
  exact ⟨b, o, ea, hl, ho _ (List.getElem_mem hi), hc i _ (List.getElem?_eq_getElem hi)⟩
theorem Sl.at {w : World} {a : Option Addr} {n c : Nat} {l : List Nm} (h : Sl w (.slice a n c) l) {i : Nat} (hi : i < l.length) : ∃ b o, a = some ⟨b, o, none⟩ ∧ b < w.heap.size ∧ w.cell? ⟨b, o + i, none⟩ = some (.string l[i]) := by
  obtain ⟨a2, c2, e, hr⟩ := h
  cases e
  obtain ⟨b, o, ea, hl, hc⟩ := hr (by omega)
  exact ⟨b, o, ea, hl, hc i _ (List.getElem?_eq_getElem hi)⟩
/-- NAMES AS VALUES. -/
def sv (l : List Nm) : List Value := l.map Value.string
theorem sv_len (l : List Nm) : (sv l).length = l.length := List.length_map _
theorem sv_at (l : List Nm) (i : Nat) : (sv l)[i]? = (l[i]?).map Value.string := List.getElem?_map
theorem sv_one (l : List Nm) : ∀ u ∈ sv l, u.oneCell' = true := fun u hu => by
  obtain ⟨x, _, rfl⟩ := List.mem_map.1 hu
  rfl
theorem own_sl {W : World} {base e : Nat} {v : Value} {l : List Nm} (h : W.ownsRow base e 1 v l.length (sv l)) : Sl W v l := by
  obtain ⟨a, c, rfl⟩ := owns_form h
  refine ⟨a, c, rfl, fun h0 => ?_⟩
  rcases h.2 with ⟨h1, h2⟩ | ⟨g, cap, cur, h1, h2, h3, h4⟩
  · omega
  · cases h1
    exact ⟨g, 0, rfl, blk_lt h3, fun i s hi => by rw [Nat.zero_add]; exact owns_at h i _ (by rw [sv_at, hi]; rfl)⟩
end Go.Proofs.Ytmjdpddpphfpiaa
