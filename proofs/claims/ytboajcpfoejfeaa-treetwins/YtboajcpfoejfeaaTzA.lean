import Derived.Test.YtboajcpfoejfeaaSvA
import Derived.Maps.OwnSet
import Derived.Maps.OwnOps
import Derived.Maps.AppendAt
import Derived.Lib.SliceRun
import Derived.Laws.Tables
import Derived.Deep.WholeRow
import Derived.Deep.LoopGhost
import Derived.Sort.KeysCollected
import Derived.Sort.Walk0
namespace Go.Proofs.Ytboajcpfoejfeaa
open Go.RowKit Go.Maps

abbrev Nm := ByteArray
def kl (x : Nm) : Lit := .string x.data.toList
theorem kl_inj {x y : Nm} (h : kl x = kl y) : x = y := by
  unfold kl at h
  injection h with h
  have : x.data = y.data := by simpa using h
  cases x; cases y; simp_all
def raw (v : Value) : Option (DataW Value × List MemPlace) := some (.held v, [])
theorem law9 : Keyed Try.prog 9 := string_keyed Try.underlying9
theorem raw_inv {v : Value} {d : DataW Value} {ps : List MemPlace} (h : raw v = some (d, ps)) : d = .held v := by
  unfold raw at h
  injection h with h
  injection h with h _
  exact h.symm
/-- NOTHING BUT BLOCKS OF P HAS CHANGED. -/
structure Fx (P : Nat → Prop) (W W2 : World) : Prop where
  bel : Below 0 W W2
  blk : ∀ b, b < W.heap.size → ¬ P b → W2.heap[b]? = W.heap[b]?
theorem Fx.of {P : Nat → Prop} {W W2 : World} (h : Below W.heap.size W W2) : Fx P W W2 := ⟨h.mono (Nat.zero_le _), fun b hb _ => h.block b hb⟩
theorem Fx.size {P : Nat → Prop} {W W2 : World} (h : Fx P W W2) : W.heap.size ≤ W2.heap.size := h.bel.size
theorem Fx.trans {P : Nat → Prop} {A B C : World} (h : Fx P A B) (k : Fx P B C) : Fx P A C := ⟨h.bel.trans k.bel, fun b hb hp => (k.blk b (Nat.lt_of_lt_of_le hb h.size) hp).trans (h.blk b hb hp)⟩
theorem Fx.refl (P : Nat → Prop) (W : World) : Fx P W W := Fx.of (Below.refl _ _)
theorem Fx.mono {P Q : Nat → Prop} {W W2 : World} (h : Fx P W W2) (hp : ∀ b, b < W.heap.size → P b → Q b) : Fx Q W W2 := ⟨h.bel, fun b hb hn => h.blk b hb fun q => hn (hp b hb q)⟩
theorem Fx.below {P : Nat → Prop} {W W2 : World} {B : Nat} (h : Fx P W W2) (hB : B ≤ W.heap.size) (hp : ∀ b, b < B → ¬ P b) : Below B W W2 :=
  ⟨h.bel.1, h.bel.2, h.bel.3, h.bel.size, fun b hb => h.blk b (Nat.lt_of_lt_of_le hb hB) (hp b hb)⟩
theorem blk_lt {W : World} {g : Nat} {o : Obj} (h : W.heap[g]? = some o) : g < W.heap.size := (Array.getElem?_eq_some_iff.1 h).1
theorem set_blk {W : World} {g : Nat} {cur : Array Value} {t : TypeId} (h : W.heap[g]? = some (.cells cur t (0, 0))) (j : Nat) (u : Value) : (W.setCell ⟨g, j, none⟩ u).heap[g]? = some (.cells (cur.setIfInBounds j u) t (0, 0)) := by
  obtain ⟨hlt, hk⟩ := Array.getElem?_eq_some_iff.1 h
  show (W.heap.modify g _)[g]? = _
  rw [Array.getElem?_eq_getElem (by rw [Array.size_modify]; exact hlt), Array.getElem_modify_self, hk]
  rfl
theorem set_other (W : World) (g j : Nat) (u : Value) (k : Nat) (hk : k ≠ g) : (W.setCell ⟨g, j, none⟩ u).heap[k]? = W.heap[k]? := Below.heap_setCell W ⟨g, j, none⟩ u k hk
theorem set_size (W : World) (g j : Nat) (u : Value) : (W.setCell ⟨g, j, none⟩ u).heap.size = W.heap.size := by
  show (W.heap.modify g _).size = _
  rw [Array.size_modify]
theorem cell_blk {W : World} {g : Nat} {cur : Array Value} {t : TypeId} (h : W.heap[g]? = some (.cells cur t (0, 0))) (i : Nat) : W.cell? ⟨g, i, none⟩ = cur[i]? ∧ W.frozen? ⟨g, i, none⟩ = false := by
  refine ⟨?_, by simp [World.frozen?, h]⟩
  simp [World.cell?, h]
theorem own_same {W W2 : World} {base : Nat} {e : TypeId} {size : Nat} {v : Value} {n : Nat} {xs : List Value} (h : W.ownsRow base e size v n xs) (hb : ∀ g, v.ownBlock = some g → W2.heap[g]? = W.heap[g]?) : W2.ownsRow base e size v n xs := by
  refine ⟨h.1, ?_⟩
  rcases h.2 with h' | ⟨g, cap, cur, rfl, h2, h3, h4⟩
  · exact .inl h'
  · exact .inr ⟨g, cap, cur, rfl, h2, (hb g rfl).trans h3, h4⟩
theorem bx_eq (x : Nm) : (ByteArray.toList x == ByteArray.toList x) = true := by simp
theorem ba_ne {x y : Nm} (e : x ≠ y) : (ByteArray.toList x == ByteArray.toList y) = false := by
  rw [beq_eq_false_iff_ne, ByteArray.toList_eq, ByteArray.toList_eq]
  exact fun z => e (kl_inj (by unfold kl; rw [z]))
theorem ba_if (x y : Nm) : (ByteArray.toList x == ByteArray.toList y) = decide (x = y) := by
  by_cases e : x = y
  · subst e; simp
  · rw [ba_ne e, decide_eq_false e]
def Sl (w : World) (v : Value) (l : List Nm) : Prop := ∃ a c, v = .slice a l.length c ∧ (0 < l.length → ∃ b o, a = some ⟨b, o, none⟩ ∧ b < w.heap.size ∧ ∀ i s, l[i]? = some s → w.cell? ⟨b, o + i, none⟩ = some (.string s))
theorem Sl.form {w : World} {v : Value} {l : List Nm} (h : Sl w v l) : ∃ a c, v = .slice a l.length c := let ⟨a, c, e, _⟩ := h; ⟨a, c, e⟩
theorem Sl.later {w w2 : World} {v : Value} {l : List Nm} (h : Sl w v l) (hb : Below w.heap.size w w2) : Sl w2 v l := by
  obtain ⟨a, c, e, hr⟩ := h
  refine ⟨a, c, e, fun h0 => ?_⟩
  obtain ⟨b, o, ea, hl, hc⟩ := hr h0
  exact ⟨b, o, ea, Nat.lt_of_lt_of_le hl hb.size, fun i s hi => (hb.cell (p := ⟨b, _, none⟩) hl).trans (hc i s hi)⟩
theorem Sl.at {w : World} {a : Option Addr} {n c : Nat} {l : List Nm} (h : Sl w (.slice a n c) l) {i : Nat} (hi : i < l.length) : ∃ b o, a = some ⟨b, o, none⟩ ∧ b < w.heap.size ∧ w.cell? ⟨b, o + i, none⟩ = some (.string l[i]) := by
  obtain ⟨a2, c2, e, hr⟩ := h
  cases e
  obtain ⟨b, o, ea, hl, hc⟩ := hr (by omega)
  exact ⟨b, o, ea, hl, hc i _ (List.getElem?_eq_getElem hi)⟩
/-- NAMES AS VALUES. -/
def sv (l : List Nm) : List Value := l.map Value.string
theorem sv_len (l : List Nm) : (sv l).length = l.length := List.length_map _
theorem sv_at (l : List Nm) (i : Nat) : (sv l)[i]? = (l[i]?).map Value.string := List.getElem?_map
theorem sv_one (l : List Nm) : ∀ u ∈ sv l, u.oneCell' = true := fun u hu => by
  obtain ⟨x, _, rfl⟩ := List.mem_map.1 hu
  rfl
theorem own_sl {W : World} {base e : Nat} {v : Value} {l : List Nm} (h : W.ownsRow base e 1 v l.length (sv l)) : Sl W v l := by
  obtain ⟨a, c, rfl⟩ := owns_form h
  refine ⟨a, c, rfl, fun h0 => ?_⟩
  rcases h.2 with ⟨h1, h2⟩ | ⟨g, cap, cur, h1, h2, h3, h4⟩
  · omega
  · cases h1
    exact ⟨g, 0, rfl, blk_lt h3, fun i s hi => by rw [Nat.zero_add]; exact owns_at h i _ (by rw [sv_at, hi]; rfl)⟩
def nmOf (l : List UInt8) : Nm := ⟨l.toArray⟩
theorem nmOf_data (x : Nm) : nmOf x.data.toList = x := by
  cases x
  simp [nmOf]
theorem data_nmOf (l : List UInt8) : (nmOf l).data.toList = l := by simp [nmOf]
theorem own_set {W : World} {base e g n cap : Nat} {xs : List Value} (h : W.ownsRow base e 1 (.slice (some ⟨g, 0, none⟩) n cap) n xs) (i : Nat) (u : Value) : (W.setCell ⟨g, i, none⟩ u).ownsRow base e 1 (.slice (some ⟨g, 0, none⟩) n cap) n (xs.set i u) := by
  rcases h.2 with ⟨q, _⟩ | ⟨g2, cap2, cur, e, hg, hh, h1, h2, h3, h4⟩
  · cases q
  · cases e
    refine ⟨by rw [List.length_set]; exact h.1, .inr ⟨g, cap, cur.setIfInBounds i u, rfl, hg, set_blk hh i u, h1, h2, by simpa using h3, ?_⟩⟩
    rw [Array.toList_setIfInBounds, List.take_set, h4]
theorem own_low {W W2 : World} {base e size n : Nat} {v : Value} {xs : List Value} (h : W.ownsRow base e size v n xs) (hb : RowKit.Below W.heap.size W W2) : W2.ownsRow base e size v n xs := own_same h fun b e => hb.block b (World.ownsRow.lt h b e).2
abbrev lt (x y : Nm) : Prop := x.data.toList < y.data.toList
theorem lt_iff (x y : Nm) : Op.bytesLess (ByteArray.toList x) (ByteArray.toList y) = decide (lt x y) := by
  rw [bytesLess_eq, ByteArray.toList_eq, ByteArray.toList_eq]
theorem lt_tri {x y : Nm} (h : ¬ lt x y) (e : x ≠ y) : lt y x := Classical.byContradiction fun q => e (kl_inj (congrArg Lit.string (List.le_antisymm (List.not_lt.1 q) (List.not_lt.1 h))))
/-- NAMES THAT RISE, AND ARE JUST THESE. -/
structure Ris (l L : List Nm) : Prop where
  up : l.Pairwise fun x y => x.data.toList < y.data.toList
  mem : ∀ x, x ∈ l ↔ x ∈ L
theorem lt_ne {x y : Nm} (h : x.data.toList < y.data.toList) : x ≠ y := fun e => by rw [e] at h; exact List.lt_irrefl _ h
theorem rise_uniq : ∀ {a b : List Nm}, (a.Pairwise fun x y => x.data.toList < y.data.toList) → (b.Pairwise fun x y => x.data.toList < y.data.toList) → (∀ x, x ∈ a ↔ x ∈ b) → a = b
  | [], [], _, _, _ => rfl
  | [], y :: b, _, _, h => absurd ((h y).2 List.mem_cons_self) (by simp)
  | x :: a, [], _, _, h => absurd ((h x).1 List.mem_cons_self) (by simp)
  | x :: a, y :: b, ha, hb, h => by
    rw [List.pairwise_cons] at ha hb
    have e : x = y := by
      rcases List.mem_cons.1 ((h x).1 List.mem_cons_self) with e | hx
      · exact e
      · rcases List.mem_cons.1 ((h y).2 List.mem_cons_self) with e | hy
        · exact e.symm
        · exact absurd (List.lt_trans (ha.1 y hy) (hb.1 x hx)) (List.lt_irrefl _)
    subst e
    congr 1
    refine rise_uniq ha.2 hb.2 fun z => ⟨fun hz => ?_, fun hz => ?_⟩
    · rcases List.mem_cons.1 ((h z).1 (List.mem_cons_of_mem _ hz)) with e | q
      · exact absurd e.symm (lt_ne (ha.1 z hz))
      · exact q
    · rcases List.mem_cons.1 ((h z).2 (List.mem_cons_of_mem _ hz)) with e | q
      · exact absurd e.symm (lt_ne (hb.1 z hz))
      · exact q
theorem Ris.uniq {a b L : List Nm} (h : Ris a L) (k : Ris b L) : a = b := rise_uniq h.up k.up fun x => (h.mem x).trans (k.mem x).symm
theorem Ris.len {l L : List Nm} (h : Ris l L) : l.length ≤ L.length := by
  have hn : l.Nodup := h.up.imp lt_ne
  exact List.Nodup.length_le_of_subset hn fun x hx => (h.mem x).1 hx
theorem Ris.keep {l L M : List Nm} (h : Ris l L) (hm : ∀ x, x ∈ M ↔ x ∈ L) : Ris l M := ⟨h.up, fun x => (h.mem x).trans (hm x).symm⟩
def insN (x : Nm) : List Nm → List Nm
  | [] => [x]
  | y :: t => if x.data.toList < y.data.toList then x :: y :: t else if x = y then y :: t else y :: insN x t
theorem insN_mem (x z : Nm) : ∀ l, z ∈ insN x l ↔ z = x ∨ z ∈ l
  | [] => by simp [insN]
  | y :: t => by
    unfold insN
    by_cases h1 : x.data.toList < y.data.toList
    · rw [if_pos h1, List.mem_cons]
    · rw [if_neg h1]
      by_cases h2 : x = y
      · rw [if_pos h2]
        subst h2
        simp
      · rw [if_neg h2, List.mem_cons, insN_mem x z t, List.mem_cons]
        constructor
        · rintro (q | q | q)
          · exact .inr (.inl q)
          · exact .inl q
          · exact .inr (.inr q)
        · rintro (q | q | q)
          · exact .inr (.inl q)
          · exact .inl q
          · exact .inr (.inr q)
theorem insN_up (x : Nm) : ∀ l : List Nm, (l.Pairwise fun x y => x.data.toList < y.data.toList) → (insN x l).Pairwise fun x y => x.data.toList < y.data.toList
  | [], _ => by simp [insN]
  | y :: t, h => by
    rw [List.pairwise_cons] at h
    unfold insN
    by_cases h1 : x.data.toList < y.data.toList
    · rw [if_pos h1, List.pairwise_cons]
      refine ⟨fun z hz => ?_, List.pairwise_cons.2 h⟩
      rcases List.mem_cons.1 hz with rfl | q
      · exact h1
      · exact List.lt_trans h1 (h.1 z q)
    · rw [if_neg h1]
      by_cases h2 : x = y
      · rw [if_pos h2]; exact List.pairwise_cons.2 h
      · rw [if_neg h2, List.pairwise_cons]
        refine ⟨fun z hz => ?_, insN_up x t h.2⟩
        rcases (insN_mem x z t).1 hz with rfl | q
        · exact lt_tri h1 h2
        · exact h.1 z q
theorem ris_ex : ∀ L : List Nm, ∃ l, Ris l L
  | [] => ⟨[], List.Pairwise.nil, fun _ => Iff.rfl⟩
  | x :: r => by
    obtain ⟨l, h⟩ := ris_ex r
    exact ⟨insN x l, insN_up x l h.up, fun z => by rw [insN_mem, List.mem_cons, h.mem]⟩
theorem infoS : (Try.prog.info? 9).map (fun i => (i.zero, i.size, i.bytes)) = some (some (.string ⟨#[]⟩), 1, 16) := by kernel_rfl
theorem info_parts2 {e : TypeId} {z : Value} {s b : Nat} (h : (Try.prog.info? e).map (fun i => (i.zero, i.size, i.bytes)) = some (some z, s, b)) : ∃ i, Try.prog.info? e = some i ∧ i.zero = some z ∧ i.size = s ∧ i.bytes = b := by
  obtain ⟨i, hi, e⟩ := Option.map_eq_some_iff.1 h
  injection e with e1 e2
  injection e2 with e2 e3
  exact ⟨i, hi, e1, e2, e3⟩
/-- A NAME BEHIND THE OTHERS. -/
theorem row_app {w wr : World} {lo : Nat} {s : Value} {l : List Nm} (h : wr.ownsRow lo 9 1 s l.length (sv l)) (hb : Below lo w wr) (hlo : lo ≤ wr.heap.size) (hl : l.length ≤ 4194400) (x : Nm) (ty : TypeId) :
    ∃ g cap w9, (Builtin.append_ #[28, 28] ty #[s, .slice (some ⟨wr.heap.size, 0, none⟩) 1 1]).run Try.prog (wr.alloc (.cells #[.string x] 9)) = .ok (.slice (some ⟨g, 0, none⟩) (l.length + 1) cap) w9 ∧
      w9.ownsRow lo 9 1 (.slice (some ⟨g, 0, none⟩) (l.length + 1) cap) (l.length + 1) (sv (l ++ [x])) ∧ Below lo w w9 ∧ (wr.alloc (.cells #[.string x] 9)).grownBy w9 s.ownBlock ∧ (s.ownBlock = some g ∨ g = (wr.alloc (.cells #[.string x] 9)).heap.size) := by
  obtain ⟨i0, hi0, hz0, hz1, hz2⟩ := info_parts2 infoS
  have hb2 : Below wr.heap.size wr (wr.alloc (.cells #[.string x] 9)) := (Below.refl _ wr).alloc (Nat.le_refl _) _
  obtain ⟨g, cap, w9, hr, ho, hg, hgg, _⟩ := run_append_lies (P := Try.prog) (wr.alloc (.cells #[.string x] 9)) 28 ty lo 9 i0 (.string ⟨#[]⟩) 1 16 Try.underlying28 hi0 hz0 hz1 hz2 rfl (by decide) s l.length (sv l) (own_low h hb2) ⟨wr.heap.size, 0, none⟩ 1 1 [.string x] rfl
    (fun j u hj => by rw [Addr.add_mid, Nat.zero_add, World.cell?_alloc_new]; simpa using hj) (fun u hu => by rw [List.mem_singleton] at hu; subst hu; rfl) (by decide) (by unfold maxLen; omega) (by omega) (Nat.le_trans hlo hb2.size) _ rfl
  refine ⟨g, cap, w9, hr, by unfold sv at ho ⊢; rw [List.map_append]; exact ho, ?_, hg, hgg⟩
  exact (hb.trans (hb2.mono hlo)).grown hg (Nat.le_trans hlo hb2.size) fun k e => (World.ownsRow.lt h k e).1
end Go.Proofs.Ytboajcpfoejfeaa
