import Derived.Test.YtcebpdcijpgkjaaGreatDoorZc20
import Derived.Laws.AppendOwn
import Derived.Test.YtcebpdcijpgkjaaGreatDoorZc19
import Derived.RegionTactic
import Derived.Deep.RegionHeld3
import Derived.Laws.MakeOwn
import Derived.MapKept
import Derived.Shelf.Spec.SlicesGrow
import Derived.Test.YtcebpdcijpgkjaaGreatDoorProg
import Derived.Laws.AppendOwnNone
import Derived.Deep.RegionLaw
import Derived.Deep.Cut
import Derived.Deep.QuietTactic
import Derived.BigQuiet
import Derived.BigRegion
import Derived.Deep.CutRange
import Derived.Great.BuildSlice
namespace Go.Proofs.YtcebpdcijpgkjaaGreatDoor
open Go.RowKit Go.Maps

/-- THE FAULTS WHILE THEY GROW. -/
structure Fs (W wr : World) (s : Value) (l : List Ft) : Prop where
  row : wr.ownsRow W.heap.size 31 6 s l.length (ftC l)
  bw : RowKit.Below W.heap.size W wr
theorem Fs.start (W : World) : Fs W W (.slice none 0 0) [] := ⟨⟨rfl, .inl ⟨rfl, rfl⟩⟩, Below.refl _ _⟩
theorem Fs.later {W wr w2 : World} {s : Value} {l : List Ft} (h : Fs W wr s l) (hb : RowKit.Below wr.heap.size wr w2) : Fs W w2 s l := ⟨own_same h.row fun b e => hb.block b (World.ownsRow.lt h.row b e).2, bl_t h.bw hb⟩
theorem Fs.grow {W wr w9 : World} {s v' : Value} {l : List Ft} {f : Ft} {o : Obj} (h : Fs W wr s l) (hown : w9.ownsRow W.heap.size 31 6 v' (l.length + 1) (ftC l ++ f.cs)) (hg : (wr.alloc o).grownBy w9 s.ownBlock) : Fs W w9 v' (l ++ [f]) := by
  refine ⟨?_, (h.bw.alloc h.bw.size o).grown hg ?_ fun j e => (World.ownsRow.lt h.row j e).1⟩
  · rw [List.length_append, ftC_snoc]
    exact hown
  · have := h.bw.size
    rw [World.size_alloc]
    omega
end Go.Proofs.YtcebpdcijpgkjaaGreatDoor

namespace Go.Proofs.YtcebpdcijpgkjaaGreatDoor
open Go.RowKit Go.Maps

theorem row_lo2 {w : World} {lo lo2 e size n : Nat} {v : Value} {xs : List Value} (h : w.ownsRow lo e size v n xs) (hl : lo2 ≤ lo) : w.ownsRow lo2 e size v n xs := by
  refine ⟨h.1, ?_⟩
  rcases h.2 with h | ⟨g, cap, cur, e, h1, h2, h3⟩
  · exact .inl h
  · exact .inr ⟨g, cap, cur, e, Nat.le_trans hl h1, h2, h3⟩
end Go.Proofs.YtcebpdcijpgkjaaGreatDoor

namespace Go.Proofs.YtcebpdcijpgkjaaGreatDoor
open Go.RowKit Go.Maps

/-- A MAP OF VALUES BY NAME, AS IT LIES. -/
structure RepV (D : DataW Value) (H : Nm → Option Value) : Prop where
  has : ∀ x : Nm, x.size ≤ maxLen → Maps.has D (kl x) = (H x).isSome
  at_ : ∀ x : Nm, x.size ≤ maxLen → ∀ z, D.atKey (kl x) z = match H x with | some h => .held h | none => z
theorem RepV.start : RepV (.map []) (fun _ => none) := ⟨fun _ _ => rfl, fun _ _ _ => rfl⟩
theorem RepV.put {D : DataW Value} {H : Nm → Option Value} (r : RepV D H) (hD : IsMap D) {x : Nm} (h : Value) : RepV (D.put (kl x) (.held h)) (up H x (some h)) := by
  refine ⟨fun y hy => ?_, fun y hy z => ?_⟩
  · by_cases e : y = x
    · subst e
      rw [has_put_same hD (show WideAt.IsKeyLit (kl y) from trivial), up_same]
      rfl
    · rw [has_put_other (fun q => e (kl_inj q)), up_other _ _ e, r.has y hy]
  · by_cases e : y = x
    · subst e
      rw [atKey_put_same hD (show WideAt.IsKeyLit (kl y) from trivial), up_same]
    · rw [atKey_put_other (fun q => e (kl_inj q)), up_other _ _ e, r.at_ y hy]
def Dv (W : World) (b : Nat) (H : Nm → Option Value) (k : Nat) : Prop := ∃ D, W.ownsMap Tryz.prog 9 raw b k D ∧ RepV D H
theorem Dv.lt {W : World} {b : Nat} {H : Nm → Option Value} {k : Nat} (h : Dv W b H k) : b < W.heap.size := let ⟨_, o, _⟩ := h; o.lt
theorem Dv.same {W W2 : World} {b : Nat} {H : Nm → Option Value} {k : Nat} (h : Dv W b H k) (hb : W2.heap[b]? = W.heap[b]?) : Dv W2 b H k := by
  obtain ⟨D, ⟨es, clock, h1, h2⟩, r⟩ := h
  exact ⟨D, ⟨es, clock, hb.trans h1, h2⟩, r⟩
theorem Dv.later {W W2 : World} {b : Nat} {H : Nm → Option Value} {k : Nat} (h : Dv W b H k) (hb : Below W.heap.size W W2) : Dv W2 b H k := h.same (hb.block b h.lt)
theorem Dv.make (W : World) : Dv (W.alloc (.map #[] 0)) W.heap.size (fun _ => none) 0 := ⟨_, World.ownsMap_made W Tryz.prog 9 raw, RepV.start⟩
/-- WHERE A FILE STANDS. -/
def spV (t : Nat × Nat) : Value := .agg #[.int .i64 (t.1 : Int), .int .i64 (t.2 : Int)]
/-- THE PATH OF A FILE. -/
def pathC (cs : List Value) : Nm := match (cs[0]? : Option Value) with | some (.string s) => s | _ => ⟨#[]⟩
/-- A PACKAGE'S SPOTS, AND THOSE OF ALL. -/
def spQ (p : Nat) (fs : List (List Value)) : List (Nm × Nat × Nat) := fs.zipIdx.map fun x => (pathC x.1, p, x.2)
def spL (ps : List Pk) : Nat → List (Nm × Nat × Nat)
  | 0 => []
  | i + 1 => spL ps i ++ (match ps[i]? with | some q => spQ i q.fs | none => [])
def fst1 (L : List (Nm × Nat × Nat)) (x : Nm) : Option (Nat × Nat) := (L.find? fun t => decide (t.1 = x)).map (·.2)
def fsH (L : List (Nm × Nat × Nat)) (x : Nm) : Option Value := (fst1 L x).map spV
end Go.Proofs.YtcebpdcijpgkjaaGreatDoor

namespace Go.Proofs.YtcebpdcijpgkjaaGreatDoor
open Go.RowKit Go.Maps Go.Shelf
attribute [local go_sem] Oper.semAt_some
attribute [local simp] wide_fn
attribute [local go_sem] wide_fn

/-- THE BLOCKS OF unmet. -/
structure Un (w Z : World) (C : Array Value) (p : Int) (s : Value) (l : List Ft) : Prop where
  b0 : Z.heap[w.heap.size]? = some (.cells C 66 (0, 0))
  b1 : Z.heap[w.heap.size + 1]? = some (.cells #[.int .i64 p] 3 (0, 0))
  b2 : Z.heap[w.heap.size + 2]? = some (.cells #[s] 24 (0, 0))
  row : Z.ownsRow (w.heap.size + 3) 31 6 s l.length (ftC l)
  bw : RowKit.Below w.heap.size w Z
theorem Un.turn {w X Y : World} {C : Array Value} {p : Int} {s : Value} {l : List Ft} {B : Nat} {row : Option Nat} (h : Un w X C p s l) (hg : X.grownBy Y row) (hr : ∀ r, row = some r → B ≤ r ∧ ∃ o : Obj, X.heap[r]? = some o ∧ o.isCells = false) (hB : w.heap.size + 3 ≤ B) : Un w Y C p s l := by
  have ne : ∀ j, j < B → some j ≠ row := fun j hj e => by have := (hr j e.symm).1; omega
  have k : ∀ j o, j < B → X.heap[j]? = some o → Y.heap[j]? = some o := fun j o hj e => (hg.block j (blk_lt e) (ne j hj)).trans e
  refine ⟨k _ _ (by omega) h.b0, k _ _ (by omega) h.b1, k _ _ (by omega) h.b2, ⟨h.row.1, ?_⟩, hg.os.trans h.bw.os, hg.tape.trans h.bw.tape, hg.output.trans h.bw.output, Nat.le_trans h.bw.size hg.size, fun j hj => ?_⟩
  · rcases h.row.2 with z | ⟨g, cap, cur, h1, h2, h3, h4⟩
    · exact .inl z
    · refine .inr ⟨g, cap, cur, h1, h2, (hg.block g (blk_lt h3) fun e => ?_).trans h3, h4⟩
      obtain ⟨_, o, ho, hc⟩ := hr g e.symm
      rw [h3] at ho
      cases ho
      cases hc
  · have := h.bw.size
    exact (hg.block j (by omega) (ne j (by omega))).trans (h.bw.block j hj)
theorem Un.lt {w Z : World} {C : Array Value} {p : Int} {s : Value} {l : List Ft} (h : Un w Z C p s l) : w.heap.size + 3 ≤ Z.heap.size := blk_lt h.b2
theorem Un.later {w X Y : World} {C : Array Value} {p : Int} {s : Value} {l : List Ft} (h : Un w X C p s l) (hb : RowKit.Below X.heap.size X Y) : Un w Y C p s l := h.turn (B := X.heap.size) (grown_below hb) (fun k e => by cases e) h.lt
/-- One fault more, laid. -/
theorem Un.grow {w X w5 w9 : World} {C : Array Value} {p : Int} {s v' : Value} {l : List Ft} {f : Ft} {o : Obj} (h : Un w X C p s l) (hb : RowKit.Below X.heap.size X w5) (hown : w9.ownsRow (w.heap.size + 3) 31 6 v' (l.length + 1) (ftC l ++ f.cs)) (hg : (w5.alloc o).grownBy w9 s.ownBlock) (hob : ∀ b, v'.ownBlock = some b → b ≠ w.heap.size + 2) :
    Un w (w9.setCell ⟨w.heap.size + 2, 0, none⟩ v') C p v' (l ++ [f]) ∧ RowKit.Below w.heap.size X (w9.setCell ⟨w.heap.size + 2, 0, none⟩ v') ∧ ∀ c, c < X.heap.size → c ≠ w.heap.size + 2 → s.ownBlock ≠ some c → (w9.setCell ⟨w.heap.size + 2, 0, none⟩ v').heap[c]? = X.heap[c]? := by
  have hz := h.lt
  have h5 := h.later hb
  have hz5 := hb.size
  have ne : ∀ j, j < w.heap.size + 3 → some j ≠ s.ownBlock := fun j hj e => by have := (World.ownsRow.lt h.row j e.symm).1; omega
  have k9 : ∀ j, j < w5.heap.size → some j ≠ s.ownBlock → w9.heap[j]? = w5.heap[j]? := fun j hj e => (hg.block j (by rw [World.size_alloc]; omega) e).trans (Below.heap_alloc _ _ _ hj)
  have k : ∀ j o, j < w.heap.size + 3 → j ≠ w.heap.size + 2 → w5.heap[j]? = some o → (w9.setCell ⟨w.heap.size + 2, 0, none⟩ v').heap[j]? = some o := fun j o hj hn e => (set_other w9 _ 0 v' j hn).trans ((k9 j (blk_lt e) (ne j hj)).trans e)
  have hb9 : RowKit.Below w.heap.size w w9 := (h5.bw.alloc h5.bw.size o).grown hg (by have := h5.bw.size; rw [World.size_alloc]; omega) fun j e => by have := (World.ownsRow.lt h.row j e).1; omega
  have hX9 : RowKit.Below w.heap.size X w9 := ((hb.mono h.bw.size).alloc (Nat.le_trans h.bw.size hz5) o).grown hg (by rw [World.size_alloc]; have := h.bw.size; omega) fun j e => by have := (World.ownsRow.lt h.row j e).1; omega
  refine ⟨⟨k _ _ (by omega) (by omega) h5.b0, k _ _ (by omega) (by omega) h5.b1, set_blk ((k9 _ (by omega) (ne _ (by omega))).trans h5.b2) 0 v', ?_, hb9.setCell (p := ⟨w.heap.size + 2, 0, none⟩) (by show w.heap.size ≤ w.heap.size + 2; omega) _⟩, hX9.setCell (p := ⟨w.heap.size + 2, 0, none⟩) (by show w.heap.size ≤ w.heap.size + 2; omega) _, fun c hc hn hs => ?_⟩
  · rw [List.length_append, ftC_snoc]
    exact own_same hown fun b e => set_other w9 _ 0 v' b (hob b e)
  · exact (set_other w9 _ 0 v' c hn).trans ((k9 c (by omega) (fun e => hs e.symm)).trans (hb.block c hc))
end Go.Proofs.YtcebpdcijpgkjaaGreatDoor

namespace Go.Proofs.YtcebpdcijpgkjaaGreatDoor
open Go.RowKit Go.Maps Go.Shelf
attribute [local go_sem] Oper.semAt_some
attribute [local simp] wide_fn
attribute [local go_sem] wide_fn

theorem getD_mem {l : List (List At)} {i : Nat} (h : i < l.length) : l.getD i [] ∈ l := by
  rw [List.getD_eq_getElem?_getD, List.getElem?_eq_getElem h]
  exact List.getElem_mem h
theorem four {W : World} {g : Nat} {v0 v1 v2 v3 : Value} {t : TypeId} (h : W.heap[g]? = some (.cells #[v0, v1, v2, v3] t (0, 0))) : W.cell? ⟨g, 0, none⟩ = some v0 ∧ W.cell? ⟨g, 1, none⟩ = some v1 ∧ W.cell? ⟨g, 2, none⟩ = some v2 ∧ W.cell? ⟨g, 3, none⟩ = some v3 :=
  ⟨(cell_blk h 0).1, (cell_blk h 1).1, (cell_blk h 2).1, (cell_blk h 3).1⟩
theorem row_not {w : World} {base e size n : Nat} {v : Value} {xs : List Value} (h : w.ownsRow base e size v n xs) {c : Nat} {o : Obj} (ho : w.heap[c]? = some o) (hn : ∀ cs, o ≠ .cells cs e (0, 0)) : v.ownBlock ≠ some c := fun q => by
  rcases h.2 with ⟨h1, _⟩ | ⟨g, cap, cur, h1, _, h3, _⟩
  · rw [h1] at q; cases q
  · rw [h1] at q
    cases q
    rw [ho] at h3
    cases h3
    exact hn _ rfl
end Go.Proofs.YtcebpdcijpgkjaaGreatDoor

namespace Go.Proofs.YtcebpdcijpgkjaaGreatDoor
open Go.RowKit Go.Maps

/-- THE INNER LOOP'S STATE. -/
structure Ci (W1 w7 wq : World) (lo : Nat) (sv : Value) (l : List Ft) : Prop where
  fs : Fs W1 wq sv l
  kp : ∀ b, lo ≤ b → b < w7.heap.size → wq.heap[b]? = w7.heap[b]?
  sz : w7.heap.size ≤ wq.heap.size
  ob : ∀ b, sv.ownBlock = some b → b < lo ∨ w7.heap.size ≤ b
theorem Ci.later {W1 w7 wq X : World} {lo : Nat} {sv : Value} {l : List Ft} (h : Ci W1 w7 wq lo sv l) (hb : RowKit.Below wq.heap.size wq X) : Ci W1 w7 X lo sv l :=
  ⟨h.fs.later hb, fun b h1 h2 => (hb.block b (Nat.lt_of_lt_of_le h2 h.sz)).trans (h.kp b h1 h2), Nat.le_trans h.sz hb.size, h.ob⟩
theorem Ci.grow {W1 w7 wq w9 : World} {lo : Nat} {sv v' : Value} {l : List Ft} {f : Ft} {o : Obj} (h : Ci W1 w7 wq lo sv l) (hown : w9.ownsRow W1.heap.size 31 6 v' (l.length + 1) (ftC l ++ f.cs)) (hg : (wq.alloc o).grownBy w9 sv.ownBlock) (hat : v'.ownBlock = sv.ownBlock ∨ v'.ownBlock = some (wq.alloc o).heap.size) : Ci W1 w7 w9 lo v' (l ++ [f]) := by
  have hs := hg.size
  rw [World.size_alloc] at hs hat
  refine ⟨h.fs.grow hown hg, fun b h1 h2 => ?_, by have := h.sz; omega, fun b e => ?_⟩
  · have hb := h.sz
    refine (hg.block b (by rw [World.size_alloc]; omega) fun e => ?_).trans ((Below.heap_alloc _ _ _ (by omega)).trans (h.kp b h1 h2))
    rcases h.ob b e.symm with q | q <;> omega
  · rcases hat with q | q
    · rw [q] at e; exact h.ob b e
    · rw [q] at e
      injection e with e
      have := h.sz
      right
      omega
end Go.Proofs.YtcebpdcijpgkjaaGreatDoor

namespace Go.Proofs.YtcebpdcijpgkjaaGreatDoor
open Go.RowKit Go.Maps

theorem zeroE0 (w : World) : (zeroValue 107).run Tryz.prog w = .ok (.agg #[]) w := by kernel_rfl
set_option maxRecDepth 100000 in
theorem lookE {w : World} {b : Nat} (hb : w.heap[b]? = some (.map #[] 0)) (n v : Nm) : (Instr.lookup 110 (.map (some b)) (.agg #[.string n, .string v]) true).run Tryz.prog w = .ok (.tuple #[.agg #[], .bool false]) w := by
  have h1 : (Instr.checkKey true 10000 29 (.agg #[.string n, .string v])).run Tryz.prog w = .ok () w := by
    kernel_rfl
  have h2 : (getObj b).run Tryz.prog w = .ok (.map #[] 0) w := by simp [getObj, Sem.run, hb]
  have h3 : (Instr.findKey 29 (.agg #[.string n, .string v]) []).run Tryz.prog w = .ok none w := by kernel_rfl
  simp [Instr.lookup, go_sem, run_underlying Tryz.underlying110, h2, h1, h3]
theorem infoBo : (Tryz.prog.info? 4).map (fun i => (i.zero, i.size, i.bytes)) = some (some (.bool false), 1, 1) := by kernel_rfl
theorem makeBl (n : Nat) (hn : n ≤ 262144) (u : World) : (Instr.makeSlice 63 (.int .i64 (n : Int)) (.int .i64 (n : Int))).run Tryz.prog u = .ok (.slice (some ⟨u.heap.size, 0, none⟩) n n) (u.alloc (.cells (madeCells #[.bool false] n) 4)) := by
  obtain ⟨i0, hi, hz0, hz1, hz2⟩ := info_parts2 infoBo
  have h := run_make (P := Tryz.prog) u 63 4 i0 (.bool false) Tryz.underlying63 hi hz0 .i64 .i64 (n : Int) (n : Int) (by omega) (Int.le_refl _) (by rw [hz2]; omega) (by omega)
  simpa [hz1, Value.cells] using h
/-- YES AND NO IN A BLOCK. -/
structure Bb (W : World) (g n : Nat) (f : Nat → Bool) : Prop where
  blk : ∃ cur : Array Value, W.heap[g]? = some (.cells cur 4 (0, 0)) ∧ ∀ i, i < n → cur[i]? = some (.bool (f i))
theorem Bb.cell {W : World} {g n : Nat} {f : Nat → Bool} (h : Bb W g n f) {i : Nat} (hi : i < n) : W.cell? ⟨g, i, none⟩ = some (.bool (f i)) ∧ W.frozen? ⟨g, i, none⟩ = false := by
  obtain ⟨cur, h1, h2⟩ := h.blk
  exact ⟨(cell_blk h1 i).1.trans (h2 i hi), (cell_blk h1 i).2⟩
theorem Bb.lt {W : World} {g n : Nat} {f : Nat → Bool} (h : Bb W g n f) : g < W.heap.size := let ⟨_, h1, _⟩ := h.blk; blk_lt h1
theorem Bb.later {W X : World} {g n : Nat} {f : Nat → Bool} (h : Bb W g n f) (hb : RowKit.Below W.heap.size W X) : Bb X g n f := by
  obtain ⟨cur, h1, h2⟩ := h.blk
  exact ⟨cur, (hb.block _ (blk_lt h1)).trans h1, h2⟩
theorem Bb.set {W : World} {g n : Nat} {f : Nat → Bool} (h : Bb W g n f) {j : Nat} (hj : j < n) (b : Bool) : Bb (W.setCell ⟨g, j, none⟩ (.bool b)) g n (fun i => if i = j then b else f i) := by
  obtain ⟨cur, h1, h2⟩ := h.blk
  refine ⟨_, set_blk h1 j (.bool b), fun i hi => ?_⟩
  have hjc : j < cur.size := (Array.getElem?_eq_some_iff.1 (h2 j hj)).1
  by_cases e : i = j
  · subst e
    rw [if_pos rfl, Array.getElem?_setIfInBounds_self_of_lt hjc]
  · rw [if_neg e, Array.getElem?_setIfInBounds_ne (fun q => e q.symm)]
    exact h2 i hi
theorem bb_new (u : World) (n : Nat) : Bb (u.alloc (.cells (madeCells #[.bool false] n) 4)) u.heap.size n (fun _ => false) := by
  refine ⟨_, World.alloc_heap_new u _, fun i hi => ?_⟩
  rw [← Array.getElem?_toList, toList_madeCells_one, List.getElem?_replicate, if_pos hi]
theorem makeMk (u : World) : (Instr.makeMap 110 (some (.int .i64 0))).run Tryz.prog u = .ok (.map (some u.heap.size)) (u.alloc (.map #[] 0)) := by
  simp [Instr.makeMap, go_sem]
/-- THE PART WHILE IT IS MADE. -/
structure Wo (w wr : World) (n p : Nat) : Prop where
  m : wr.heap[w.heap.size]? = some (.map #[] 0)
  b : Bb wr (w.heap.size + 1) n (fun i => decide (i < p))
  bw : RowKit.Below w.heap.size w wr
theorem Wo.later {w wr X : World} {n p : Nat} (h : Wo w wr n p) (hb : RowKit.Below wr.heap.size wr X) : Wo w X n p := ⟨(hb.block _ (blk_lt h.m)).trans h.m, h.b.later hb, bl_t h.bw hb⟩
theorem Wo.set {w wr : World} {n p : Nat} (h : Wo w wr n p) (hp : p < n) : Wo w (wr.setCell ⟨w.heap.size + 1, p, none⟩ (.bool true)) n (p + 1) := by
  refine ⟨(set_other wr _ p (.bool true) _ (by omega)).trans h.m, ?_, h.bw.setCell (p := ⟨w.heap.size + 1, p, none⟩) (by show w.heap.size ≤ w.heap.size + 1; omega) _⟩
  have := h.b.set hp true
  rw [show (fun i => decide (i < p + 1)) = (fun i => if i = p then true else decide (i < p)) from by
    funext i
    by_cases e : i = p
    · simp [e]
    · rw [if_neg e]
      exact decide_eq_decide.2 (by omega)]
  exact this
theorem wo_new (w : World) (n : Nat) : Wo w ((w.alloc (.map #[] 0)).alloc (.cells (madeCells #[.bool false] n) 4)) n 0 := by
  have hz : (w.alloc (.map #[] 0)).heap.size = w.heap.size + 1 := World.size_alloc _ _
  have b1 : RowKit.Below w.heap.size w (w.alloc (.map #[] 0)) := (Below.refl _ w).alloc (Nat.le_refl _) _
  have b2 : RowKit.Below (w.alloc (.map #[] 0)).heap.size (w.alloc (.map #[] 0)) ((w.alloc (.map #[] 0)).alloc (.cells (madeCells #[.bool false] n) 4)) := (Below.refl _ _).alloc (Nat.le_refl _) _
  refine ⟨(b2.block _ (by omega)).trans (World.alloc_heap_new w _), ?_, bl_t b1 b2⟩
  have := bb_new (w.alloc (.map #[] 0)) n
  rw [hz] at this
  rw [show (fun i => decide (i < 0)) = (fun _ : Nat => false) from by funext i; simp]
  exact this
end Go.Proofs.YtcebpdcijpgkjaaGreatDoor

namespace Go.Proofs.YtcebpdcijpgkjaaGreatDoor
open Go.RowKit Go.Maps

theorem Dv.mono {W : World} {b : Nat} {H : Nm → Option Value} {k k2 : Nat} (h : Dv W b H k) (hk : k ≤ k2) : Dv W b H k2 := let ⟨D, o, r⟩ := h; ⟨D, o.mono hk, r⟩
theorem Bls.same {W X : World} {v : Value} {f : Nat → Bool} {n g : Nat} {u : Value} (h : Bls W v f n) (hg : W.cell? ⟨g, 0, none⟩ = some u) (hu : ∀ b, u ≠ .bool b) (hs : W.heap.size ≤ X.heap.size) (hX : ∀ b, b < W.heap.size → b ≠ g → X.heap[b]? = W.heap[b]?) : Bls X v f n := by
  obtain ⟨a, c, h1, h2⟩ := h
  refine ⟨a, c, h1, fun h0 => ?_⟩
  obtain ⟨b, h3, h4, h5⟩ := h2 h0
  have hne : b ≠ g := fun e => by
    have := h5 0 h0
    rw [e, hg] at this
    injection this with this
    exact hu _ this
  refine ⟨b, h3, Nat.lt_of_lt_of_le h4 hs, fun i hi => ?_⟩
  have e := h5 i hi
  unfold World.cell? at e ⊢
  rw [show X.heap[(⟨b, i, none⟩ : Addr).block]? = W.heap[(⟨b, i, none⟩ : Addr).block]? from hX b h4 hne]
  exact e
/-- THE CHECK WHILE IT IS MADE. -/
structure Co (wm wr : World) (C : Array Value) (L : List (Nm × Nat × Nat)) : Prop where
  c : wr.heap[wm.heap.size + 1]? = some (.cells C 66 (0, 0))
  m : Dv wr wm.heap.size (fsH L) L.length
  bw : RowKit.Below wm.heap.size wm wr
theorem Co.later {wm wr X : World} {C : Array Value} {L : List (Nm × Nat × Nat)} (h : Co wm wr C L) (hb : RowKit.Below wr.heap.size wr X) : Co wm X C L := ⟨(hb.block _ (blk_lt h.c)).trans h.c, h.m.later hb, bl_t h.bw hb⟩
/-- THE CHECK, AS IT LIES. -/
structure Ck (W : World) (v : Value) (b1 b2 b3 : Nat) (av : Value) (ps : List Pk) : Prop where
  pk : Pkl W v ps
  st : ∃ xs base H1 H2 k1 k2, Sim xs ps ∧ Pks W v xs ∧ Mi W base (.map (some b1)) H1 (nmP xs xs.length) k1 ∧ Mi W base (.map (some b2)) H2 (pvP xs xs.length) k2
  al : Bls W av (fun _ => true) ps.length
  fs : ∃ k, Dv W b3 (fsH (spL ps ps.length)) k
theorem Ck.later {W X : World} {v : Value} {b1 b2 b3 : Nat} {av : Value} {ps : List Pk} (h : Ck W v b1 b2 b3 av ps) (hb : RowKit.Below W.heap.size W X) : Ck X v b1 b2 b3 av ps := by
  obtain ⟨xs, base, H1, H2, k1, k2, s1, s2, s3, s4⟩ := h.st
  obtain ⟨k, hk⟩ := h.fs
  exact ⟨h.pk.later hb, ⟨xs, base, H1, H2, k1, k2, s1, s2.later hb, s3.later hb, s4.later hb⟩, h.al.later hb, k, hk.later hb⟩
end Go.Proofs.YtcebpdcijpgkjaaGreatDoor

namespace Go.Proofs.YtcebpdcijpgkjaaGreatDoor
open Go.RowKit Go.Maps

theorem mP_at {ps : List Pk} {i : Nat} {q : Pk} (h : ps[i]? = some q) (a : At) : mP ps a i = meetsA a.n a.op a.v q.nm q.vr q.pv := by unfold mP; rw [h]
theorem imP_yes {ps : List Pk} {inn : Nat → Bool} {but : Int} {al : List At} {i : Nat} {a : At} (ha : a ∈ al) (hm : mP ps a i = true) (hh : hitP inn but i = true) : imP ps inn but al = true := by
  unfold imP
  rw [List.any_eq_true]
  refine ⟨a, ha, ?_⟩
  rw [List.any_eq_true]
  exact ⟨i, List.mem_range.2 (mP_lt hm), by rw [hm, hh]; rfl⟩
theorem imP_no {ps : List Pk} {inn : Nat → Bool} {but : Int} {al : List At} (h : ∀ i, i < ps.length → ∀ a ∈ al, (mP ps a i && hitP inn but i) = false) : imP ps inn but al = false := by
  unfold imP
  rw [List.any_eq_false]
  intro a ha
  rw [Bool.not_eq_true, List.any_eq_false]
  intro i hi
  rw [h i (List.mem_range.1 hi) a ha]
  decide
end Go.Proofs.YtcebpdcijpgkjaaGreatDoor

namespace Go.Proofs.YtcebpdcijpgkjaaGreatDoor
open Go.RowKit Go.Maps

/-- ALL CLAUSES OF EACH PACKAGE ARE MET. -/
def Cl1 (ps : List Pk) (i : Nat) (q : Pk) : Prop := (∀ al ∈ q.dp, imP ps (fun _ => true) (-1) al = true) ∧ (∀ al ∈ q.pr, imP ps (fun _ => true) (i : Int) al = true)
end Go.Proofs.YtcebpdcijpgkjaaGreatDoor

namespace Go.Proofs.YtcebpdcijpgkjaaGreatDoor
open Go.RowKit Go.Maps

def sAA : ByteArray := ⟨#[97, 97]⟩
def sBB : ByteArray := ⟨#[98, 98]⟩
def sOne : ByteArray := ⟨#[49]⟩
/-- THE LITERAL PACKAGES. -/
def litC (n : ByteArray) (d : Value) : List Value := [.string n, .string sOne, .bool false, d, .slice none 0 0, .slice none 0 0, .slice none 0 0, .slice none 0 0, .string ⟨#[]⟩, .int .i64 0] ++ (List.replicate 32 (.int .u8 0) ++ [.string ⟨#[]⟩])
section
variable {ops : Array Oper} {rest : List Oper} {o : Oper} {a : Act} {w : World} {Q : Exit → Act → World → Prop}
theorem p_build (parts : Array (Nat × Operand)) (ho : o.op = .build 46 parts) (hg : o.guard = none) (cs : List Value) (hb : Tryz.prog.built 46 (parts.map fun (i, x) => (i, a.eval x)).toList = some cs.toArray)
    (h : wpList Tryz.prog ops Q rest (a.put o.dst (.agg cs.toArray)) w) : wpList Tryz.prog ops Q (o :: rest) a w :=
  wpList_build hg _ parts ho (by rw [hb]; rfl) (by rw [hb]; exact h)
/-- A SLICE OF SOME PACKAGES. -/
theorem p_sl (L : List (List Value)) (hL : ∀ l ∈ L, l.length = 43) (h0 : 0 < L.length) (h1 : L.length ≤ 1000) (parts : Array (Nat × Operand)) (ho : o.op = .buildSlice 22 L.length parts) (hw : Region.wanted o (yielded ops a.tmps) = true)
    (hp : (parts.map fun (i, x) => (i, a.eval x)).toList = ((L.map fun l => Value.agg l.toArray).zipIdx 0).map fun x => (x.2, x.1))
    (h : ∀ w2, (∀ (i : Nat) (l : List Value), L[i]? = some l → w2.rangeAt w.heap.size (i * 43) l) → Below w.heap.size w w2 → w.heap.size < w2.heap.size → wpList Tryz.prog ops Q rest (a.put o.dst (.slice (some ⟨w.heap.size, 0, none⟩) L.length L.length)) w2) : wpList Tryz.prog ops Q (o :: rest) a w := by
  refine BigFrame.wpList_want hw fun K hK => ?_
  obtain ⟨zc, i1, i2, i3⟩ := infoP
  cases hie : Tryz.prog.info? 46 with
  | none => rw [hie] at i1; cases i1
  | some ie =>
    rw [hie] at i1
    simp only [Option.map_some, Option.some.injEq, Prod.mk.injEq] at i1
    obtain ⟨hz, hs⟩ := i1
    obtain ⟨r, hr, hsz, hk⟩ := Great.fill_dense (s := 43) (by decide) (L.map fun l => Value.agg l.toArray) 0 ((Array.range (L.length * 43)).map ((Value.agg zc.toArray).cells[· % (Value.agg zc.toArray).cells.size]!)) (fun v hv => by obtain ⟨l, hl, rfl⟩ := List.mem_map.1 hv; simp [Value.cells, hL l hl]) (by simp)
    refine wp_buildSlice 22 46 L.length parts ho r ie (.agg zc.toArray) Tryz.underlying22 hie hz (by rw [hs]; omega) (by rw [hs]; omega) (by rw [hp, hs]; exact hr) (hK _ _ ?_)
    refine h _ (fun i l hi => ?_) ((Below.refl _ _).alloc (Nat.le_refl _) _) (by simp)
    intro j v hj
    rw [World.cell?_alloc_new, hk]
    have hi2 := (List.getElem?_eq_some_iff.1 hi).1
    have hj2 := (List.getElem?_eq_some_iff.1 hj).1
    rw [hL l (List.mem_of_getElem? hi)] at hj2
    rw [if_pos ⟨by omega, by rw [List.length_map]; omega⟩, show (i * 43 + j) / 43 - 0 = i by omega, show (i * 43 + j) % 43 = j by omega, List.getElem?_map, hi]
    simpa [Value.cells] using hj
end
def pkL (n : ByteArray) (dp : List (List At)) : Pk := ⟨n, sOne, false, dp, [], [], [], [], ⟨#[]⟩, 0, List.replicate 32 (.int .u8 0), ⟨#[]⟩⟩
def atB : At := ⟨sBB, 0, ⟨#[]⟩⟩
end Go.Proofs.YtcebpdcijpgkjaaGreatDoor

namespace Go.Proofs.YtcebpdcijpgkjaaGreatDoor
open Go.RowKit Go.Maps

theorem meets_lit (n : ByteArray) : meetsA sBB 0 ⟨#[]⟩ n sOne [] = decide (n = sBB) := by
  unfold meetsA fitsA
  rw [if_pos rfl, Bool.and_true, show Lib.containsS [] sBB = false from (by rw [Bool.eq_false_iff]; intro h; have := (Lib.containsS_iff _ _).1 h; cases this), Bool.and_false, Bool.or_false]
  by_cases e : n = sBB
  · rw [toList_eq.2 e, decide_eq_true e]
  · rw [Bool.eq_false_iff.2 fun h => e (toList_eq.1 h), decide_eq_false e]
abbrev ps1 : List Pk := [pkL sAA [[atB]]]
theorem ab_ne : sAA ≠ sBB := by unfold sAA sBB; intro h; injection h with h; injection h with h; injection h with h; cases h
theorem mP_atB (ps : List Pk) (i : Nat) (n : ByteArray) (dp : List (List At)) (h : ps[i]? = some (pkL n dp)) : mP ps atB i = decide (n = sBB) := by
  rw [mP_at h]
  exact meets_lit n
theorem im1 : imP ps1 (fun _ => true) (-1) [atB] = false := imP_no fun i hi a ha => by
  obtain rfl : i = 0 := by simpa using hi
  obtain rfl : a = atB := by simpa using ha
  rw [mP_atB ps1 0 sAA [[atB]] rfl, decide_eq_false ab_ne]
  rfl
end Go.Proofs.YtcebpdcijpgkjaaGreatDoor

namespace Go.Proofs.YtcebpdcijpgkjaaGreatDoor
open Go.RowKit Go.Maps

section
variable {ops : Array Oper} {rest : List Oper} {o : Oper} {a : Act} {w : World} {Q : Exit → Act → World → Prop}
theorem p_sl1 (x : Operand) (ho : o.op = .buildSlice 22 1 #[(0, x)]) (hw : Region.wanted o (yielded ops a.tmps) = true) (c1 : List Value) (hx : a.eval x = .agg c1.toArray) (h1 : c1.length = 43)
    (h : ∀ w2, w2.rangeAt w.heap.size (0 + 0 * 43) c1 → Below w.heap.size w w2 → w.heap.size < w2.heap.size → wpList Tryz.prog ops Q rest (a.put o.dst (.slice (some ⟨w.heap.size, 0, none⟩) 1 1)) w2) : wpList Tryz.prog ops Q (o :: rest) a w :=
  p_sl [c1] (fun l hl => by simp at hl; subst hl; exact h1) (by simp) (by simp) _ ho hw (by simp [hx]) fun w2 hr hb hs => h w2 (by have := hr 0 c1 rfl; rwa [Nat.zero_mul, ← Nat.add_zero 0, ← Nat.zero_mul 43] at this) hb hs
end
/-- THE BLOCKS OF THE LITERAL CLAUSE. -/
def LitW (w : World) (g : Nat) : Prop := w.heap[g]? = some (.cells #[.string ⟨#[98, 98]⟩, .int .i64 0, .string ⟨#[]⟩] 48 (0, 0)) ∧ w.heap[g + 1]? = some (.cells #[.slice (some ⟨g, 0, none⟩) 1 1] 49 (0, 0))
theorem LitW.later {w w2 : World} {g : Nat} (h : LitW w g) (hb : Below w.heap.size w w2) : LitW w2 g := ⟨(hb.block _ (blk_lt h.1)).trans h.1, (hb.block _ (blk_lt h.2)).trans h.2⟩
abbrev cA (g : Nat) : List Value := litC sAA (.slice (some ⟨g + 1, 0, none⟩) 1 1)
abbrev cB : List Value := litC sBB (.slice none 0 0)
end Go.Proofs.YtcebpdcijpgkjaaGreatDoor

namespace Go.Proofs.YtcebpdcijpgkjaaGreatDoor
open Go.RowKit Go.Maps

/-- PACKAGES WHILE THEY ARE GATHERED. -/
structure Pw (W wr : World) (s : Value) (css : List (List Value)) : Prop where
  row : wr.ownsRow W.heap.size 46 43 s css.length css.flatten
  bw : RowKit.Below W.heap.size W wr
theorem Pw.start (W : World) : Pw W W (.slice none 0 0) [] := ⟨⟨rfl, .inl ⟨rfl, rfl⟩⟩, Below.refl _ _⟩
theorem Pw.later {W wr w2 : World} {s : Value} {l : List (List Value)} (h : Pw W wr s l) (hb : RowKit.Below wr.heap.size wr w2) : Pw W w2 s l := ⟨own_same h.row fun b e => hb.block b (World.ownsRow.lt h.row b e).2, bl_t h.bw hb⟩
theorem Pw.grow {W wr w9 : World} {s v' : Value} {l : List (List Value)} {c : List Value} (h : Pw W wr s l) (hown : w9.ownsRow W.heap.size 46 43 v' (l.length + 1) (l.flatten ++ c)) (hg : wr.grownBy w9 s.ownBlock) : Pw W w9 v' (l ++ [c]) := by
  refine ⟨?_, h.bw.grown hg h.bw.size fun j e => (World.ownsRow.lt h.row j e).1⟩
  rw [List.length_append, List.flatten_append, List.flatten_singleton]
  exact hown
theorem infoP3 : ∃ zc : List Value, (Tryz.prog.info? 46).map (fun i => (i.zero, i.size, i.bytes)) = some (some (.agg zc.toArray), 43, 232) ∧ zc.length = 43 :=
  ⟨((((Tryz.prog.info? 46).bind (·.zero)).map fun z => z.cells.toList).getD []), by kernel_rfl, by kernel_rfl⟩
theorem flat_atT {c : List Value} {j : Nat} {u : Value} : ∀ (css : List (List Value)) (i : Nat), (∀ c ∈ css, c.length = 43) → css[i]? = some c → c[j]? = some u → css.flatten[i * 43 + j]? = some u
  | [], i, _, h, _ => by simp at h
  | d :: css, 0, hl, h, hj => by
    simp at h
    subst h
    have := (List.getElem?_eq_some_iff.1 hj).1
    rw [List.flatten_cons, Nat.zero_mul, Nat.zero_add, List.getElem?_append_left this]
    exact hj
  | d :: css, i + 1, hl, h, hj => by
    have hd := hl d List.mem_cons_self
    rw [List.getElem?_cons_succ] at h
    have ih := flat_atT css i (fun c hc => hl c (List.mem_cons_of_mem _ hc)) h hj
    rw [List.flatten_cons, List.getElem?_append_right (by omega), hd, show (i + 1) * 43 + j - 43 = i * 43 + j by omega]
    exact ih
/-- THE CELLS OF PACKAGES BY PLACE. -/
def Cf (w : World) (b o : Nat) (ps : List Pk) (f : Nat → List Value) : Prop := b < w.heap.size ∧ ∀ (i : Nat) (q : Pk), ps[i]? = some q → w.rangeAt b (o + i * 43) (f i) ∧ ∃ d r c v g, PkC (f i) q d r c v g ∧ PkL w q d r c v g
theorem Pkl.cf {w : World} {va : Option Addr} {n vc : Nat} {ps : List Pk} (h : Pkl w (.slice va n vc) ps) (h0 : 0 < ps.length) : ∃ b o f, va = some ⟨b, o, none⟩ ∧ Cf w b o ps f := by
  obtain ⟨a, c, e, h2⟩ := h
  obtain ⟨b, o, rfl, h3, h4⟩ := h2 h0
  have hc : ∀ i, ∃ cs : List Value, ∀ q, ps[i]? = some q → w.rangeAt b (o + i * 43) cs ∧ ∃ d r c v g, PkC cs q d r c v g ∧ PkL w q d r c v g := fun i => by
    cases e : ps[i]? with
    | none => exact ⟨[], fun q hq => by cases hq⟩
    | some q =>
      obtain ⟨cs, d, r, c, v, g, k1, k2, k3⟩ := h4 i q e
      exact ⟨cs, fun q2 hq => by cases hq; exact ⟨k1, d, r, c, v, g, k2, k3⟩⟩
  obtain ⟨f, hf⟩ := Classical.axiomOfChoice hc
  injection e with e1
  exact ⟨b, o, f, e1, h3, hf⟩
theorem Cf.later {w w2 : World} {b o : Nat} {ps : List Pk} {f : Nat → List Value} (h : Cf w b o ps f) (hb : RowKit.Below w.heap.size w w2) : Cf w2 b o ps f :=
  ⟨Nat.lt_of_lt_of_le h.1 hb.size, fun i q hq => let ⟨k1, d, r, c, v, g, k2, k3⟩ := h.2 i q hq; ⟨range_bel k1 h.1 hb, d, r, c, v, g, k2, k3.later hb⟩⟩
/-- THE PACKAGE AT A PLACE. -/
def pAt (ps : List Pk) (i : Nat) : Pk := ps.getD i (pkL ⟨#[]⟩ [])
theorem pAt_at {ps : List Pk} {i : Nat} (h : i < ps.length) : ps[i]? = some (pAt ps i) := by
  unfold pAt
  rw [List.getD_eq_getElem?_getD, List.getElem?_eq_getElem h]
  rfl
/-- WHAT WAS GATHERED ARE PACKAGES. -/
theorem Pw.pkl {w W wr : World} {s : Value} {b o : Nat} {ps : List Pk} {f : Nat → List Value} {L : List Nat} (h : Pw W wr s (L.map f)) (hc : Cf w b o ps f) (hb : RowKit.Below w.heap.size w wr) (hL : ∀ i ∈ L, i < ps.length) : Pkl wr s (L.map (pAt ps)) := by
  have hlen : ∀ c ∈ L.map f, c.length = 43 := fun c hcm => by
    obtain ⟨i, hi, rfl⟩ := List.mem_map.1 hcm
    obtain ⟨_, d, r, c, v, g, k2, _⟩ := hc.2 i _ (pAt_at (hL i hi))
    exact k2.len
  rcases h.row.2 with ⟨q, q2⟩ | ⟨g, cap, cur, q, _, q3, _⟩
  · have hl0 : L = [] := by
      have : (L.map f).length = 0 := q2
      rw [List.length_map] at this
      exact List.length_eq_zero_iff.1 this
    subst hl0
    exact ⟨none, 0, by rw [q]; rfl, fun h => absurd h (by simp)⟩
  · rw [List.length_map] at q
    have hcell := h.row.cells (g := g) (by rw [q]; rfl)
    have hg := (World.ownsRow.lt h.row g (by rw [q]; rfl)).2
    refine ⟨some ⟨g, 0, none⟩, cap, by rw [List.length_map]; exact q, fun _ => ⟨g, 0, rfl, hg, fun i p hp => ?_⟩⟩
    rw [List.getElem?_map] at hp
    obtain ⟨k, hk, rfl⟩ := Option.map_eq_some_iff.1 hp
    have hkl := hL k (List.mem_of_getElem? hk)
    obtain ⟨_, d, r, c, v, g2, k2, k3⟩ := hc.2 k _ (pAt_at hkl)
    refine ⟨f k, d, r, c, v, g2, fun j u hj => ?_, k2, k3.later hb⟩
    rw [Nat.zero_add]
    have h9 := hcell _ _ (flat_atT (L.map f) i hlen (by rw [List.getElem?_map, hk]; rfl) hj)
    rw [Addr.add_mid, Nat.zero_add] at h9
    exact h9
/-- THE PLACES WHOSE FLAGS ARE SET. -/
def flP (n : Nat) (fl : List Bool) : List Nat := (List.range n).filter fun i => fl.getD i false
end Go.Proofs.YtcebpdcijpgkjaaGreatDoor

namespace Go.Proofs.YtcebpdcijpgkjaaGreatDoor
open Go.RowKit Go.Maps

/-- PLACES WHILE THEY ARE GATHERED. -/
structure Pi (W wr : World) (s : Value) (l : List Nat) : Prop where
  row : wr.ownsRow W.heap.size 3 1 s l.length (ints l)
  bw : RowKit.Below W.heap.size W wr
theorem Pi.start (W : World) : Pi W W (.slice none 0 0) [] := ⟨⟨rfl, .inl ⟨rfl, rfl⟩⟩, Below.refl _ _⟩
theorem Pi.grow {W wr w9 : World} {s v' : Value} {l : List Nat} {p : Nat} {o : Obj} (h : Pi W wr s l) (hown : w9.ownsRow W.heap.size 3 1 v' (l.length + 1) (ints l ++ [.int .i64 (p : Int)])) (hg : (wr.alloc o).grownBy w9 s.ownBlock) : Pi W w9 v' (l ++ [p]) := by
  refine ⟨?_, (h.bw.alloc h.bw.size o).grown hg ?_ fun j e => (World.ownsRow.lt h.row j e).1⟩
  · rw [List.length_append, show ints (l ++ [p]) = ints l ++ [.int .i64 (p : Int)] from by simp [ints]]
    exact hown
  · have := h.bw.size
    rw [World.size_alloc]
    omega
theorem infoI8 : (Tryz.prog.info? 3).map (fun i => (i.zero, i.size, i.bytes)) = some (some (.int .i64 0), 1, 8) := by kernel_rfl
def plL (f : Nat → Bool) (n : Nat) : List Nat := (List.range n).filter f
theorem plL_succ (f : Nat → Bool) (n : Nat) : plL f (n + 1) = plL f n ++ (if f n then [n] else []) := by
  unfold plL
  rw [List.range_succ, List.filter_append, List.filter_cons, List.filter_nil]
theorem plL_len (f : Nat → Bool) (n : Nat) : (plL f n).length ≤ n := by
  unfold plL
  refine Nat.le_trans (List.length_filter_le _ _) ?_
  rw [List.length_range]; exact Nat.le_refl _
set_option maxRecDepth 100000 in
set_option maxHeartbeats 4000000 in
theorem places_any {w : World} {v : Value} {f : Nat → Bool} {n : Nat} (hn : n ≤ 1048576) (h : Bls w v f n) :
    Calls Tryz.prog 42 #[v] w fun e w' => ∃ r, e = .returned r ∧ w'.ownsRow w.heap.size 3 1 r (plL f n).length (ints (plL f n)) ∧ RowKit.Below w.heap.size w w' := by
  obtain ⟨i0, hi, hz0, hz1, hz2⟩ := info_parts2 infoI8
  obtain ⟨va, vc, rfl, h2⟩ := h
  have HV := hide h2
  have HST := hide (Pi.start w)
  clear h2
  go_enter Tryz.func42, Tryz.ntmps42
  go_wp2_with fail
  go_loopg [3, 4, 5, 8] n (fun gq sv _ _ iv wr => ∃ i : Nat, iv = .int .i64 i ∧ i ≤ n ∧ n - i ≤ gq ∧ Hid (Pi w wr sv (plL f i)))
  case atStart => exact ⟨0, by go_num, by omega, by omega, HST⟩
  case round =>
    clear HST
    obtain ⟨i, rfl, hj, hgj, HW⟩ := hrel
    by_cases hlt : i < n
    · have hin : (i : Int) < (n : Int) := by omega
      obtain ⟨b, rfl, hb, hc⟩ := unhide HV (by omega)
      have c0 := ((unhide HW).bw.cell (p := ⟨b, i, none⟩) hb).trans (hc i hlt)
      have HMS := hide (plL_succ f i)
      have hln := plL_len f i
      have hzw := (unhide HW).bw.size
      clear hc
      generalize plL f i = l at *
      cases hf : f i with
      | true =>
        rw [hf] at c0 HMS
        clear hf
        go_wp2_with (at_builtin; go_must (refine wpList_append_own _ rfl _ _ 34 rfl w.heap.size 3 i0 (.int .i64 0) 1 8 Tryz.underlying34 hi hz0 hz1 hz2 rfl (by decide) _ _ _ rfl (own_same (unhide HW).row fun b e => Below.heap_alloc _ _ _ (World.ownsRow.lt (unhide HW).row b e).2) ⟨wr.heap.size, 0, none⟩ 1 1 [.int .i64 (i : Int)] rfl rfl (fun k u hk => by rw [Addr.add_mid, Nat.zero_add, World.cell?_alloc_new]; simpa using hk) (fun u hu => by simp at hu; subst hu; rfl) (by unfold maxLen; omega) (by omega) (by rw [World.size_alloc]; omega) ?_); intro v' w9 hown hgrow _; have HF9 := hide ((unhide HW).grow hown hgrow); clear hown hgrow)
        go_roundg (n - (i + 1))
        case measure => omega
        case rel => exact ⟨i + 1, by go_num, by omega, by omega, by rw [unhide HMS]; exact HF9⟩
      | false =>
        rw [hf] at c0 HMS
        clear hf
        go_wp2_with fail
        go_roundg (n - (i + 1))
        case measure => omega
        case rel => exact ⟨i + 1, by go_num, by omega, by omega, by rw [unhide HMS]; simpa using HW⟩
    · obtain rfl : i = n := by omega
      go_wp2_with fail
      go_ret
      exact ⟨_, rfl, (unhide HW).row, (unhide HW).bw⟩
end Go.Proofs.YtcebpdcijpgkjaaGreatDoor

