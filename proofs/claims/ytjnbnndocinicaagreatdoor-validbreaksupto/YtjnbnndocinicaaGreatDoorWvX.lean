import Derived.Test.YtjnbnndocinicaaGreatDoorWvU
namespace Go.Proofs.YtjnbnndocinicaaGreatDoor
open Go.RowKit Go.Maps Go.Shelf
attribute [local go_sem] Oper.semAt_some
attribute [local simp] wide_fn
attribute [local go_sem] wide_fn

/-- THE BLOCKS OF unmet. -/
structure Un (w Z : World) (C : Array Value) (p : Int) (s : Value) (l : List Ft) : Prop where
  b0 : Z.heap[w.heap.size]? = some (.cells C 62 (0, 0))
  b1 : Z.heap[w.heap.size + 1]? = some (.cells #[.int .i64 p] 3 (0, 0))
  b2 : Z.heap[w.heap.size + 2]? = some (.cells #[s] 56 (0, 0))
  row : Z.ownsRow (w.heap.size + 3) 59 6 s l.length (ftC l)
  bw : RowKit.Below w.heap.size w Z
theorem Un.turn {w X Y : World} {C : Array Value} {p : Int} {s : Value} {l : List Ft} {B : Nat} {row : Option Nat} (h : Un w X C p s l) (hg : X.grownBy Y row) (hr : ∀ r, row = some r → B ≤ r ∧ ∃ o : Obj, X.heap[r]? = some o ∧ o.isCells = false) (hB : w.heap.size + 3 ≤ B) : Un w Y C p s l := by
  have ne : ∀ j, j < B → some j ≠ row := fun j hj e => by have := (hr j e.symm).1; omega
  have k : ∀ j o, j < B → X.heap[j]? = some o → Y.heap[j]? = some o := fun j o hj e => (hg.block j (blk_lt e) (ne j hj)).trans e
  refine ⟨k _ _ (by omega) h.b0, k _ _ (by omega) h.b1, k _ _ (by omega) h.b2, ⟨h.row.1, ?_⟩, hg.os.trans h.bw.os, hg.tape.trans h.bw.tape, hg.output.trans h.bw.output, Nat.le_trans h.bw.size hg.size, fun j hj => ?_⟩
  · rcases h.row.2 with z | ⟨g, cap, cur, h1, h2, h3, h4⟩
    · exact .inl z
    · refine .inr ⟨g, cap, cur, h1, h2, (hg.block g (blk_lt h3) fun e => ?_).trans h3, h4⟩
      obtain ⟨_, o, ho, hc⟩ := hr g e.symm
      rw [h3] at ho
      cases ho
      cases hc
  · have := h.bw.size
    exact (hg.block j (by omega) (ne j (by omega))).trans (h.bw.block j hj)
theorem Un.lt {w Z : World} {C : Array Value} {p : Int} {s : Value} {l : List Ft} (h : Un w Z C p s l) : w.heap.size + 3 ≤ Z.heap.size := blk_lt h.b2
theorem Un.later {w X Y : World} {C : Array Value} {p : Int} {s : Value} {l : List Ft} (h : Un w X C p s l) (hb : RowKit.Below X.heap.size X Y) : Un w Y C p s l := h.turn (B := X.heap.size) (grown_below hb) (fun k e => by cases e) h.lt
/-- One fault more, laid. -/
theorem Un.grow {w X w5 w9 : World} {C : Array Value} {p : Int} {s v' : Value} {l : List Ft} {f : Ft} {o : Obj} (h : Un w X C p s l) (hb : RowKit.Below X.heap.size X w5) (hown : w9.ownsRow (w.heap.size + 3) 59 6 v' (l.length + 1) (ftC l ++ f.cs)) (hg : (w5.alloc o).grownBy w9 s.ownBlock) (hob : ∀ b, v'.ownBlock = some b → b ≠ w.heap.size + 2) :
    Un w (w9.setCell ⟨w.heap.size + 2, 0, none⟩ v') C p v' (l ++ [f]) ∧ RowKit.Below w.heap.size X (w9.setCell ⟨w.heap.size + 2, 0, none⟩ v') ∧ ∀ c, c < X.heap.size → c ≠ w.heap.size + 2 → s.ownBlock ≠ some c → (w9.setCell ⟨w.heap.size + 2, 0, none⟩ v').heap[c]? = X.heap[c]? := by
  have hz := h.lt
  have h5 := h.later hb
  have hz5 := hb.size
  have ne : ∀ j, j < w.heap.size + 3 → some j ≠ s.ownBlock := fun j hj e => by have := (World.ownsRow.lt h.row j e.symm).1; omega
  have k9 : ∀ j, j < w5.heap.size → some j ≠ s.ownBlock → w9.heap[j]? = w5.heap[j]? := fun j hj e => (hg.block j (by rw [World.size_alloc]; omega) e).trans (Below.heap_alloc _ _ _ hj)
  have k : ∀ j o, j < w.heap.size + 3 → j ≠ w.heap.size + 2 → w5.heap[j]? = some o → (w9.setCell ⟨w.heap.size + 2, 0, none⟩ v').heap[j]? = some o := fun j o hj hn e => (set_other w9 _ 0 v' j hn).trans ((k9 j (blk_lt e) (ne j hj)).trans e)
  have hb9 : RowKit.Below w.heap.size w w9 := (h5.bw.alloc h5.bw.size o).grown hg (by have := h5.bw.size; rw [World.size_alloc]; omega) fun j e => by have := (World.ownsRow.lt h.row j e).1; omega
  have hX9 : RowKit.Below w.heap.size X w9 := ((hb.mono h.bw.size).alloc (Nat.le_trans h.bw.size hz5) o).grown hg (by rw [World.size_alloc]; have := h.bw.size; omega) fun j e => by have := (World.ownsRow.lt h.row j e).1; omega
  refine ⟨⟨k _ _ (by omega) (by omega) h5.b0, k _ _ (by omega) (by omega) h5.b1, set_blk ((k9 _ (by omega) (ne _ (by omega))).trans h5.b2) 0 v', ?_, hb9.setCell (p := ⟨w.heap.size + 2, 0, none⟩) (by show w.heap.size ≤ w.heap.size + 2; omega) _⟩, hX9.setCell (p := ⟨w.heap.size + 2, 0, none⟩) (by show w.heap.size ≤ w.heap.size + 2; omega) _, fun c hc hn hs => ?_⟩
  · rw [List.length_append, ftC_snoc]
    exact own_same hown fun b e => set_other w9 _ 0 v' b (hob b e)
  · exact (set_other w9 _ 0 v' c hn).trans ((k9 c (by omega) (fun e => hs e.symm)).trans (hb.block c hc))
theorem un_new (w : World) (C : Array Value) (p : Int) : Un w (((w.alloc (.cells C 62)).alloc (.cells #[.int .i64 p] 3)).alloc (.cells #[.slice none 0 0] 56)) C p (.slice none 0 0) [] := by
  obtain ⟨A, hA⟩ : ∃ x, x = w.alloc (.cells C 62) := ⟨_, rfl⟩
  obtain ⟨B, hB⟩ : ∃ x, x = A.alloc (.cells #[.int .i64 p] 3) := ⟨_, rfl⟩
  rw [← hA, ← hB]
  have zA : A.heap.size = w.heap.size + 1 := by rw [hA]; exact World.size_alloc _ _
  have zB : B.heap.size = w.heap.size + 2 := by rw [hB, World.size_alloc]; omega
  have bA : RowKit.Below w.heap.size w A := by rw [hA]; exact (Below.refl _ w).alloc (Nat.le_refl _) _
  have bB : RowKit.Below A.heap.size A B := by rw [hB]; exact (Below.refl _ A).alloc (Nat.le_refl _) _
  have bC : RowKit.Below B.heap.size B (B.alloc (.cells #[.slice none 0 0] 56)) := (Below.refl _ B).alloc (Nat.le_refl _) _
  have h0 : A.heap[w.heap.size]? = some (.cells C 62 (0, 0)) := by rw [hA]; exact heap_alloc_new _ _
  have h1 : B.heap[w.heap.size + 1]? = some (.cells #[.int .i64 p] 3 (0, 0)) := by rw [← zA, hB]; exact heap_alloc_new _ _
  have h2 : (B.alloc (.cells #[.slice none 0 0] 56)).heap[w.heap.size + 2]? = some (.cells #[.slice none 0 0] 56 (0, 0)) := by rw [← zB]; exact heap_alloc_new _ _
  exact ⟨(bC.block _ (by omega)).trans ((bB.block _ (by omega)).trans h0), (bC.block _ (by omega)).trans h1, h2, ⟨rfl, .inl ⟨rfl, rfl⟩⟩, bl_t (bl_t bA bB) bC⟩
/-- THE FAULT OF A NEED, IF IT IS NOT MET. -/
def unO (ps : List Pk) (q : Pk) (n : Nv) : List Ft := if imP ps (fun _ => true) n.bt n.al then [] else [⟨n.kd, q.nm, q.vr, n.ix, ⟨#[]⟩, ⟨#[]⟩⟩]
theorem unO_len (ps : List Pk) (q : Pk) : ∀ l : List Nv, (l.flatMap (unO ps q)).length ≤ l.length
  | [] => Nat.le_refl _
  | n :: l => by
    have ih := unO_len ps q l
    rw [List.flatMap_cons, List.length_append, List.length_cons]
    have : (unO ps q n).length ≤ 1 := by unfold unO; split <;> simp
    omega
theorem nvL_len (p : Nat) (dp pr : List (List At)) (f g : Nat → Hd) : (nvL p dp pr f g).length = dp.length + pr.length := by unfold nvL; simp
end Go.Proofs.YtjnbnndocinicaaGreatDoor
