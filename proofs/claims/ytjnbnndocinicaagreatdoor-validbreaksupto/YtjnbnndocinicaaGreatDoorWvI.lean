import Derived.Test.YtjnbnndocinicaaGreatDoorWvB
import Derived.Test.YtjnbnndocinicaaGreatDoorWvM
import Derived.Test.YtjnbnndocinicaaGreatDoorWvP
namespace Go.Proofs.YtjnbnndocinicaaGreatDoor
open Go.RowKit Go.Maps Go.Shelf
attribute [local go_sem] Oper.semAt_some
attribute [local simp] wide_fn
attribute [local go_sem] wide_fn

/-- YES AND NO, AS THEY LIE. -/
def Bls (w : World) (v : Value) (f : Nat → Bool) (n : Nat) : Prop := ∃ a c, v = .slice a n c ∧ (0 < n → ∃ b, a = some ⟨b, 0, none⟩ ∧ b < w.heap.size ∧ ∀ i, i < n → w.cell? ⟨b, i, none⟩ = some (.bool (f i)))
theorem Bls.later {w w' : World} {v : Value} {f : Nat → Bool} {n : Nat} (h : Bls w v f n) (hb : RowKit.Below w.heap.size w w') : Bls w' v f n := by
  obtain ⟨a, c, h1, h2⟩ := h
  refine ⟨a, c, h1, fun h0 => ?_⟩
  obtain ⟨b, h3, h4, h5⟩ := h2 h0
  exact ⟨b, h3, Nat.lt_of_lt_of_le h4 hb.size, fun i hi => (hb.cell (p := ⟨b, i, none⟩) h4).trans (h5 i hi)⟩
/-- THE BLOCKS OF isMet. -/
structure Im (w wr : World) (s n : Array Value) (av : Value) (r : Bool) (Ds : List Nat) : Prop where
  b0 : wr.heap[w.heap.size]? = some (.cells s 44 (0, 0))
  b1 : wr.heap[w.heap.size + 1]? = some (.cells n 90 (0, 0))
  b2 : wr.heap[w.heap.size + 2]? = some (.cells #[av] 47 (0, 0))
  b3 : wr.heap[w.heap.size + 3]? = some (.cells #[.bool r] 4 (0, 0))
  mks : Mks wr (w.heap.size + 4) Ds
  bw : RowKit.Below w.heap.size w wr
theorem Im.turn {w X Y : World} {s n : Array Value} {av : Value} {r : Bool} {Ds : List Nat} {C : Nat} {row : Option Nat} (h : Im w X s n av r Ds) (hg : X.grownBy Y row) (hr : ∀ k, row = some k → C ≤ k) (hC : w.heap.size + 4 ≤ C) (hD : ∀ D ∈ Ds, D < C) : Im w Y s n av r Ds := by
  have ne : ∀ j, j < C → some j ≠ row := fun j hj e => by have := hr j e.symm; omega
  have k : ∀ j o, j < C → X.heap[j]? = some o → Y.heap[j]? = some o := fun j o hj e => (hg.block j (blk_lt e) (ne j hj)).trans e
  refine ⟨k _ _ (by omega) h.b0, k _ _ (by omega) h.b1, k _ _ (by omega) h.b2, k _ _ (by omega) h.b3, ⟨h.mks.1, fun D hd => ⟨(h.mks.2 D hd).1, k _ _ (hD D hd) (h.mks.2 D hd).2⟩⟩, hg.os.trans h.bw.os, hg.tape.trans h.bw.tape, hg.output.trans h.bw.output, Nat.le_trans h.bw.size hg.size, fun j hj => ?_⟩
  have := h.bw.size
  exact (hg.block j (by omega) (ne j (by omega))).trans (h.bw.block j hj)
theorem Im.lt {w wr : World} {s n : Array Value} {av : Value} {r : Bool} {Ds : List Nat} (h : Im w wr s n av r Ds) : w.heap.size + 4 ≤ wr.heap.size ∧ ∀ D ∈ Ds, D < wr.heap.size := ⟨blk_lt h.b3, fun D hd => blk_lt (h.mks.2 D hd).2⟩
theorem Im.later {w X Y : World} {s n : Array Value} {av : Value} {r : Bool} {Ds : List Nat} (h : Im w X s n av r Ds) (hb : RowKit.Below X.heap.size X Y) : Im w Y s n av r Ds := h.turn (C := X.heap.size) (grown_below hb) (fun k e => by cases e) h.lt.1 h.lt.2
theorem Im.mark {w X : World} {s n : Array Value} {av : Value} {r : Bool} {Ds : List Nat} (h : Im w X s n av r Ds) {D : Nat} (hD : X.heap[D]? = some (.deferred (some []))) (hlo : w.heap.size + 4 ≤ D) (hn : ∀ E ∈ Ds, E < D) : Im w X s n av r (D :: Ds) :=
  ⟨h.b0, h.b1, h.b2, h.b3, ⟨List.nodup_cons.2 ⟨fun e => absurd (hn D e) (Nat.lt_irrefl _), h.mks.1⟩, fun E he => by
    rcases List.mem_cons.1 he with rfl | he
    · exact ⟨hlo, hD⟩
    · exact h.mks.2 E he⟩, h.bw⟩
theorem Im.set {w X : World} {s n : Array Value} {av : Value} {r : Bool} {Ds : List Nat} (h : Im w X s n av r Ds) (q : Bool) : Im w (X.setCell ⟨w.heap.size + 3, 0, none⟩ (.bool q)) s n av q Ds := by
  have k : ∀ j o, j ≠ w.heap.size + 3 → X.heap[j]? = some o → (X.setCell ⟨w.heap.size + 3, 0, none⟩ (.bool q)).heap[j]? = some o := fun j o hj e => (set_other X _ 0 (.bool q) j hj).trans e
  refine ⟨k _ _ (by omega) h.b0, k _ _ (by omega) h.b1, k _ _ (by omega) h.b2, set_blk h.b3 0 (.bool q), ⟨h.mks.1, fun D hd => ⟨(h.mks.2 D hd).1, k _ _ (fun e => ?_) (h.mks.2 D hd).2⟩⟩, h.bw.setCell (p := ⟨w.heap.size + 3, 0, none⟩) (by show w.heap.size ≤ w.heap.size + 3; omega) _⟩
  have := (h.mks.2 D hd).1
  omega
theorem im_new (w : World) (s n : Array Value) (av : Value) : Im w ((((w.alloc (.cells s 44)).alloc (.cells n 90)).alloc (.cells #[av] 47)).alloc (.cells #[.bool false] 4)) s n av false [] := by
  obtain ⟨A, hA⟩ : ∃ x, x = w.alloc (.cells s 44) := ⟨_, rfl⟩
  obtain ⟨B, hB⟩ : ∃ x, x = A.alloc (.cells n 90) := ⟨_, rfl⟩
  obtain ⟨C, hC⟩ : ∃ x, x = B.alloc (.cells #[av] 47) := ⟨_, rfl⟩
  rw [← hA, ← hB, ← hC]
  have zA : A.heap.size = w.heap.size + 1 := by rw [hA]; exact World.size_alloc _ _
  have zB : B.heap.size = w.heap.size + 2 := by rw [hB, World.size_alloc]; omega
  have zC : C.heap.size = w.heap.size + 3 := by rw [hC, World.size_alloc]; omega
  have bA : RowKit.Below w.heap.size w A := by rw [hA]; exact (Below.refl _ w).alloc (Nat.le_refl _) _
  have bB : RowKit.Below A.heap.size A B := by rw [hB]; exact (Below.refl _ A).alloc (Nat.le_refl _) _
  have bC : RowKit.Below B.heap.size B C := by rw [hC]; exact (Below.refl _ B).alloc (Nat.le_refl _) _
  have bD : RowKit.Below C.heap.size C (C.alloc (.cells #[.bool false] 4)) := (Below.refl _ C).alloc (Nat.le_refl _) _
  have h0 : A.heap[w.heap.size]? = some (.cells s 44 (0, 0)) := by rw [hA]; exact heap_alloc_new _ _
  have h1 : B.heap[w.heap.size + 1]? = some (.cells n 90 (0, 0)) := by rw [← zA, hB]; exact heap_alloc_new _ _
  have h2 : C.heap[w.heap.size + 2]? = some (.cells #[av] 47 (0, 0)) := by rw [← zB, hC]; exact heap_alloc_new _ _
  have h3 : (C.alloc (.cells #[.bool false] 4)).heap[w.heap.size + 3]? = some (.cells #[.bool false] 4 (0, 0)) := by rw [← zC]; exact heap_alloc_new _ _
  exact ⟨(bD.block _ (by omega)).trans ((bC.block _ (by omega)).trans ((bB.block _ (by omega)).trans h0)), (bD.block _ (by omega)).trans ((bC.block _ (by omega)).trans h1), (bD.block _ (by omega)).trans h2, h3, ⟨List.nodup_nil, fun D h => by cases h⟩, bl_t (bl_t (bl_t bA bB) bC) bD⟩
end Go.Proofs.YtjnbnndocinicaaGreatDoor
