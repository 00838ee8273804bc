import Derived.Test.YtijpcmplbpknlaaShA
import Derived.BigFrame
import Derived.Deep.RegionHeld3
import Derived.Sort.BigQuietIn
namespace Go.Proofs.Ytijpcmplbpknlaa
open Go.RowKit

/-- CELLS OF BYTES. -/
def encB (l : Bs) : List Value := l.map fun c => Value.int .u8 (c.toNat : Int)
theorem encB_len (l : Bs) : (encB l).length = l.length := by simp [encB]
def agB (l : Bs) : Value := .agg (encB l).toArray
def zr : Bs := List.replicate 32 0
theorem zr_len : zr.length = 32 := rfl
def pt (g k : Nat) : Value := .pointer (some ⟨g, k, none⟩)

/-- A BLOCK OF 32 BYTES. -/
structure Bk (w : World) (g : Nat) (l : Bs) : Prop where
  len : l.length = 32
  at_ : w.heap[g]? = some (.cells (encB l).toArray 22 (0, 0))
theorem Bk.lt {w : World} {g : Nat} {l : Bs} (h : Bk w g l) : g < w.heap.size := (Array.getElem?_eq_some_iff.1 h.at_).1
theorem Bk.of {w w2 : World} {g : Nat} {l : Bs} (h : Bk w g l) (e : w2.heap[g]? = w.heap[g]?) : Bk w2 g l := ⟨h.len, e.trans h.at_⟩
theorem Bk.later {w w2 : World} {g : Nat} {l : Bs} (h : Bk w g l) (hb : Below w.heap.size w w2) : Bk w2 g l := h.of (hb.block g h.lt)

theorem info22 : (Try.prog.info? 22).map (fun i => (i.zero, i.size)) = some (some (agB zr), 32) := by kernel_rfl
theorem size22 : (Try.prog.info? 22).map (·.size) = some 32 := (zero_of_info info22).2
theorem size5 : (Try.prog.info? 5).map (·.size) = some 1 := by kernel_rfl

section
variable {ops : Array Oper} {rest : List Oper} {o : Oper} {a : Act} {w : World} {Q : Exit → Act → World → Prop}

theorem alloc_new (w : World) (l : Bs) (hl : l.length = 32) : Bk (w.alloc (.cells (encB l).toArray 22)) w.heap.size l := ⟨hl, heap_alloc_new w _⟩

theorem w_alloc (ho : o.op = .alloc 22) (hw : Region.wanted o (yielded ops a.tmps) = true)
    (h : ∀ w2, Bk w2 w.heap.size zr → Below w.heap.size w w2 → w2.heap.size = w.heap.size + 1 → wpList Try.prog ops Q rest (a.put o.dst (pt w.heap.size 0)) w2) : wpList Try.prog ops Q (o :: rest) a w := by
  refine BigFrame.wpList_want hw fun K hK => ?_
  unfold Oper.wp execOp
  simp only [ho, Sem.run_bind, Instr.alloc, (zero_of_info info22).1, newVar, newRow, run_newObj_alloc, Sem.run_pure, Result.andThen_ok]
  exact hK _ _ (h _ (alloc_new w zr zr_len) ((Below.refl _ _).alloc (Nat.le_refl _) _) (by simp))

theorem w_box (l : Bs) (hl : l.length = 32) (x : Operand) (ho : o.op = .box 22 x) (hw : Region.wanted o (yielded ops a.tmps) = true) (hx : a.eval x = agB l)
    (h : ∀ w2, Bk w2 w.heap.size l → Below w.heap.size w w2 → w2.heap.size = w.heap.size + 1 → wpList Try.prog ops Q rest (a.put o.dst (pt w.heap.size 0)) w2) : wpList Try.prog ops Q (o :: rest) a w := by
  refine BigFrame.wpList_want hw fun K hK => ?_
  unfold Oper.wp execOp
  simp only [ho, Sem.run_bind, Instr.box, hx, newVar, newRow, run_newObj_alloc, Sem.run_pure, Result.andThen_ok]
  exact hK _ _ (h _ (alloc_new w l hl) ((Below.refl _ _).alloc (Nat.le_refl _) _) (by simp))

theorem w_build (ho : o.op = .build 22 #[]) (hw : Region.wanted o (yielded ops a.tmps) = true)
    (h : wpList Try.prog ops Q rest (a.put o.dst (agB zr)) w) : wpList Try.prog ops Q (o :: rest) a w := by
  refine BigFrame.wpList_want hw fun K hK => ?_
  have hb : Try.prog.built 22 [] = some (encB zr).toArray := by kernel_rfl
  exact wp_build 22 #[] ho (by rw [List.map_toArray]; simp only [List.map_nil, hb, Option.isSome_some]) (hK _ _ (by rw [List.map_toArray]; simp only [List.map_nil, hb, Option.getD_some]; exact h))

theorem w_load (x : Operand) (ho : o.op = .load 22 x) (hw : Region.wanted o (yielded ops a.tmps) = true) (g : Nat) (hx : a.eval x = pt g 0) (l : Bs) (hb : Bk w g l)
    (h : wpList Try.prog ops Q rest (a.put o.dst (agB l)) w) : wpList Try.prog ops Q (o :: rest) a w := by
  refine BigFrame.wpList_want hw fun K hK => ?_
  exact wp_load_row 22 x ho g hx 22 _ _ _ hb.at_ Try.underlying22 rfl (by rw [size22, List.size_toArray, encB_len, hb.len]) (hK _ _ h)

theorem all_one (l : Bs) : (encB l).toArray.all (·.oneCell') = true := by
  rw [Array.all_eq_true_iff_forall_mem]
  intro v hv
  have hv' : v ∈ encB l := by simpa using hv
  unfold encB at hv'
  obtain ⟨c, _, rfl⟩ := List.mem_map.1 hv'
  rfl
theorem bl_setRow (w : World) (g : Nat) (cs : Array Value) (B : Nat) (h : B ≤ g) : Below B w (w.setRow g cs) := ⟨rfl, rfl, rfl, by simp, fun k hk => setRow_other w g k cs (by omega)⟩

theorem w_store (x y : Operand) (ho : o.op = .store 22 x y) (hw : Region.wanted o (yielded ops a.tmps) = true) (g : Nat) (hx : a.eval x = pt g 0) (l : Bs) (hy : a.eval y = agB l) (hl : l.length = 32) (l0 : Bs) (hb : Bk w g l0)
    (h : ∀ w2, Bk w2 g l → (∀ k, k ≠ g → w2.heap[k]? = w.heap[k]?) → (∀ B, B ≤ g → Below B w w2) → w2.heap.size = w.heap.size → wpList Try.prog ops Q rest (a.put o.dst undef) w2) : wpList Try.prog ops Q (o :: rest) a w := by
  refine BigFrame.wpList_want hw fun K hK => ?_
  refine wp_store_row 22 x y ho g _ hx hy 22 _ hb.at_ (by rw [size22, List.size_toArray, encB_len, hl]) (by rw [List.size_toArray, List.size_toArray, encB_len, encB_len, hl, hb.len]) (all_one l) (hK _ _ ?_)
  exact h _ ⟨hl, setRow_heap w g _ _ 22 (0, 0) hb.at_⟩ (fun k hk => setRow_other w g k _ hk) (bl_setRow w g _) (by simp)

theorem bk_cell {w : World} {g : Nat} {l : Bs} (hb : Bk w g l) (k : Nat) (hk : k < 32) : w.cell? ⟨g, k, none⟩ = some (.int .u8 ((l[k]?.getD 0).toNat : Int)) := by
  rw [cell_of_row w g k _ 22 (0, 0) hb.at_]
  have hk' : k < l.length := by rw [hb.len]; exact hk
  simp [encB, hk']

theorem bk_set {w : World} {g : Nat} {l : Bs} (hb : Bk w g l) (k : Nat) (b : UInt8) : Bk (w.setCell ⟨g, k, none⟩ (.int .u8 (b.toNat : Int))) g (l.set k b) := by
  refine ⟨by rw [List.length_set]; exact hb.len, ?_⟩
  rw [heap_setCell_same w g k _ 22 _ hb.at_]
  congr 2
  apply Array.ext_getElem?
  intro i
  simp only [encB, Array.getElem?_setIfInBounds, List.getElem?_toArray, List.size_toArray, List.length_map, List.getElem?_map, List.getElem?_set]
  by_cases e : k = i
  · subst e
    by_cases h2 : k < l.length <;> simp [h2]
  · simp [e]

theorem w_set (x y : Operand) (ho : o.op = .store 5 x y) (hw : Region.wanted o (yielded ops a.tmps) = true) (g k : Nat) (hx : a.eval x = pt g k) (b : UInt8) (hy : a.eval y = .int .u8 (b.toNat : Int)) (hk : k < 32) (l : Bs) (hb : Bk w g l)
    (h : ∀ w2, Bk w2 g (l.set k b) → (∀ j, j ≠ g → w2.heap[j]? = w.heap[j]?) → (∀ B, B ≤ g → Below B w w2) → w2.heap.size = w.heap.size → wpList Try.prog ops Q rest (a.put o.dst undef) w2) : wpList Try.prog ops Q (o :: rest) a w := by
  refine BigFrame.wpList_want hw fun K hK => ?_
  have hz : w.frozen? ⟨g, k, none⟩ = false := frozen_of_row w g k _ 22 hb.at_
  unfold Oper.wp execOp
  simp only [ho, hx, hy, pt, Instr.storeAt, Instr.sureAddr, Sem.run_bind, Sem.run_pure, Result.andThen_ok]
  have hst : (storeVar 5 ⟨g, k, none⟩ (.int .u8 (b.toNat : Int))).run Try.prog w = .ok () (w.setCell ⟨g, k, none⟩ (.int .u8 (b.toNat : Int))) := by
    have hc := bk_cell hb k hk
    simp [go_sem, hc, hz]
  rw [hst]
  exact hK _ _ (h _ (bk_set hb k b) (fun j hj => Below.heap_setCell w _ _ j hj) (fun B hB => (Below.refl _ _).setCell (p := ⟨g, k, none⟩) hB _) (by simp))
end

end Go.Proofs.Ytijpcmplbpknlaa
