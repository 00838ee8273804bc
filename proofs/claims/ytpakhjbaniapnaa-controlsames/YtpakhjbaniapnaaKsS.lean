import Derived.Test.YtpakhjbaniapnaaKsR
import Derived.Deep.WholeRow
import Derived.BigFrame
namespace Go.Proofs.Ytpakhjbaniapnaa
open Go.RowKit

/-- A PACKAGE IN A BLOCK OF ITS OWN. -/
structure BkP (w : World) (g : Nat) (cs : List Value) : Prop where
  len : cs.length = 43
  one : ∀ x ∈ cs, x.oneCell' = true
  at_ : w.heap[g]? = some (.cells cs.toArray 28 (0, 0))
theorem BkP.lt {w : World} {g : Nat} {l : List Value} (h : BkP w g l) : g < w.heap.size := (Array.getElem?_eq_some_iff.1 h.at_).1
theorem BkP.of {w w2 : World} {g : Nat} {l : List Value} (h : BkP w g l) (e : w2.heap[g]? = w.heap[g]?) : BkP w2 g l := ⟨h.len, h.one, e.trans h.at_⟩
theorem BkP.later {w w2 : World} {g : Nat} {l : List Value} (h : BkP w g l) (hb : Below w.heap.size w w2) : BkP w2 g l := h.of (hb.block g h.lt)
theorem BkP.cell {w : World} {g : Nat} {l : List Value} (h : BkP w g l) {i : Nat} {v : Value} (hi : l[i]? = some v) : w.cell? ⟨g, i, none⟩ = some v := by
  rw [cell_of_row w g i _ 28 (0, 0) h.at_]; simpa using hi
theorem BkP.free {w : World} {g : Nat} {l : List Value} (h : BkP w g l) (i : Nat) : w.frozen? ⟨g, i, none⟩ = false := frozen_of_row w g i _ 28 h.at_
theorem BkP.set {w : World} {g : Nat} {l : List Value} (h : BkP w g l) (i : Nat) (v : Value) (hv : v.oneCell' = true) : BkP (w.setCell ⟨g, i, none⟩ v) g (l.set i v) := by
  refine ⟨by rw [List.length_set]; exact h.len, fun x hx => ?_, ?_⟩
  · rcases List.mem_or_eq_of_mem_set hx with hx | rfl
    · exact h.one x hx
    · exact hv
  · rw [heap_setCell_same w g i _ 28 v h.at_]
    simp
theorem infoP : ∃ zc : List Value, (Try.prog.info? 28).map (fun i => (i.zero, i.size)) = some (some (.agg zc.toArray), 43) ∧ zc.length = 43 ∧ zc.all (·.oneCell') = true :=
  ⟨((((Try.prog.info? 28).bind (·.zero)).map fun z => z.cells.toList).getD []), by kernel_rfl, by kernel_rfl, by kernel_rfl⟩
theorem sizeP : (Try.prog.info? 28).map (·.size) = some 43 := by kernel_rfl

theorem stL (w : World) (g i : Nat) (a : Option Addr) (n c : Nat) (old : Value) (hc : w.cell? ⟨g, i, none⟩ = some old) (hz : w.frozen? ⟨g, i, none⟩ = false) :
    (storeVar 22 ⟨g, i, none⟩ (.slice a n c)).run Try.prog w = .ok () (w.setCell ⟨g, i, none⟩ (.slice a n c)) := by
  simp [go_sem, hc, hz]
theorem stR (w : World) (g i : Nat) (a : Option Addr) (n c : Nat) (old : Value) (hc : w.cell? ⟨g, i, none⟩ = some old) (hz : w.frozen? ⟨g, i, none⟩ = false) :
    (storeVar 23 ⟨g, i, none⟩ (.slice a n c)).run Try.prog w = .ok () (w.setCell ⟨g, i, none⟩ (.slice a n c)) := by
  simp [go_sem, hc, hz]
theorem stS (w : World) (g i : Nat) (a : Option Addr) (n c : Nat) (old : Value) (hc : w.cell? ⟨g, i, none⟩ = some old) (hz : w.frozen? ⟨g, i, none⟩ = false) :
    (storeVar 24 ⟨g, i, none⟩ (.slice a n c)).run Try.prog w = .ok () (w.setCell ⟨g, i, none⟩ (.slice a n c)) := by
  simp [go_sem, hc, hz]
theorem stG (w : World) (g i : Nat) (a : Option Addr) (n c : Nat) (old : Value) (hc : w.cell? ⟨g, i, none⟩ = some old) (hz : w.frozen? ⟨g, i, none⟩ = false) :
    (storeVar 25 ⟨g, i, none⟩ (.slice a n c)).run Try.prog w = .ok () (w.setCell ⟨g, i, none⟩ (.slice a n c)) := by
  simp [go_sem, hc, hz]
section
variable {ops : Array Oper} {rest : List Oper} {o : Oper} {a : Act} {w : World} {Q : Exit → Act → World → Prop}
theorem p_alloc (ho : o.op = .alloc 28) (hw : Region.wanted o (yielded ops a.tmps) = true)
    (h : ∀ w2 zc, BkP w2 w.heap.size zc → Below w.heap.size w w2 → w2.heap.size = w.heap.size + 1 → wpList Try.prog ops Q rest (a.put o.dst (.pointer (some ⟨w.heap.size, 0, none⟩))) w2) : wpList Try.prog ops Q (o :: rest) a w := by
  refine BigFrame.wpList_want hw fun K hK => ?_
  obtain ⟨zc, h1, h2, h3⟩ := infoP
  unfold Oper.wp execOp
  simp only [ho, Sem.run_bind, Instr.alloc, (zero_of_info h1).1, newVar, newRow, run_newObj_alloc, Sem.run_pure, Result.andThen_ok]
  exact hK _ _ (h _ zc ⟨h2, List.all_eq_true.1 h3, heap_alloc_new w _⟩ ((Below.refl _ _).alloc (Nat.le_refl _) _) (by simp))
theorem p_box (cs : List Value) (hl : cs.length = 43) (h1 : ∀ x ∈ cs, x.oneCell' = true) (x : Operand) (ho : o.op = .box 28 x) (hw : Region.wanted o (yielded ops a.tmps) = true) (hx : a.eval x = .agg cs.toArray)
    (h : ∀ w2, BkP w2 w.heap.size cs → Below w.heap.size w w2 → w2.heap.size = w.heap.size + 1 → wpList Try.prog ops Q rest (a.put o.dst (.pointer (some ⟨w.heap.size, 0, none⟩))) w2) : wpList Try.prog ops Q (o :: rest) a w := by
  refine BigFrame.wpList_want hw fun K hK => ?_
  unfold Oper.wp execOp
  simp only [ho, Sem.run_bind, Instr.box, hx, newVar, newRow, run_newObj_alloc, Sem.run_pure, Result.andThen_ok]
  exact hK _ _ (h _ ⟨hl, h1, heap_alloc_new w _⟩ ((Below.refl _ _).alloc (Nat.le_refl _) _) (by simp))
theorem p_load (x : Operand) (ho : o.op = .load 28 x) (hw : Region.wanted o (yielded ops a.tmps) = true) (g : Nat) (hx : a.eval x = .pointer (some ⟨g, 0, none⟩)) (l : List Value) (hb : BkP w g l)
    (h : wpList Try.prog ops Q rest (a.put o.dst (.agg l.toArray)) w) : wpList Try.prog ops Q (o :: rest) a w := by
  refine BigFrame.wpList_want hw fun K hK => ?_
  exact wp_load_row 28 x ho g hx 28 _ _ _ hb.at_ Try.underlying28 rfl (by rw [sizeP, List.size_toArray, hb.len]) (hK _ _ h)
theorem p_store (x y : Operand) (ho : o.op = .store 28 x y) (hw : Region.wanted o (yielded ops a.tmps) = true) (g : Nat) (hx : a.eval x = .pointer (some ⟨g, 0, none⟩)) (l : List Value) (hy : a.eval y = .agg l.toArray) (hl : l.length = 43) (h1 : ∀ x ∈ l, x.oneCell' = true) (l0 : List Value) (hb : BkP w g l0)
    (h : ∀ w2, BkP w2 g l → (∀ k, k ≠ g → w2.heap[k]? = w.heap[k]?) → (∀ B, B ≤ g → Below B w w2) → w2.heap.size = w.heap.size → wpList Try.prog ops Q rest (a.put o.dst undef) w2) : wpList Try.prog ops Q (o :: rest) a w := by
  refine BigFrame.wpList_want hw fun K hK => ?_
  refine wp_store_row 28 x y ho g _ hx hy 28 _ hb.at_ (by rw [sizeP, List.size_toArray, hl]) (by rw [List.size_toArray, List.size_toArray, hl, hb.len]) (by rw [List.all_toArray]; exact List.all_eq_true.2 h1) (hK _ _ ?_)
  exact h _ ⟨hl, h1, setRow_heap w g _ _ 28 (0, 0) hb.at_⟩ (fun k hk => setRow_other w g k _ hk) (fun B hB => ⟨rfl, rfl, rfl, by simp, fun k hk => setRow_other w g k _ (by omega)⟩) (by simp)
theorem p_set (ty : TypeId) (x y : Operand) (ho : o.op = .store ty x y) (hw : Region.wanted o (yielded ops a.tmps) = true) (g i : Nat) (hx : a.eval x = .pointer (some ⟨g, i, none⟩)) (v : Value) (hst : ∀ old, w.cell? ⟨g, i, none⟩ = some old → w.frozen? ⟨g, i, none⟩ = false → (storeVar ty ⟨g, i, none⟩ v).run Try.prog w = .ok () (w.setCell ⟨g, i, none⟩ v)) (hy : a.eval y = v) (hv : v.oneCell' = true) (l : List Value) (hb : BkP w g l) (hi2 : i < 43)
    (h : ∀ w2, BkP w2 g (l.set i v) → (∀ k, k ≠ g → w2.heap[k]? = w.heap[k]?) → (∀ B, B ≤ g → Below B w w2) → w2.heap.size = w.heap.size → wpList Try.prog ops Q rest (a.put o.dst undef) w2) : wpList Try.prog ops Q (o :: rest) a w := by
  refine BigFrame.wpList_want hw fun K hK => ?_
  have hl : i < l.length := by rw [hb.len]; exact hi2
  have hc := hb.cell (List.getElem?_eq_getElem hl)
  have hz := hb.free i
  unfold Oper.wp execOp
  simp only [ho, hx, hy, Instr.storeAt, Instr.sureAddr, Sem.run_bind, Sem.run_pure, Result.andThen_ok]
  rw [hst _ hc hz]
  exact hK _ _ (h _ (hb.set i v hv) (fun j hj => Below.heap_setCell w _ _ j hj) (fun B hB => (Below.refl _ _).setCell (p := ⟨g, i, none⟩) hB _) (by simp))
end
theorem ex_loadP {x : Operand} {ρ : Operand → Value} {o : Oper} {w : World} {g : Nat} {l : List Value} (ho : o.op = .load 28 x) (hx : ρ x = .pointer (some ⟨g, 0, none⟩)) (hb : BkP w g l) : (execOp ρ o).run Try.prog w = .ok (.value (.agg l.toArray)) w := by
  unfold execOp
  simp only [ho, hx, Instr.loadAt, Instr.sureAddr, Sem.run_bind, Sem.run_pure, Result.andThen_ok, run_loadVar_row w g 28 28 _ (0, 0) _ hb.at_ Try.underlying28 rfl (by rw [sizeP, List.size_toArray, hb.len])]
theorem ret_cellP {fn : Func} (h : fn.results = #[.cell 2 28]) (tmps : Array Value) (w : World) (g : Nat) (l : List Value) (hp : tmps.getD 2 undef = .pointer (some ⟨g, 0, none⟩)) (hb : BkP w g l) :
    (results fn tmps).run Try.prog w = .ok (.agg l.toArray) w :=
  results_cell_row h tmps w g 28 _ (0, 0) _ hp hb.at_ Try.underlying28 rfl (by rw [sizeP, List.size_toArray, hb.len])

end Go.Proofs.Ytpakhjbaniapnaa
