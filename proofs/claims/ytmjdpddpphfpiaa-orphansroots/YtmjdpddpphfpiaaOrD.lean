import Derived.Test.YtmjdpddpphfpiaaOrC
import Derived.MakeChecks
namespace Go.Proofs.Ytmjdpddpphfpiaa
open Go.RowKit Go.Maps Go.Sort Go.Shelf

theorem wpList_load_p {P : Program} {ops : Array Oper} {rest : List Oper} {op : Oper} {a : Act} {w : World} {Q : Exit → Act → World → Prop} (hgd : op.guard = none) (ty : TypeId) (x : Operand) (ho : op.op = .load ty x)
    (b o : Nat) (hx : a.eval x = .pointer (some ⟨b, o, none⟩)) (cs : List Value) (d : TypeDesc) (hc : w.rangeAt b o cs)
    (hu : P.underlying ty = some d) (hd : d.isRow = true) (hi : (P.info? ty).map (·.size) = some cs.length)
    (h : wpList P ops Q rest (a.put op.dst (.agg cs.toArray)) w) : wpList P ops Q (op :: rest) a w :=
  wpList_load_mid hgd ty x ho b o hx cs d hc hu hd hi h
/-- ONE THAT IS HELD, IN A BLOCK OF ITS OWN. -/
structure BkH (w : World) (g : Nat) (cs : List Value) : Prop where
  len : cs.length = 44
  one : ∀ x ∈ cs, x.oneCell' = true
  at_ : w.heap[g]? = some (.cells cs.toArray 31 (0, 0))
theorem infoH2 : ∃ zc : List Value, (Try.prog.info? 31).map (fun i => (i.zero, i.size)) = some (some (.agg zc.toArray), 44) ∧ zc.length = 44 ∧ zc.all (·.oneCell') = true :=
  ⟨((((Try.prog.info? 31).bind (·.zero)).map fun z => z.cells.toList).getD []), by kernel_rfl, by kernel_rfl, by kernel_rfl⟩
theorem sizeH : (Try.prog.info? 31).map (·.size) = some 44 := by kernel_rfl
section
variable {ops : Array Oper} {rest : List Oper} {o : Oper} {a : Act} {w : World} {Q : Exit → Act → World → Prop}
theorem f_alloc (ho : o.op = .alloc 31) (hw : Region.wanted o (yielded ops a.tmps) = true)
    (h : ∀ w2 zc, BkH w2 w.heap.size zc → Below w.heap.size w w2 → w.heap.size + 1 ≤ w2.heap.size ∧ w2.heap.size ≤ w.heap.size + 1 → wpList Try.prog ops Q rest (a.put o.dst (.pointer (some ⟨w.heap.size, 0, none⟩))) w2) : wpList Try.prog ops Q (o :: rest) a w := by
  refine BigFrame.wpList_want hw fun K hK => ?_
  obtain ⟨zc, h1, h2, h3⟩ := infoH2
  unfold Oper.wp execOp
  simp only [ho, Sem.run_bind, Instr.alloc, (zero_of_info h1).1, newVar, newRow, run_newObj_alloc, Sem.run_pure, Result.andThen_ok]
  exact hK _ _ (h _ zc ⟨h2, List.all_eq_true.1 h3, heap_alloc_new w _⟩ ((Below.refl _ _).alloc (Nat.le_refl _) _) (by simp))
theorem f_store (x y : Operand) (ho : o.op = .store 31 x y) (hw : Region.wanted o (yielded ops a.tmps) = true) (g : Nat) (hx : a.eval x = .pointer (some ⟨g, 0, none⟩)) (l : List Value) (hy : a.eval y = .agg l.toArray) (hl : l.length = 44) (h1 : ∀ x ∈ l, x.oneCell' = true) (l0 : List Value) (hb : BkH w g l0)
    (h : ∀ w2, BkH w2 g l → (∀ B, B ≤ g → Below B w w2) → wpList Try.prog ops Q rest (a.put o.dst undef) w2) : wpList Try.prog ops Q (o :: rest) a w := by
  refine BigFrame.wpList_want hw fun K hK => ?_
  refine wp_store_row 31 x y ho g _ hx hy 31 _ hb.at_ (by rw [sizeH, List.size_toArray, hl]) (by rw [List.size_toArray, List.size_toArray, hl, hb.len]) (by rw [List.all_toArray]; exact List.all_eq_true.2 h1) (hK _ _ ?_)
  exact h _ ⟨hl, h1, setRow_heap w g _ _ 31 (0, 0) hb.at_⟩ (fun B hB => ⟨rfl, rfl, rfl, by simp, fun k hk => setRow_other w g k _ (by omega)⟩)
end
theorem fnew {wr w2 w3 : World} (k2 : Below wr.heap.size wr w2) (k3 : ∀ B, B ≤ wr.heap.size → Below B w2 w3) : Below wr.heap.size wr w3 := k2.trans (k3 _ (Nat.le_refl _))
theorem BkH.cell {w : World} {g : Nat} {cs : List Value} (h : BkH w g cs) {j : Nat} {v : Value} (hj : cs[j]? = some v) : w.cell? ⟨g, j, none⟩ = some v := by
  rw [(cell_blk h.at_ j).1]
  simpa using hj
/-- WHO IS WANTED FOR ITS OWN SAKE. -/
def keepH (L : List Nm) (h : Hx) : Bool := hasN L h.nm || h.mr == 0 || h.es
def pick (hs : List Hx) (L : List Nm) : List Nm := (hs.filter (keepH L)).map (·.nm)
theorem pick_snoc {hs : List Hx} {i : Nat} (hi : i < hs.length) (L : List Nm) : pick (hs.take (i + 1)) L = pick (hs.take i) L ++ (if keepH L hs[i] = true then [hs[i].nm] else []) := by
  unfold pick
  rw [List.take_add_one, List.getElem?_eq_getElem hi, List.filter_append, List.map_append]
  congr 1
  by_cases e : keepH L hs[i] = true
  · simp [e]
  · simp [e]
theorem pick_len (hs : List Hx) (L : List Nm) : (pick hs L).length ≤ hs.length := by
  unfold pick
  rw [List.length_map]
  exact List.length_filter_le _ _
theorem pick_mem {hs : List Hx} {L : List Nm} {x : Nm} : x ∈ pick hs L ↔ ∃ h ∈ hs, keepH L h = true ∧ h.nm = x := by
  unfold pick
  rw [List.mem_map]
  simp only [List.mem_filter, and_assoc]
/-- TWO SETS OF NAMES, SIDE BY SIDE. -/
structure Tw (w wr : World) (b1 : Nat) (L l : List Nm) (k1 k2 : Nat) : Prop where
  kept : Dv wr w.heap.size L k1
  nam : Dv wr b1 l k2
  lt : w.heap.size < b1
  bw : Below w.heap.size w wr
theorem Tw.later {w wr w2 : World} {b1 : Nat} {L l : List Nm} {k1 k2 : Nat} (h : Tw w wr b1 L l k1 k2) (hb : Below wr.heap.size wr w2) : Tw w w2 b1 L l k1 k2 := ⟨h.kept.later hb, h.nam.later hb, h.lt, bl_t h.bw hb⟩
theorem Tw.put {w wr : World} {b1 : Nat} {L l : List Nm} {k1 k2 : Nat} (h : Tw w wr b1 L l k1 k2) (hk : k2 < maxLen) {x : Nm} (hx : x.size ≤ maxLen) : ∃ W2, (Instr.mapUpdate 37 (.map (some b1)) (.string x) (.agg #[])).run Try.prog wr = .ok () W2 ∧ Tw w W2 b1 L (l ++ [x]) k1 (k2 + 1) := by
  obtain ⟨W2, hr, h2, fx⟩ := h.nam.put hk hx
  have hlt := h.lt
  exact ⟨W2, hr, h.kept.same (fx.blk _ h.kept.lt (by omega)), h2, hlt, h.bw.trans (fx.below h.bw.size fun b hb e => by omega)⟩
theorem tw_start {w wr : World} {L : List Nm} {k : Nat} (h : Dv wr w.heap.size L k) (hb : Below w.heap.size w wr) : Tw w (wr.alloc (.map #[] 0)) wr.heap.size L [] k 0 :=
  ⟨h.later ((Below.refl _ _).alloc (Nat.le_refl _) _), Dv.make wr, h.lt, bl_t hb ((Below.refl _ _).alloc (Nat.le_refl _) _)⟩
end Go.Proofs.Ytmjdpddpphfpiaa
