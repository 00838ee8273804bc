import Derived.Test.YtboajcpfoejfeaaTzE
import Derived.Great.BuildSlice
namespace Go.Proofs.Ytboajcpfoejfeaa
open Go.RowKit Go.Maps

/-- A FILE WITH A PATH ALONE. -/
def pF (p : Nm) : Fi := ⟨p, 0, List.replicate 32 0⟩
def lC (l : List Nm) : List Value := fC (l.map pF)
theorem pF_ok {p : Nm} (h : p.size ≤ 9223372036854775807) : (pF p).ok := ⟨h, show (Lit.int .i64 0).wf = true by decide, by simp [pF], fun x hx => by
  have : x = 0 := (List.mem_replicate.1 hx).2
  subst this
  decide⟩
theorem pF_len (p : Nm) : (pF p).cs.length = 34 := by
  show (sC (List.replicate 32 0)).length + 1 + 1 = 34
  rw [sC_len, List.length_replicate]
theorem lC_snoc (l : List Nm) (p : Nm) : lC (l ++ [p]) = lC l ++ (pF p).cs := by
  unfold lC fC
  rw [List.map_append, List.map_append, List.flatten_append]
  simp
theorem lC_len (l : List Nm) : (lC l).length = l.length * 34 := by
  unfold lC fC
  rw [flat_lenm 34, List.length_map, List.length_map]
  intro r hr
  obtain ⟨f, hf, rfl⟩ := List.mem_map.1 hr
  obtain ⟨p, _, rfl⟩ := List.mem_map.1 hf
  exact pF_len p
theorem lC_at {l : List Nm} {i j : Nat} {p : Nm} (hp : l[i]? = some p) (hj : j < 34) : (lC l)[i * 34 + j]? = (pF p).cs[j]? := by
  unfold lC fC
  rw [flat_get 34 (by omega) _ (fun r hr => by
    obtain ⟨f, hf, rfl⟩ := List.mem_map.1 hr
    obtain ⟨p, _, rfl⟩ := List.mem_map.1 hf
    exact pF_len p), show (i * 34 + j) / 34 = i from by omega, show (i * 34 + j) % 34 = j from by omega, List.getElem?_map, List.getElem?_map, hp]
  rfl
section
variable {ops : Array Oper} {rest : List Oper} {o : Oper} {a : Act} {w : World} {Q : Exit → Act → World → Prop}
theorem wpList_load_p {P : Program} (hgd : o.guard = none) (ty : TypeId) (x : Operand) (ho : o.op = .load ty x)
    (b off : Nat) (hx : a.eval x = .pointer (some ⟨b, off, none⟩)) (cs : List Value) (d : TypeDesc) (hc : w.rangeAt b off cs)
    (hu : P.underlying ty = some d) (hd : d.isRow = true) (hi : (P.info? ty).map (·.size) = some cs.length)
    (h : wpList P ops Q rest (a.put o.dst (.agg cs.toArray)) w) : wpList P ops Q (o :: rest) a w :=
  wpList_load_mid hgd ty x ho b off hx cs d hc hu hd hi h
/-- A SLICE OF ONE FILE. -/
theorem f_sl1 (x : Operand) (ho : o.op = .buildSlice 22 1 #[(0, x)]) (hw : Region.wanted o (yielded ops a.tmps) = true) (c1 : List Value) (hx : a.eval x = .agg c1.toArray) (h1 : c1.length = 34)
    (h : ∀ w2, w2.rangeAt w.heap.size 0 c1 → Below w.heap.size w w2 → w.heap.size < w2.heap.size → wpList Try.prog ops Q rest (a.put o.dst (.slice (some ⟨w.heap.size, 0, none⟩) 1 1)) w2) : wpList Try.prog ops Q (o :: rest) a w := by
  refine BigFrame.wpList_want hw fun K hK => ?_
  obtain ⟨zc, i1, i2, i3⟩ := infoFz
  obtain ⟨ie, hie, hz, hs, _⟩ := info_parts i1
  obtain ⟨r, hr, hsz, hk⟩ := Great.fill_dense (s := 34) (by decide) [Value.agg c1.toArray] 0 ((Array.range (1 * 34)).map ((Value.agg zc.toArray).cells[· % (Value.agg zc.toArray).cells.size]!)) (fun v hv => by rw [List.mem_singleton] at hv; subst hv; simp [Value.cells, h1]) (by simp)
  refine wp_buildSlice 22 32 1 #[(0, x)] ho r ie (.agg zc.toArray) Try.underlying22 hie hz (by rw [hs]; omega) (by rw [hs]; omega) (by rw [hs]; simpa [hx] using hr) (hK _ _ ?_)
  refine h _ (fun j v hj => ?_) ((Below.refl _ _).alloc (Nat.le_refl _) _) (by simp)
  rw [World.cell?_alloc_new, hk]
  have hj2 := (List.getElem?_eq_some_iff.1 hj).1
  rw [h1] at hj2
  rw [Nat.zero_add, if_pos ⟨by omega, by simp; omega⟩, show j / 34 - 0 = 0 by omega, show j % 34 = j by omega]
  simpa [Value.cells] using hj
end
/-- WHAT PUT HAS LAID. -/
structure Pm (w wr : World) (cs : List Value) (mv : Value) (M : List Nm) : Prop where
  row : wr.ownsRow (w.heap.size + 1) 32 34 mv M.length (lC M)
  box : wr.heap[w.heap.size]? = some (.cells cs.toArray 32 (0, 0))
  bw : Below w.heap.size w wr
theorem Pm.later {w wr X : World} {cs : List Value} {mv : Value} {M : List Nm} (h : Pm w wr cs mv M) (hb : Below wr.heap.size wr X) : Pm w X cs mv M :=
  ⟨own_low h.row hb, (hb.block _ (blk_lt h.box)).trans h.box, bl_t h.bw hb⟩
theorem Pm.grow {w wr w5 w9 : World} {cs : List Value} {mv v' : Value} {M : List Nm} {p : Nm} (h : Pm w wr cs mv M) (k5 : Below wr.heap.size wr w5) (hown : w9.ownsRow (w.heap.size + 1) 32 34 v' (M.length + 1) (lC M ++ (pF p).cs)) (hg : w5.grownBy w9 mv.ownBlock) : Pm w w9 cs v' (M ++ [p]) := by
  have h5 := h.later k5
  refine ⟨by rw [lC_snoc, List.length_append]; exact hown, ?_, ?_⟩
  · rw [hg.block _ (blk_lt h5.box) fun e => ?_]
    · exact h5.box
    · have := (World.ownsRow.lt h5.row _ e.symm).1
      omega
  · exact h5.bw.grown hg h5.bw.size fun k e => by
      have := (World.ownsRow.lt h5.row k e).1
      omega
/-- WHERE PUT IS. -/
def Pst (l : List Nm) (x : Nm) (i : Nat) (M : List Nm) (b : Bool) : Prop :=
  (b = false ∧ M = l.take i ∧ ∀ y ∈ l.take i, lt y x) ∨ (b = true ∧ ∃ j, j ≤ i ∧ M = l.take j ++ x :: (l.take i).drop j ∧ (∀ y ∈ l.take j, lt y x) ∧ ∀ y ∈ l.drop j, lt x y)
theorem Pst.len {l : List Nm} {x : Nm} {i : Nat} {M : List Nm} {b : Bool} (h : Pst l x i M b) : M.length ≤ l.length + 1 := by
  rcases h with ⟨_, rfl, _⟩ | ⟨_, j, _, rfl, _⟩
  · rw [List.length_take]; omega
  · simp; omega
theorem take_snoc {l : List Nm} {i : Nat} (hi : i < l.length) : l.take (i + 1) = l.take i ++ [l[i]] := by
  rw [List.take_add_one, List.getElem?_eq_getElem hi]; rfl
theorem Pst.lay {l : List Nm} {x : Nm} {i : Nat} {M : List Nm} (hu : l.Pairwise fun x y => x.data.toList < y.data.toList) (h : Pst l x i M false) (hi : i < l.length) (hlt : lt x l[i]) : Pst l x (i + 1) ((M ++ [x]) ++ [l[i]]) true := by
  rcases h with ⟨_, rfl, h2⟩ | ⟨q, _⟩
  · refine .inr ⟨rfl, i, by omega, ?_, h2, fun y hy => ?_⟩
    · rw [take_snoc hi, List.drop_append_of_le_length (by rw [List.length_take]; omega), List.drop_eq_nil_of_le (by rw [List.length_take]; omega)]
      simp
    · rw [List.drop_eq_getElem_cons hi] at hy
      rcases List.mem_cons.1 hy with rfl | hy
      · exact hlt
      · obtain ⟨k, hk, rfl⟩ := List.getElem_of_mem hy
        rw [List.getElem_drop]
        have hk2 : i + 1 + k < l.length := by rw [List.length_drop] at hk; omega
        exact List.lt_trans hlt (List.pairwise_iff_getElem.1 hu i (i + 1 + k) hi hk2 (by omega))
  · cases q
theorem Pst.pass {l : List Nm} {x : Nm} {i : Nat} {M : List Nm} (h : Pst l x i M false) (hi : i < l.length) (hlt : lt l[i] x) : Pst l x (i + 1) (M ++ [l[i]]) false := by
  rcases h with ⟨_, rfl, h2⟩ | ⟨q, _⟩
  · refine .inl ⟨rfl, (take_snoc hi).symm, fun y hy => ?_⟩
    rw [take_snoc hi] at hy
    rcases List.mem_append.1 hy with hy | hy
    · exact h2 y hy
    · rw [List.mem_singleton] at hy; subst hy; exact hlt
  · cases q
theorem Pst.more {l : List Nm} {x : Nm} {i : Nat} {M : List Nm} (h : Pst l x i M true) (hi : i < l.length) : Pst l x (i + 1) (M ++ [l[i]]) true := by
  rcases h with ⟨q, _⟩ | ⟨_, j, hj, rfl, h2, h3⟩
  · cases q
  · refine .inr ⟨rfl, j, by omega, ?_, h2, h3⟩
    rw [take_snoc hi, List.drop_append_of_le_length (by rw [List.length_take]; omega), List.append_assoc]
    rfl
theorem Pst.end1 {l L : List Nm} {x : Nm} {M : List Nm} (hr : Ris l L) (h : Pst l x l.length M false) : Ris (M ++ [x]) (L ++ [x]) ∧ x ∉ L := by
  rcases h with ⟨_, rfl, h2⟩ | ⟨q, _⟩
  · rw [List.take_length] at h2 ⊢
    refine ⟨⟨List.pairwise_append.2 ⟨hr.up, List.pairwise_singleton _ _, fun a ha b hb => ?_⟩, fun z => ?_⟩, fun hx => lt_irr x (h2 x ((hr.mem x).2 hx))⟩
    · rw [List.mem_singleton] at hb; subst hb; exact h2 a ha
    · rw [List.mem_append, List.mem_append, hr.mem]
  · cases q
theorem Pst.end2 {l L : List Nm} {x : Nm} {M : List Nm} (hr : Ris l L) (h : Pst l x l.length M true) : Ris M (L ++ [x]) ∧ x ∉ L := by
  rcases h with ⟨q, _⟩ | ⟨_, j, hj, rfl, h2, h3⟩
  · cases q
  · rw [List.take_length]
    refine ⟨⟨?_, fun z => ?_⟩, fun hx => ?_⟩
    · rw [List.pairwise_append, List.pairwise_cons]
      refine ⟨hr.up.sublist (List.take_sublist _ _), ⟨h3, hr.up.sublist (List.drop_sublist _ _)⟩, fun a ha b hb => ?_⟩
      rcases List.mem_cons.1 hb with rfl | q
      · exact h2 a ha
      · exact List.lt_trans (h2 a ha) (h3 b q)
    · rw [List.mem_append, List.mem_append, List.mem_cons, List.mem_singleton, ← hr.mem z]
      conv => rhs; rw [← List.take_append_drop j l, List.mem_append]
      constructor
      · rintro (q | q | q)
        · exact .inl (.inl q)
        · exact .inr q
        · exact .inl (.inr q)
      · rintro ((q | q) | q)
        · exact .inl q
        · exact .inr (.inr q)
        · exact .inr (.inl q)
    · have hx := (hr.mem x).2 hx
      rw [← List.take_append_drop j l, List.mem_append] at hx
      rcases hx with q | q
      · exact lt_irr x (h2 x q)
      · exact lt_irr x (h3 x q)
theorem Pst.start (l : List Nm) (x : Nm) : Pst l x 0 [] false := .inl ⟨rfl, rfl, fun y hy => by simp at hy⟩
/-- NAMES AS FILES, AS THEY LIE. -/
def Pr (w : World) (lo : Nat) (v : Value) (l : List Nm) : Prop := w.ownsRow lo 32 34 v l.length (lC l)
theorem Pr.at {w : World} {lo : Nat} {a : Option Addr} {n c : Nat} {l : List Nm} (h : Pr w lo (.slice a n c) l) {i : Nat} (hi : i < l.length) : ∃ b, a = some ⟨b, 0, none⟩ ∧ b < w.heap.size ∧ w.rangeAt b (i * 34) (pF l[i]).cs := by
  rcases h.2 with ⟨_, q⟩ | ⟨g, cap, cur, e, hg, hh, _⟩
  · omega
  · cases e
    refine ⟨g, rfl, blk_lt hh, fun j u hj => owns_at h _ u ?_⟩
    have hj2 := (List.getElem?_eq_some_iff.1 hj).1
    rw [pF_len] at hj2
    rw [lC_at (List.getElem?_eq_getElem hi) hj2]
    exact hj
end Go.Proofs.Ytboajcpfoejfeaa
