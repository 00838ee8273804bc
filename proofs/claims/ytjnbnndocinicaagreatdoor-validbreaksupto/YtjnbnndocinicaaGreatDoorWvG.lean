import Derived.Test.YtjnbnndocinicaaGreatDoorWvT
import Derived.Test.YtjnbnndocinicaaGreatDoorWvV
namespace Go.Proofs.YtjnbnndocinicaaGreatDoor
open Go.RowKit Go.Maps

/-- A FILE IN A BLOCK OF ITS OWN. -/
structure BkF (w : World) (g : Nat) (cs : List Value) : Prop where
  len : cs.length = 34
  one : ∀ x ∈ cs, x.oneCell' = true
  at_ : w.heap[g]? = some (.cells cs.toArray 79 (0, 0))
theorem infoF2 : ∃ zc : List Value, (Tryz.prog.info? 79).map (fun i => (i.zero, i.size)) = some (some (.agg zc.toArray), 34) ∧ zc.length = 34 ∧ zc.all (·.oneCell') = true :=
  ⟨((((Tryz.prog.info? 79).bind (·.zero)).map fun z => z.cells.toList).getD []), by kernel_rfl, by kernel_rfl, by kernel_rfl⟩
theorem sizeF : (Tryz.prog.info? 79).map (·.size) = some 34 := by kernel_rfl
section
variable {ops : Array Oper} {rest : List Oper} {o : Oper} {a : Act} {w : World} {Q : Exit → Act → World → Prop}
theorem f_alloc (ho : o.op = .alloc 79) (hw : Region.wanted o (yielded ops a.tmps) = true)
    (h : ∀ w2 zc, BkF w2 w.heap.size zc → Below w.heap.size w w2 → w.heap.size + 1 ≤ w2.heap.size ∧ w2.heap.size ≤ w.heap.size + 1 → wpList Tryz.prog ops Q rest (a.put o.dst (.pointer (some ⟨w.heap.size, 0, none⟩))) w2) : wpList Tryz.prog ops Q (o :: rest) a w := by
  refine BigFrame.wpList_want hw fun K hK => ?_
  obtain ⟨zc, h1, h2, h3⟩ := infoF2
  unfold Oper.wp execOp
  simp only [ho, Sem.run_bind, Instr.alloc, (zero_of_info h1).1, newVar, newRow, run_newObj_alloc, Sem.run_pure, Result.andThen_ok]
  exact hK _ _ (h _ zc ⟨h2, List.all_eq_true.1 h3, heap_alloc_new w _⟩ ((Below.refl _ _).alloc (Nat.le_refl _) _) (by simp))
theorem f_store (x y : Operand) (ho : o.op = .store 79 x y) (hw : Region.wanted o (yielded ops a.tmps) = true) (g : Nat) (hx : a.eval x = .pointer (some ⟨g, 0, none⟩)) (l : List Value) (hy : a.eval y = .agg l.toArray) (hl : l.length = 34) (h1 : ∀ x ∈ l, x.oneCell' = true) (l0 : List Value) (hb : BkF w g l0)
    (h : ∀ w2, BkF w2 g l → (∀ B, B ≤ g → Below B w w2) → wpList Tryz.prog ops Q rest (a.put o.dst undef) w2) : wpList Tryz.prog ops Q (o :: rest) a w := by
  refine BigFrame.wpList_want hw fun K hK => ?_
  refine wp_store_row 79 x y ho g _ hx hy 79 _ hb.at_ (by rw [sizeF, List.size_toArray, hl]) (by rw [List.size_toArray, List.size_toArray, hl, hb.len]) (by rw [List.all_toArray]; exact List.all_eq_true.2 h1) (hK _ _ ?_)
  exact h _ ⟨hl, h1, setRow_heap w g _ _ 79 (0, 0) hb.at_⟩ (fun B hB => ⟨rfl, rfl, rfl, by simp, fun k hk => setRow_other w g k _ (by omega)⟩)
end
theorem BkF.path {w : World} {g : Nat} {cs : List Value} (h : BkF w g cs) {s : Nm} (hs : cs[0]? = some (.string s)) : w.cell? ⟨g, 0, none⟩ = some (.string s) := by
  rw [(cell_blk h.at_ 0).1]
  simpa using hs
theorem spNeq (a b c d : Int) (w : World) : (binOp .neq 81 (.agg #[.int .i64 a, .int .i64 b]) (.agg #[.int .i64 c, .int .i64 d])).run Tryz.prog w = .ok (.bool (!(decide (a = c) && decide (b = d)))) w := by
  go_simp
  by_cases h1 : a = c <;> by_cases h2 : b = d <;> simp [h1, h2]
/-- WHERE PATHS STAND. -/
theorem spQ_mem {p i : Nat} {fs : List (List Value)} {x : List Value} (h : fs[i]? = some x) : (pathC x, p, i) ∈ spQ p fs := by
  unfold spQ
  exact List.mem_map.2 ⟨(x, i), List.mem_zipIdx_iff_getElem?.2 h, rfl⟩
theorem spQ_inv {p : Nat} {fs : List (List Value)} {t : Nm × Nat × Nat} (h : t ∈ spQ p fs) : t.2.1 = p ∧ ∃ x, fs[t.2.2]? = some x ∧ t.1 = pathC x := by
  unfold spQ at h
  obtain ⟨⟨x, i⟩, h1, rfl⟩ := List.mem_map.1 h
  exact ⟨rfl, x, List.mem_zipIdx_iff_getElem?.1 h1, rfl⟩
theorem spL_mem {ps : List Pk} {p : Nat} {q : Pk} (hq : ps[p]? = some q) {t : Nm × Nat × Nat} (ht : t ∈ spQ p q.fs) : ∀ n, p < n → t ∈ spL ps n
  | 0, h => absurd h (Nat.not_lt_zero _)
  | n + 1, h => by
    unfold spL
    rw [List.mem_append]
    by_cases e : p = n
    · subst e; rw [hq]; exact .inr ht
    · exact .inl (spL_mem hq ht n (by omega))
theorem spL_inv {ps : List Pk} {t : Nm × Nat × Nat} : ∀ n, t ∈ spL ps n → t.2.1 < n ∧ ∃ q x, ps[t.2.1]? = some q ∧ q.fs[t.2.2]? = some x ∧ t.1 = pathC x
  | 0, h => by cases h
  | n + 1, h => by
    unfold spL at h
    rw [List.mem_append] at h
    rcases h with h | h
    · obtain ⟨h1, h2⟩ := spL_inv n h
      exact ⟨by omega, h2⟩
    · cases e : ps[n]? with
      | none => rw [e] at h; cases h
      | some q =>
        rw [e] at h
        obtain ⟨h1, x, h2, h3⟩ := spQ_inv h
        exact ⟨by omega, q, x, by rw [h1]; exact e, h2, h3⟩
theorem fst1_some {L : List (Nm × Nat × Nat)} {x : Nm} {s : Nat × Nat} (h : (x, s) ∈ L) : ∃ t, fst1 L x = some t ∧ (x, t) ∈ L := by
  unfold fst1
  cases e : L.find? fun t => decide (t.1 = x) with
  | none =>
    have := List.find?_eq_none.1 e (x, s) h
    simp at this
  | some t =>
    have h1 := List.find?_some e
    have h2 := List.mem_of_find?_eq_some e
    simp at h1
    exact ⟨t.2, rfl, by rw [← h1]; exact h2⟩
def paO (ps : List Pk) (p : Nat) (q : Pk) (i : Nat) (x : List Value) : List Ft := match fst1 (spL ps ps.length) (pathC x) with | some t => if t = (p, i) then [] else [⟨5, q.nm, q.vr, i, nmA ps t.1, vrA ps t.1⟩] | none => []
def paJ (ps : List Pk) (p : Nat) (q : Pk) : Nat → List Ft
  | 0 => []
  | i + 1 => paJ ps p q i ++ (match q.fs[i]? with | some x => paO ps p q i x | none => [])
theorem paO_len (ps : List Pk) (p : Nat) (q : Pk) (i : Nat) (x : List Value) : (paO ps p q i x).length ≤ 1 := by
  unfold paO
  cases fst1 (spL ps ps.length) (pathC x) with
  | none => simp
  | some t => simp only; split <;> simp
theorem paJ_len (ps : List Pk) (p : Nat) (q : Pk) : ∀ i, (paJ ps p q i).length ≤ i
  | 0 => Nat.le_refl _
  | i + 1 => by
    have ih := paJ_len ps p q i
    unfold paJ
    rw [List.length_append]
    cases q.fs[i]? with
    | none => simp; omega
    | some x => have := paO_len ps p q i x; simp only; omega
end Go.Proofs.YtjnbnndocinicaaGreatDoor
