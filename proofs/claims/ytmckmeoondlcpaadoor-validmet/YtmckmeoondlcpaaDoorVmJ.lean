import Derived.Test.YtmckmeoondlcpaaDoorVmI
namespace Go.Proofs.YtmckmeoondlcpaaDoor
open Go.RowKit

theorem cell_heap {W W' : World} {D : Nat} (h : W'.heap[D]? = W.heap[D]?) (j : Nat) : W'.cell? ⟨D, j, none⟩ = W.cell? ⟨D, j, none⟩ := by
  unfold World.cell?
  simp [h]
theorem frozen_heap {W W' : World} {D : Nat} (h : W'.heap[D]? = W.heap[D]?) (j : Nat) : W'.frozen? ⟨D, j, none⟩ = W.frozen? ⟨D, j, none⟩ := by
  unfold World.frozen?
  simp [h]
theorem infoPz : ∃ zc : List Value, (Tryd.prog.info? 38).map (fun i => (i.zero, i.size, i.bytes)) = some (some (.agg zc.toArray), 43, 232) ∧ zc.length = 43 :=
  ⟨((((Tryd.prog.info? 38).bind (·.zero)).map fun z => z.cells.toList).getD []), by kernel_rfl, by kernel_rfl⟩
theorem makeQ : ∃ zc : Array Value, ∀ (n : Nat) (_ : n ≤ 606627104962) (u : World), (Instr.makeSlice 22 (.int .i64 ((n : Int) + 1)) (.int .i64 ((n : Int) + 1))).run Tryd.prog u =
    .ok (.slice (some ⟨u.heap.size, 0, none⟩) (n + 1) (n + 1)) (u.alloc (.cells (madeCells zc ((n + 1) * 43)) 38)) := by
  obtain ⟨zc, hzc, _⟩ := infoPz
  obtain ⟨i0, hi, hz0, hz1, hz2⟩ := info_parts hzc
  refine ⟨zc.toArray, fun n hn u => ?_⟩
  have h := run_make (P := Tryd.prog) u 22 38 i0 (.agg zc.toArray) Tryd.underlying22 hi hz0 .i64 .i64 ((n : Int) + 1) ((n : Int) + 1) (by omega) (Int.le_refl _) (by rw [hz2]; omega) (by omega)
  have e : ((n : Int) + 1).toNat = n + 1 := by omega
  rw [e] at h
  simpa [hz1, Value.cells] using h
section
variable {ops : Array Oper} {rest : List Oper} {o : Oper} {a : Act} {w : World} {Q : Exit → Act → World → Prop}
theorem p_storem (x y : Operand) (ho : o.op = .store 38 x y) (hw : Region.wanted o (yielded ops a.tmps) = true) (b off : Nat) (hx : a.eval x = .pointer (some ⟨b, off, none⟩)) (l : List Value) (hy : a.eval y = .agg l.toArray) (hl : l.length = 43) (h1 : ∀ x ∈ l, x.oneCell' = true) (ht : w.there b off 43)
    (h : wpList Tryd.prog ops Q rest (a.put o.dst undef) (w.setCells b off l)) : wpList Tryd.prog ops Q (o :: rest) a w := by
  refine BigFrame.wpList_want hw fun K hK => ?_
  exact wp_store_mid 38 x y ho b off l.toArray hx hy (by rw [List.size_toArray, hl]; exact ht) (by rw [sizeP, List.size_toArray, hl]) (all_oneCell_toArray h1) (hK _ _ h)
theorem p_storef (x y : Operand) (ho : o.op = .store 40 x y) (hw : Region.wanted o (yielded ops a.tmps) = true) (b off : Nat) (hx : a.eval x = .pointer (some ⟨b, off, none⟩)) (l : List Value) (hy : a.eval y = .agg l.toArray) (hl : l.length = 34) (h1 : ∀ x ∈ l, x.oneCell' = true) (ht : w.there b off 34)
    (h : wpList Tryd.prog ops Q rest (a.put o.dst undef) (w.setCells b off l)) : wpList Tryd.prog ops Q (o :: rest) a w := by
  refine BigFrame.wpList_want hw fun K hK => ?_
  exact wp_store_mid 40 x y ho b off l.toArray hx hy (by rw [List.size_toArray, hl]; exact ht) (by rw [infoF, List.size_toArray, hl]) (all_oneCell_toArray h1) (hK _ _ h)
end
/-- THE CELLS OF A PACKAGE WHOSE LISTS ARE SET ANEW. -/
theorem PkC.lists {cs : List Value} {p : Pk} {d r c v f d' r' c' v' f' : Value} (h : PkC cs p d r c v f) (od : d'.oneCell' = true) (or : r'.oneCell' = true) (oc : c'.oneCell' = true) (ov : v'.oneCell' = true) (of : f'.oneCell' = true) (hs : p.sm.length = 32) :
    PkC (((((cs.set 3 d').set 4 r').set 5 c').set 6 v').set 7 f') p d' r' c' v' f' := by
  have hl := h.len
  refine ⟨by simp [hl], fun x hx => ?_, ?_, ?_, ?_, ?_, ?_, ?_, ?_, ?_, ?_, ?_, fun j x hx => ?_, ?_⟩
  · rcases List.mem_or_eq_of_mem_set hx with hx | rfl
    · rcases List.mem_or_eq_of_mem_set hx with hx | rfl
      · rcases List.mem_or_eq_of_mem_set hx with hx | rfl
        · rcases List.mem_or_eq_of_mem_set hx with hx | rfl
          · rcases List.mem_or_eq_of_mem_set hx with hx | rfl
            · exact h.one x hx
            · exact od
          · exact or
        · exact oc
      · exact ov
    · exact of
  · simp [h.c0]
  · simp [h.c1]
  · simp [h.c2]
  · simp [hl]
  · simp [hl]
  · simp [hl]
  · simp [hl]
  · simp [hl]
  · simp [h.c8]
  · simp [h.c9]
  · have hj : j < 32 := by rw [← hs]; exact (List.getElem?_eq_some_iff.1 hx).1
    rw [List.getElem?_set_ne (by omega), List.getElem?_set_ne (by omega), List.getElem?_set_ne (by omega), List.getElem?_set_ne (by omega), List.getElem?_set_ne (by omega)]
    exact h.cs0 j x hx
  · simp [h.c42]
/-- TEXTS WITH THEIR MARK. -/
theorem Blk.markS {W : World} {B : Nat} {pl : List ByteArray} (h : Blk W B (pl.map .string) (pl.length + 1)) : Blk (W.setCell ⟨B, pl.length, none⟩ (.string ⟨#[77, 65, 82, 75]⟩)) B (pl.map .string ++ [.string ⟨#[77, 65, 82, 75]⟩]) (pl.length + 1) := by
  obtain ⟨z, hz⟩ := Option.isSome_iff_exists.1 (h.spot pl.length (by omega))
  refine ⟨fun j v hv => ?_, fun j hj => ?_, fun j => ?_, by simpa using h.lt⟩
  · by_cases e : j = pl.length
    · subst e
      rw [List.getElem?_append_right (by simp)] at hv
      simp at hv
      subst hv
      exact World.cell?_setCell_same _ _ _ hz
    · have hj := (List.getElem?_eq_some_iff.1 hv).1
      simp at hj
      rw [List.getElem?_append_left (by simp; omega)] at hv
      rw [World.cell?_setCell_other _ _ _ _ (off_ne (Ne.symm e))]
      exact h.elem j v hv
  · by_cases e : j = pl.length
    · subst e; rw [World.cell?_setCell_same _ _ _ hz]; rfl
    · rw [World.cell?_setCell_other _ _ _ _ (off_ne (Ne.symm e))]; exact h.spot j hj
  · rw [World.frozen?_setCell]; exact h.fr j
/-- FILES WITH THEIR MARK. -/
theorem Blk.markF {W : World} {B : Nat} {fs : List (List Value)} (hf : ∀ x ∈ fs, isF x) (h : Blk W B fs.flatten ((fs.length + 1) * 34)) (ms : List Value) (hm : ms.length = 34) (h0 : ms[0]? = some (.string ⟨#[77, 65, 82, 75]⟩)) : Blk (W.setCells B (fs.length * 34) ms) B (fs.flatten ++ [.string ⟨#[77, 65, 82, 75]⟩]) ((fs.length + 1) * 34) := by
  have hl := flat_lenm 34 fs (fun r hr => (hf r hr).1)
  have hp := h.put (fs.length * 34) ms (by omega)
  refine ⟨fun j v hv => ?_, hp.spot, hp.fr, hp.lt⟩
  by_cases e : j < fs.flatten.length
  · rw [List.getElem?_append_left e] at hv
    exact hp.elem j v hv
  · rw [List.getElem?_append_right (by omega)] at hv
    have hj := (List.getElem?_eq_some_iff.1 hv).1
    rw [List.length_singleton] at hj
    obtain rfl : j = fs.length * 34 := by omega
    rw [hl, Nat.sub_self] at hv
    have := World.rangeAt_setCells_same W B (fs.length * 34) ms (by rw [hm]; exact fun j hj => ⟨h.spot _ (by omega), h.fr _⟩) 0 _ h0
    rw [Nat.add_zero] at this
    rw [this]
    exact hv
end Go.Proofs.YtmckmeoondlcpaaDoor
