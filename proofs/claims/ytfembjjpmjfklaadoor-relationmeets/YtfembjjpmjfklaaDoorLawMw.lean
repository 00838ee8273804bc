import Derived.Test.YtfembjjpmjfklaaDoorLawMs
namespace Go.Proofs.YtfembjjpmjfklaaDoor
open Go.RowKit

def provB : ByteArray := ⟨#[112, 114, 111, 118, 105, 100, 101, 100]⟩

/-- THREE CELLS OF A BLOCK ARE SET. -/
def set3 (W : World) (C i : Nat) (a b c : Value) : World := ((W.setCell ⟨C, i, none⟩ a).setCell ⟨C, i + 1, none⟩ b).setCell ⟨C, i + 2, none⟩ c

theorem set3_off {W : World} {C i : Nat} {a b c : Value} (j : Nat) (h0 : j ≠ i) (h1 : j ≠ i + 1) (h2 : j ≠ i + 2) : (set3 W C i a b c).cell? ⟨C, j, none⟩ = W.cell? ⟨C, j, none⟩ := by
  unfold set3
  rw [World.cell?_setCell_other _ _ _ _ (off_ne (Ne.symm h2)), World.cell?_setCell_other _ _ _ _ (off_ne (Ne.symm h1)), World.cell?_setCell_other _ _ _ _ (off_ne (Ne.symm h0))]
theorem set3_blk {W : World} {C i : Nat} {a b c : Value} (d j : Nat) (h : C ≠ d) : (set3 W C i a b c).cell? ⟨d, j, none⟩ = W.cell? ⟨d, j, none⟩ := by
  unfold set3
  rw [World.cell?_setCell_other _ _ _ _ (blk_ne h), World.cell?_setCell_other _ _ _ _ (blk_ne h), World.cell?_setCell_other _ _ _ _ (blk_ne h)]
theorem set3_in {W : World} {C i : Nat} {a b c u0 u1 u2 : Value} (h0 : W.cell? ⟨C, i, none⟩ = some u0) (h1 : W.cell? ⟨C, i + 1, none⟩ = some u1) (h2 : W.cell? ⟨C, i + 2, none⟩ = some u2) :
    (set3 W C i a b c).cell? ⟨C, i, none⟩ = some a ∧ (set3 W C i a b c).cell? ⟨C, i + 1, none⟩ = some b ∧ (set3 W C i a b c).cell? ⟨C, i + 2, none⟩ = some c := by
  unfold set3
  refine ⟨?_, ?_, ?_⟩
  · rw [World.cell?_setCell_other _ _ _ _ (off_ne (by omega)), World.cell?_setCell_other _ _ _ _ (off_ne (by omega))]
    exact World.cell?_setCell_same _ _ _ h0
  · rw [World.cell?_setCell_other _ _ _ _ (off_ne (by omega))]
    exact World.cell?_setCell_same _ _ _ (by rw [World.cell?_setCell_other _ _ _ _ (off_ne (by omega))]; exact h1)
  · exact World.cell?_setCell_same _ _ _ (by rw [World.cell?_setCell_other _ _ _ _ (off_ne (by omega)), World.cell?_setCell_other _ _ _ _ (off_ne (by omega))]; exact h2)
theorem set3_fr {W : World} {C i : Nat} {a b c : Value} (x : Addr) : (set3 W C i a b c).frozen? x = W.frozen? x := by
  unfold set3
  rw [World.frozen?_setCell, World.frozen?_setCell, World.frozen?_setCell]
theorem set3_size {W : World} {C i : Nat} {a b c : Value} : (set3 W C i a b c).heap.size = W.heap.size := by
  unfold set3; simp
theorem set3_below {w W : World} {base C i : Nat} {a b c : Value} (h : Below base w W) (hC : base ≤ C) : Below base w (set3 W C i a b c) :=
  ((h.setCell (p := ⟨C, i, none⟩) hC a).setCell (p := ⟨C, i + 1, none⟩) hC b).setCell (p := ⟨C, i + 2, none⟩) hC c

theorem Lent.put {w W : World} {M C K : Nat} {al : List At} (h : Lent w W M C K al) (k : Nat) (hk : k < al.length) (x : At) :
    Lent w (set3 W C (k * 3) (.string x.n) (.int .i64 x.op) (.string x.v)) M C K (al.set k x) := by
  obtain ⟨e0, e1, e2⟩ := h.elem k hk
  obtain ⟨s0, s1, s2⟩ := set3_in (a := .string x.n) (b := .int .i64 x.op) (c := .string x.v) e0 e1 e2
  have n1 := h.ne
  have n2 := h.ne2
  have n3 := h.loM
  refine ⟨fun i hi => ?_, ?_, ?_, ?_, ?_, ?_, ?_, ?_, ?_, fun j => ?_, ?_, ?_, ?_, h.loM, h.ne, h.ne2, ?_⟩
  · have hi' : i < al.length := by simpa using hi
    by_cases e : k = i
    · subst e
      rw [List.getElem_set_self]
      exact ⟨s0, s1, s2⟩
    · rw [List.getElem_set_ne e]
      rw [set3_off _ (by omega) (by omega) (by omega), set3_off _ (by omega) (by omega) (by omega), set3_off _ (by omega) (by omega) (by omega)]
      exact h.elem i hi'
  · rw [List.length_set, set3_off _ (by omega) (by omega) (by omega)]; exact h.l0
  · rw [List.length_set, set3_off _ (by omega) (by omega) (by omega)]; exact h.l1
  · rw [List.length_set, set3_off _ (by omega) (by omega) (by omega)]; exact h.l2
  · rw [List.length_set, set3_blk _ _ (by omega)]; exact h.m0
  · rw [set3_blk _ _ (by omega)]; exact h.m1
  · rw [set3_blk _ _ (by omega)]; exact h.k0
  · rw [set3_blk _ _ (by omega)]; exact h.k1
  · rw [set3_blk _ _ (by omega)]; exact h.k2
  · rw [set3_fr]; exact h.frC j
  · rw [set3_size]; exact h.ltM
  · rw [set3_size]; exact h.ltC
  · rw [set3_size]; exact h.ltK
  · exact set3_below h.bel (by omega)

/-- AN ATOM OF THE CLAUSE THAT IS LENT OUT IS WRITTEN OVER. -/
theorem LM.put {w W : World} {n : ByteArray} {op : Int} {bd nm vr : ByteArray} {pv : Value} {cs : List Value} {M C K N Q : Nat} {al : List At} {pl : List ByteArray} {qs : List Value} (h : LM w W n op bd nm vr pv cs M C K N Q al pl qs) (k : Nat) (hk : k < al.length) (x : At) :
    LM w (set3 W C (k * 3) (.string x.n) (.int .i64 x.op) (.string x.v)) n op bd nm vr pv cs M C K N Q (al.set k x) pl qs := by
  obtain ⟨w1, h1, g1⟩ := h.lent
  have h2 := h.nms
  have n1 := h1.ne
  have n2 := h1.loM
  have n3 := h.cn
  have n4 := h.ord
  refine ⟨⟨?_, ?_, ?_, ?_, ?_, ?_, ?_, ?_⟩, fun j v hv => ?_, ⟨w1, h1.put k hk x, g1⟩, ⟨fun i hi => ?_, fun j => ?_, ?_⟩, h.cn, h.kn, ?_, fun j v hv => ?_, ?_, h.ord, ?_⟩
  · rw [set3_blk _ _ (by omega)]; exact h.box.a0
  · rw [set3_blk _ _ (by omega)]; exact h.box.a1
  · rw [set3_blk _ _ (by omega)]; exact h.box.a2
  · rw [set3_blk _ _ (by omega)]; exact h.box.p0
  · rw [set3_blk _ _ (by omega)]; exact h.box.p1
  · rw [set3_blk _ _ (by omega)]; exact h.box.p6
  · rw [set3_size]; exact h.box.bl
  · rw [set3_size]; exact h.box.cl
  · rw [set3_blk _ _ (by omega)]; exact h.rp j v hv
  · rw [set3_blk _ _ (by omega)]; exact h2.elem i hi
  · rw [set3_fr]; exact h2.fr j
  · rw [set3_size]; exact h2.lt
  · rw [set3_blk _ _ (by omega)]; exact h.mark
  · rw [set3_blk _ _ (by omega)]; exact h.rq j v hv
  · rw [set3_size]; exact h.ltQ
  · exact set3_below h.bel (by omega)

/-- A NAME THAT IS LENT OUT IS WRITTEN OVER. -/
theorem LM.name {w W : World} {n : ByteArray} {op : Int} {bd nm vr : ByteArray} {pv : Value} {cs : List Value} {M C K N Q : Nat} {al : List At} {pl : List ByteArray} {qs : List Value} (h : LM w W n op bd nm vr pv cs M C K N Q al pl qs) (k : Nat) (hk : k < pl.length) (x : ByteArray) :
    LM w (W.setCell ⟨N, k, none⟩ (.string x)) n op bd nm vr pv cs M C K N Q al (pl.set k x) qs := by
  obtain ⟨w1, h1, g1⟩ := h.lent
  have h2 := h.nms
  have n1 := h1.ne
  have n2 := h1.loM
  have n3 := h.cn
  have n4 := h.ord
  have n5 := h.kn
  have hM : ∀ d j, N ≠ d → (W.setCell ⟨N, k, none⟩ (.string x)).cell? ⟨d, j, none⟩ = W.cell? ⟨d, j, none⟩ := fun d j hd => World.cell?_setCell_other _ _ _ _ (blk_ne hd)
  have hN : ∀ j, k ≠ j → (W.setCell ⟨N, k, none⟩ (.string x)).cell? ⟨N, j, none⟩ = W.cell? ⟨N, j, none⟩ := fun j hj => World.cell?_setCell_other _ _ _ _ (off_ne hj)
  have hs : (W.setCell ⟨N, k, none⟩ (.string x)).heap.size = W.heap.size := by simp
  refine ⟨⟨?_, ?_, ?_, ?_, ?_, ?_, ?_, ?_⟩, fun j v hv => ?_, ⟨w1, ⟨fun i hi => ?_, ?_, ?_, ?_, ?_, ?_, ?_, ?_, ?_, fun j => ?_, ?_, ?_, ?_, h1.loM, h1.ne, h1.ne2, ?_⟩, g1⟩, ⟨fun i hi => ?_, fun j => ?_, ?_⟩, h.cn, h.kn, ?_, fun j v hv => ?_, ?_, h.ord, ?_⟩
  · rw [hM _ _ (by omega)]; exact h.box.a0
  · rw [hM _ _ (by omega)]; exact h.box.a1
  · rw [hM _ _ (by omega)]; exact h.box.a2
  · rw [hM _ _ (by omega)]; exact h.box.p0
  · rw [hM _ _ (by omega)]; exact h.box.p1
  · rw [hM _ _ (by omega)]; exact h.box.p6
  · rw [hs]; exact h.box.bl
  · rw [hs]; exact h.box.cl
  · rw [hM _ _ (by omega)]; exact h.rp j v hv
  · rw [hM _ _ (by omega), hM _ _ (by omega), hM _ _ (by omega)]; exact h1.elem i hi
  · rw [hM _ _ (by omega)]; exact h1.l0
  · rw [hM _ _ (by omega)]; exact h1.l1
  · rw [hM _ _ (by omega)]; exact h1.l2
  · rw [hM _ _ (by omega)]; exact h1.m0
  · rw [hM _ _ (by omega)]; exact h1.m1
  · rw [hM _ _ (by omega)]; exact h1.k0
  · rw [hM _ _ (by omega)]; exact h1.k1
  · rw [hM _ _ (by omega)]; exact h1.k2
  · rw [World.frozen?_setCell]; exact h1.frC j
  · rw [hs]; exact h1.ltM
  · rw [hs]; exact h1.ltC
  · rw [hs]; exact h1.ltK
  · exact h1.bel.setCell (p := ⟨N, k, none⟩) (show w1.heap.size ≤ N by omega) _
  · have hi' : i < pl.length := by simpa using hi
    by_cases e : k = i
    · subst e
      rw [List.getElem_set_self]
      exact World.cell?_setCell_same _ _ _ (h2.elem k hk)
    · rw [List.getElem_set_ne e, hN _ e]
      exact h2.elem i hi'
  · rw [World.frozen?_setCell]; exact h2.fr j
  · rw [hs]; exact h2.lt
  · rw [List.length_set, hN _ (by omega)]; exact h.mark
  · rw [hM _ _ (by omega)]; exact h.rq j v hv
  · rw [hs]; exact h.ltQ
  · exact h.bel.setCell (p := ⟨N, k, none⟩) (show w.heap.size ≤ N by omega) _

end Go.Proofs.YtfembjjpmjfklaaDoor
