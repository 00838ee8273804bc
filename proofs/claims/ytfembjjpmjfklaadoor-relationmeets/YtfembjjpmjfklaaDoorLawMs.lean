import Derived.Test.YtfembjjpmjfklaaDoorFirstR
import Derived.Test.YtfembjjpmjfklaaDoorNms
namespace Go.Proofs.YtfembjjpmjfklaaDoor
open Go.RowKit

theorem Lent.later {w W W' : World} {M C K : Nat} {al : List At} (h : Lent w W M C K al) (hb : Below W.heap.size W W') : Lent w W' M C K al :=
  ⟨fun i hi => ⟨(hb.cell (p := ⟨C, _, none⟩) h.ltC).trans (h.elem i hi).1, (hb.cell (p := ⟨C, _, none⟩) h.ltC).trans (h.elem i hi).2.1, (hb.cell (p := ⟨C, _, none⟩) h.ltC).trans (h.elem i hi).2.2⟩,
    (hb.cell (p := ⟨C, _, none⟩) h.ltC).trans h.l0, (hb.cell (p := ⟨C, _, none⟩) h.ltC).trans h.l1, (hb.cell (p := ⟨C, _, none⟩) h.ltC).trans h.l2,
    (hb.cell (p := ⟨M, _, none⟩) h.ltM).trans h.m0, (hb.cell (p := ⟨M, _, none⟩) h.ltM).trans h.m1, (hb.cell (p := ⟨K, _, none⟩) h.ltK).trans h.k0, (hb.cell (p := ⟨K, _, none⟩) h.ltK).trans h.k1, (hb.cell (p := ⟨K, _, none⟩) h.ltK).trans h.k2,
    fun j => (hb.frozen (p := ⟨C, j, none⟩) h.ltC).trans (h.frC j), Nat.lt_of_lt_of_le h.ltM hb.size, Nat.lt_of_lt_of_le h.ltC hb.size, Nat.lt_of_lt_of_le h.ltK hb.size, h.loM, h.ne, h.ne2, h.bel.trans (hb.mono h.bel.size)⟩

/-- NAMES IN A ROW THAT MAY BE WRITTEN. -/
structure Nm (W : World) (N : Nat) (pl : List ByteArray) : Prop where
  elem : ∀ i (h : i < pl.length), W.cell? ⟨N, i, none⟩ = some (.string pl[i])
  fr : ∀ j, W.frozen? ⟨N, j, none⟩ = false
  lt : N < W.heap.size
theorem Nm.later {W W' : World} {N : Nat} {pl : List ByteArray} (h : Nm W N pl) (hb : Below W.heap.size W W') : Nm W' N pl :=
  ⟨fun i hi => (hb.cell (p := ⟨N, i, none⟩) h.lt).trans (h.elem i hi), fun j => (hb.frozen (p := ⟨N, j, none⟩) h.lt).trans (h.fr j), Nat.lt_of_lt_of_le h.lt hb.size⟩
theorem Nm.strs {W : World} {N : Nat} {pl : List ByteArray} (h : Nm W N pl) (hb : pl.length ≤ 9223372036854775807) (c : Nat) : Strs W (.slice (some ⟨N, 0, none⟩) pl.length c) pl :=
  ⟨_, c, rfl, hb, fun i hi => ⟨N, 0, rfl, h.lt, by rw [Nat.zero_add]; exact h.elem i hi⟩⟩

/-- ALL THAT THE LAW HAS LAID: THE TWO BOXES, THE CLAUSE LENT OUT, THE NAMES LENT OUT, THE OTHER PACKAGE. -/
structure LM (w W : World) (n : ByteArray) (op : Int) (bd nm vr : ByteArray) (pv : Value) (cs : List Value) (M C K N Q : Nat) (al : List At) (pl : List ByteArray) (qs : List Value) : Prop where
  box : Boxes W w.heap.size (w.heap.size + 1) n op bd nm vr pv
  rp : W.rangeAt (w.heap.size + 1) 0 cs
  lent : ∃ w1 : World, Lent w1 W M C K al ∧ w.heap.size + 1 < w1.heap.size
  nms : Nm W N pl
  cn : C < N
  kn : K < N
  mark : W.cell? ⟨N, pl.length, none⟩ = some (.string ⟨#[77, 65, 82, 75]⟩)
  rq : W.rangeAt Q 0 qs
  ltQ : Q < W.heap.size
  ord : N < Q
  bel : Below w.heap.size w W

theorem LM.later {w W W' : World} {n : ByteArray} {op : Int} {bd nm vr : ByteArray} {pv : Value} {cs : List Value} {M C K N Q : Nat} {al : List At} {pl : List ByteArray} {qs : List Value} (h : LM w W n op bd nm vr pv cs M C K N Q al pl qs) (hb : Below W.heap.size W W') : LM w W' n op bd nm vr pv cs M C K N Q al pl qs := by
  obtain ⟨w1, h1, g1⟩ := h.lent
  exact ⟨h.box.later hb, range_later1 h.rp h.box.cl hb, ⟨w1, h1.later hb, g1⟩, h.nms.later hb, h.cn, h.kn, (hb.cell (p := ⟨N, _, none⟩) h.nms.lt).trans h.mark, range_later1 h.rq h.ltQ hb, Nat.lt_of_lt_of_le h.ltQ hb.size, h.ord, h.bel.trans (hb.mono h.bel.size)⟩

theorem Pkg.set {cs : List Value} {nm vr : ByteArray} {pv : Value} (h : Pkg cs nm vr pv) (x : Value) : Pkg (cs.set 6 x) nm vr x :=
  ⟨by rw [List.length_set]; exact h.len, by rw [List.getElem?_set_ne (by decide)]; exact h.n, by rw [List.getElem?_set_ne (by decide)]; exact h.v, by rw [List.getElem?_set_self (by rw [h.len]; decide)]⟩

/-- A CELL OF A ROW IS SET. -/
theorem range_set {W : World} {b i : Nat} {cs : List Value} {x : Value} (h : W.rangeAt b 0 cs) (hi : i < cs.length) : (W.setCell ⟨b, i, none⟩ x).rangeAt b 0 (cs.set i x) := fun j v hj => by
  rw [Nat.zero_add]
  have hlt : j < cs.length := by
    have := (List.getElem?_eq_some_iff.1 hj).1
    simpa using this
  by_cases e : i = j
  · subst e
    rw [List.getElem?_set_self hi] at hj
    obtain ⟨u, hu⟩ : ∃ u, cs[i]? = some u := ⟨_, List.getElem?_eq_getElem hlt⟩
    have hc := h i u hu
    rw [Nat.zero_add] at hc
    rw [World.cell?_setCell_same _ _ _ hc]
    exact hj
  · rw [List.getElem?_set_ne e] at hj
    rw [World.cell?_setCell_other _ _ _ _ (off_ne e)]
    have hc := h j v hj
    rw [Nat.zero_add] at hc
    exact hc

/-- WHAT STANDS BEHIND THE OTHER PACKAGE'S PROVIDES HAS BEEN SET. -/
theorem lm_start {w W0 W1 W2 W3 W5 : World} {n : ByteArray} {op : Int} {bd nm vr : ByteArray} {pv : Value} {cs : List Value} {M C K : Nat} {al : List At} {pl : List ByteArray} (x : Value)
    (hbx : Boxes W0 w.heap.size (w.heap.size + 1) n op bd nm vr pv) (hr : W0.rangeAt (w.heap.size + 1) 0 cs) (hB0 : Below w.heap.size w W0) (hB1 : Below W0.heap.size W0 W1) (hL : Lent W1 W2 M C K al) (hN : Nms W2 W3 W2.heap.size pl)
    (hlen : cs.length = 43) (hr5 : W5.rangeAt W3.heap.size 0 cs) (hl5 : W3.heap.size < W5.heap.size) (hB5 : Below W3.heap.size (W3.setCell ⟨W2.heap.size, pl.length, none⟩ (.string ⟨#[77, 65, 82, 75]⟩)) W5) :
    LM w (W5.setCell ⟨W3.heap.size, 6, none⟩ x) n op bd nm vr pv cs M C K W2.heap.size W3.heap.size al pl (cs.set 6 x) := by
  obtain ⟨hM, hmk⟩ := hN.mark
  have s1 := hB1.size
  have s2 := hL.bel.size
  have s3 := hN.bel.size
  have hs4 : (W3.setCell ⟨W2.heap.size, pl.length, none⟩ (.string ⟨#[77, 65, 82, 75]⟩)).heap.size = W3.heap.size := by simp
  have hB5' : Below (W3.setCell ⟨W2.heap.size, pl.length, none⟩ (.string ⟨#[77, 65, 82, 75]⟩)).heap.size (W3.setCell ⟨W2.heap.size, pl.length, none⟩ (.string ⟨#[77, 65, 82, 75]⟩)) W5 := by rw [hs4]; exact hB5
  have B46 := hB5'.setCell (p := ⟨W3.heap.size, 6, none⟩) (Nat.le_of_eq hs4) x
  have hM6 := hM.later B46
  have B26 : Below W2.heap.size W2 (W5.setCell ⟨W3.heap.size, 6, none⟩ x) := hM6.bel
  have hL6 := hL.later B26
  have B06 : Below W0.heap.size W0 (W5.setCell ⟨W3.heap.size, 6, none⟩ x) := (hB1.trans (hL.bel.mono s1)).trans (B26.mono (by omega))
  have hcl := hbx.cl
  exact ⟨hbx.later B06, range_later1 hr hbx.cl B06, ⟨W1, hL6, by omega⟩, ⟨hM6.elem, hM6.fr, hM6.lt⟩, hL.ltC, hL.ltK, (B46.cell (p := ⟨W2.heap.size, pl.length, none⟩) (by rw [hs4]; exact hN.lt)).trans hmk, range_set hr5 (by omega), by simpa using hl5, hN.lt, hB0.trans (B06.mono hB0.size)⟩

end Go.Proofs.YtfembjjpmjfklaaDoor
