import Derived.Test.YtoblmpfdbcmcaaaDsI
import Derived.Test.YtoblmpfdbcmcaaaLwH
namespace Go.Proofs.Ytoblmpfdbcmcaaa
open Go.RowKit

/-- WHAT THE LAW HAS LENT. -/
structure X3 (w : World) (ca pa : Option Addr) (N m : Nat) (ln : Nat → Nat) (L : Nat → Nat → Int) (f : Nat → Int) (B cB lo gp cpp : Nat) (g cp : Nat → Nat) (qa : Option Addr) (W : World) : Prop where
  tw : Tw w.heap.size B N cB ln g cp L W
  hd : Rv W qa N (Hd g ln cp)
  mp : Mk lo gp m cpp f W
  cl : Rr W ca N ln L
  pf : Ri W pa m f
  bel : Below w.heap.size w W
theorem X3.later {w : World} {ca pa : Option Addr} {N m : Nat} {ln : Nat → Nat} {L : Nat → Nat → Int} {f : Nat → Int} {B cB lo gp cpp : Nat} {g cp : Nat → Nat} {qa : Option Addr} {W W2 : World} (h : X3 w ca pa N m ln L f B cB lo gp cpp g cp qa W) (hb : Below W.heap.size W W2) : X3 w ca pa N m ln L f B cB lo gp cpp g cp qa W2 :=
  ⟨h.tw.later hb, h.hd.later hb, h.mp.later hb, h.cl.later hb, Ri.later h.pf hb, bl_t h.bel hb⟩
/-- A VARIABLE WITH AN ANSWER. -/
structure Vr (A : An) (rb base : Nat) (g : Option Addr) (c : Nat) (F : Nat → Bool) (W : World) : Prop where
  blk : W.heap[rb]? = some (.cells #[.int .i64 A.v, .slice g A.l c, .int .i64 (A.S : Int)] 29 (0, 0))
  ow : Ow base g A.l F W
theorem Vr.later {A : An} {rb base : Nat} {g : Option Addr} {c : Nat} {F : Nat → Bool} {W W2 : World} (h : Vr A rb base g c F W) (hb : Below W.heap.size W W2) : Vr A rb base g c F W2 := ⟨(hb.block _ (blk_lt h.blk)).trans h.blk, h.ow.later hb⟩
theorem Vr.new {A : An} {base : Nat} {g : Option Addr} {c : Nat} {F : Nat → Bool} {W : World} (h : Ow base g A.l F W) : Vr A W.heap.size base g c F (W.alloc (.cells #[.int .i64 A.v, .slice g A.l c, .int .i64 (A.S : Int)] 29)) := ⟨heap_new _ _, h.later (al W _)⟩
theorem Vr.cells {A : An} {rb base : Nat} {g : Option Addr} {c : Nat} {F : Nat → Bool} {W : World} (h : Vr A rb base g c F W) : W.cell? ⟨rb, 0, none⟩ = some (.int .i64 A.v) ∧ W.cell? ⟨rb, 1, none⟩ = some (.slice g A.l c) ∧ W.cell? ⟨rb, 2, none⟩ = some (.int .i64 (A.S : Int)) := ⟨(cell_blk h.blk 0).1, (cell_blk h.blk 1).1, (cell_blk h.blk 2).1⟩
theorem Vr.place {A : An} {rb base : Nat} {g : Option Addr} {c : Nat} {F : Nat → Bool} {W : World} (h : Vr A rb base g c F W) : ∃ b, 0 < A.l → g = some ⟨b, 0, none⟩ ∧ base ≤ b ∧ b < W.heap.size := by
  by_cases hl : 0 < A.l
  · obtain ⟨b, e, hb, cur, q1, _⟩ := h.ow hl
    exact ⟨b, fun _ => ⟨e, hb, blk_lt q1⟩⟩
  · exact ⟨0, fun q => absurd q hl⟩
theorem Vr.mw {A : An} {rb base b : Nat} {g : Option Addr} {c : Nat} {F : Nat → Bool} {W : World} (h : Vr A rb base g c F W) (e : 0 < A.l → g = some ⟨b, 0, none⟩) (hl : 0 < A.l) : Mw b A.l F W := by
  obtain ⟨b', e', _, hm⟩ := h.ow hl
  rw [e hl] at e'
  cases e'
  exact hm
/-- FOUR VARIABLES WITH ANSWERS, TWO OF THEM WRITTEN OVER. -/
structure Zs (w3 : World) (A : An) (ra rl rg rb : Nat) (g1 g2 g3 g4 : Option Addr) (c4 b1 b2 b3 b4 : Nat) (F1 F3 : Nat → Bool) (W : World) : Prop where
  bel : Below w3.heap.size w3 W
  va : W.heap[ra]? = some (.cells #[.int .i64 A.v, .slice g1 A.l A.l, .int .i64 (A.S : Int)] 29 (0, 0))
  vl_ : W.heap[rl]? = some (.cells #[.int .i64 A.v, .slice g2 A.l A.l, .int .i64 (A.S : Int)] 29 (0, 0))
  vg : W.heap[rg]? = some (.cells #[.int .i64 A.v, .slice g3 A.l A.l, .int .i64 (A.S : Int)] 29 (0, 0))
  vb : W.heap[rb]? = some (.cells #[.int .i64 A.v, .slice g4 A.l c4, .int .i64 (A.S : Int)] 29 (0, 0))
  m1 : 0 < A.l → Mw b1 A.l F1 W
  m2 : 0 < A.l → Mw b2 A.l A.F W
  m3 : 0 < A.l → Mw b3 A.l F3 W
  m4 : 0 < A.l → Mw b4 A.l A.F W
theorem Zs.later {w3 : World} {A : An} {ra rl rg rb : Nat} {g1 g2 g3 g4 : Option Addr} {c4 b1 b2 b3 b4 : Nat} {F1 F3 : Nat → Bool} {W W2 : World} (h : Zs w3 A ra rl rg rb g1 g2 g3 g4 c4 b1 b2 b3 b4 F1 F3 W) (hb : Below W.heap.size W W2) : Zs w3 A ra rl rg rb g1 g2 g3 g4 c4 b1 b2 b3 b4 F1 F3 W2 :=
  ⟨bl_t h.bel hb, (hb.block _ (blk_lt h.va)).trans h.va, (hb.block _ (blk_lt h.vl_)).trans h.vl_, (hb.block _ (blk_lt h.vg)).trans h.vg, (hb.block _ (blk_lt h.vb)).trans h.vb, fun hl => (h.m1 hl).later hb, fun hl => (h.m2 hl).later hb, fun hl => (h.m3 hl).later hb, fun hl => (h.m4 hl).later hb⟩
theorem Mw.other {b l x i : Nat} {F : Nat → Bool} {u : Value} {W : World} (h : Mw b l F W) (hn : b ≠ x) : Mw b l F (W.setCell ⟨x, i, none⟩ u) := by
  obtain ⟨cur, q1, q2⟩ := h
  exact ⟨cur, (set_other _ _ _ _ _ hn).trans q1, q2⟩
theorem Zs.set1 {w3 : World} {A : An} {ra rl rg rb : Nat} {g1 g2 g3 g4 : Option Addr} {c4 b1 b2 b3 b4 : Nat} {F1 F3 : Nat → Bool} {W : World} (h : Zs w3 A ra rl rg rb g1 g2 g3 g4 c4 b1 b2 b3 b4 F1 F3 W) (hq : w3.heap.size ≤ b1 ∧ b1 < b2 ∧ b2 < b3 ∧ b3 < b4) {i : Nat} (hi : i < A.l) (x : Bool) : Zs w3 A ra rl rg rb g1 g2 g3 g4 c4 b1 b2 b3 b4 (fun j => if j = i then x else F1 j) F3 (W.setCell ⟨b1, i, none⟩ (.bool x)) := by
  have hl : 0 < A.l := by omega
  obtain ⟨cur, q1, _⟩ := h.m1 hl
  have hb : ∀ q, q ≠ b1 → (W.setCell ⟨b1, i, none⟩ (.bool x)).heap[q]? = W.heap[q]? := fun q hq => set_other _ _ _ _ _ hq
  exact ⟨h.bel.setCell (p := ⟨b1, i, none⟩) hq.1 _, (hb _ (blk_ne (by decide) q1 h.va)).trans h.va, (hb _ (blk_ne (by decide) q1 h.vl_)).trans h.vl_, (hb _ (blk_ne (by decide) q1 h.vg)).trans h.vg, (hb _ (blk_ne (by decide) q1 h.vb)).trans h.vb, fun _ => (h.m1 hl).set hi x, fun _ => (h.m2 hl).other (by omega), fun _ => (h.m3 hl).other (by omega), fun _ => (h.m4 hl).other (by omega)⟩
theorem Zs.set3 {w3 : World} {A : An} {ra rl rg rb : Nat} {g1 g2 g3 g4 : Option Addr} {c4 b1 b2 b3 b4 : Nat} {F1 F3 : Nat → Bool} {W : World} (h : Zs w3 A ra rl rg rb g1 g2 g3 g4 c4 b1 b2 b3 b4 F1 F3 W) (hq : w3.heap.size ≤ b1 ∧ b1 < b2 ∧ b2 < b3 ∧ b3 < b4) {i : Nat} (hi : i < A.l) (x : Bool) : Zs w3 A ra rl rg rb g1 g2 g3 g4 c4 b1 b2 b3 b4 F1 (fun j => if j = i then x else F3 j) (W.setCell ⟨b3, i, none⟩ (.bool x)) := by
  have hl : 0 < A.l := by omega
  obtain ⟨cur, q1, _⟩ := h.m3 hl
  have hb : ∀ q, q ≠ b3 → (W.setCell ⟨b3, i, none⟩ (.bool x)).heap[q]? = W.heap[q]? := fun q hq => set_other _ _ _ _ _ hq
  exact ⟨h.bel.setCell (p := ⟨b3, i, none⟩) (by show w3.heap.size ≤ b3; omega) _, (hb _ (blk_ne (by decide) q1 h.va)).trans h.va, (hb _ (blk_ne (by decide) q1 h.vl_)).trans h.vl_, (hb _ (blk_ne (by decide) q1 h.vg)).trans h.vg, (hb _ (blk_ne (by decide) q1 h.vb)).trans h.vb, fun _ => (h.m1 hl).other (by omega), fun _ => (h.m2 hl).other (by omega), fun _ => (h.m3 hl).set hi x, fun _ => (h.m4 hl).other (by omega)⟩
/-- Where the values are. -/
def Zq (w3 : World) (A : An) (g1 g2 g3 g4 : Option Addr) (b1 b2 b3 b4 : Nat) : Prop := 0 < A.l → (g1 = some ⟨b1, 0, none⟩ ∧ g2 = some ⟨b2, 0, none⟩ ∧ g3 = some ⟨b3, 0, none⟩ ∧ g4 = some ⟨b4, 0, none⟩) ∧ w3.heap.size ≤ b1 ∧ b1 < b2 ∧ b2 < b3 ∧ b3 < b4
theorem Zs.rts {w3 : World} {A : An} {ra rl rg rb : Nat} {g1 g2 g3 g4 : Option Addr} {c4 b1 b2 b3 b4 : Nat} {F1 F3 : Nat → Bool} {W : World} (h : Zs w3 A ra rl rg rb g1 g2 g3 g4 c4 b1 b2 b3 b4 F1 F3 W) (q : Zq w3 A g1 g2 g3 g4 b1 b2 b3 b4) : Rt W g1 A.l F1 ∧ Rt W g2 A.l A.F ∧ Rt W g3 A.l F3 ∧ Rt W g4 A.l A.F := by
  refine ⟨fun hl => ?_, fun hl => ?_, fun hl => ?_, fun hl => ?_⟩
  · rw [(q hl).1.1]; exact (h.m1 hl).rt hl
  · rw [(q hl).1.2.1]; exact (h.m2 hl).rt hl
  · rw [(q hl).1.2.2.1]; exact (h.m3 hl).rt hl
  · rw [(q hl).1.2.2.2]; exact (h.m4 hl).rt hl
theorem blk3 {W : World} {rb : Nat} {c0 c1 c2 : Value} (h : W.heap[rb]? = some (.cells #[c0, c1, c2] 29 (0, 0))) : W.cell? ⟨rb, 0, none⟩ = some c0 ∧ W.cell? ⟨rb, 1, none⟩ = some c1 ∧ W.cell? ⟨rb, 2, none⟩ = some c2 := ⟨(cell_blk h 0).1, (cell_blk h 1).1, (cell_blk h 2).1⟩
theorem bools3 (W : World) (gx : Option Addr) (h : Rt W gx 3 (fun _ => true)) : Calls Try.prog 17 #[.slice gx 3 3, .slice (some ⟨W.heap.size, 0, none⟩) 3 3] (W.alloc (.cells #[.bool true, .bool true, .bool true] 4)) fun e w' => e = .returned (.bool true) ∧ Below W.heap.size W w' := by
  refine (bools_any 3 (fun _ => true) gx (some ⟨W.heap.size, 0, none⟩) 3 3 (W.alloc (.cells #[.bool true, .bool true, .bool true] 4)) (by decide) (h.later (al W _)) (fun _ => ⟨_, 0, rfl, blk_lt (heap_new _ _), fun i hi => cellA (heap_new W _) (by
    rcases (by omega : i = 0 ∨ i = 1 ∨ i = 2) with e | e | e <;> subst e <;> rfl)⟩)).mono fun x w' hx => ⟨hx.1, bl_t (al W _) hx.2⟩
theorem rt_cells {W : World} {g : Option Addr} {l : Nat} {F : Nat → Bool} (h : Rt W g l F) : ∀ b, g = some b → ∀ j u, (vl l (bv F))[j]? = some u → W.cell? (b.add j) = some u := fun b e j u hj => by
  have hlt : j < l := by
    have := (List.getElem?_eq_some_iff.1 hj).1
    rw [vl_len] at this
    exact this
  obtain ⟨b', o', e', _, hc⟩ := h (by omega)
  rw [e] at e'
  cases e'
  rw [vl_at l _ j hlt] at hj
  cases hj
  rw [Addr.add_mid]
  exact hc j hlt
theorem own_mono {W : World} {b0 b1 e size n : Nat} {v : Value} {xs : List Value} (h : W.ownsRow b1 e size v n xs) (hb : b0 ≤ b1) : W.ownsRow b0 e size v n xs := by
  refine ⟨h.1, ?_⟩
  rcases h.2 with q | ⟨g, cap, cur, q1, q2, q3⟩
  · exact .inl q
  · exact .inr ⟨g, cap, cur, q1, Nat.le_trans hb q2, q3⟩
/-- BEHIND THE TURNING. -/
structure Qs (w : World) (A : An) (rl rb : Nat) (g2 g4 : Option Addr) (c4 b2 b4 B N : Nat) (ln g cp : Nat → Nat) (LL : Nat → Nat → Int) (gp m : Nat) (ff : Nat → Int) (W : World) : Prop where
  wr : Wr w.heap.size B N ln g cp LL W
  pr : ∃ cur, W.heap[gp]? = some (.cells cur 3 (0, 0)) ∧ ∀ j, j < m → cur[j]? = some (.int .i64 (ff j))
  bel : Below w.heap.size w W
  vl_ : W.heap[rl]? = some (.cells #[.int .i64 A.v, .slice g2 A.l A.l, .int .i64 (A.S : Int)] 29 (0, 0))
  vb : W.heap[rb]? = some (.cells #[.int .i64 A.v, .slice g4 A.l c4, .int .i64 (A.S : Int)] 29 (0, 0))
  m2 : 0 < A.l → Mw b2 A.l A.F W
  m4 : 0 < A.l → Mw b4 A.l A.F W
theorem Qs.later {w : World} {A : An} {rl rb : Nat} {g2 g4 : Option Addr} {c4 b2 b4 B N : Nat} {ln g cp : Nat → Nat} {LL : Nat → Nat → Int} {gp m : Nat} {ff : Nat → Int} {W W2 : World} (h : Qs w A rl rb g2 g4 c4 b2 b4 B N ln g cp LL gp m ff W) (hb : Below W.heap.size W W2) : Qs w A rl rb g2 g4 c4 b2 b4 B N ln g cp LL gp m ff W2 := by
  obtain ⟨cur, p1, p2⟩ := h.pr
  exact ⟨h.wr.later hb, ⟨cur, (hb.block _ (blk_lt p1)).trans p1, p2⟩, bl_t h.bel hb, (hb.block _ (blk_lt h.vl_)).trans h.vl_, (hb.block _ (blk_lt h.vb)).trans h.vb, fun hl => (h.m2 hl).later hb, fun hl => (h.m4 hl).later hb⟩
theorem Qs.ri {w : World} {A : An} {rl rb : Nat} {g2 g4 : Option Addr} {c4 b2 b4 B N : Nat} {ln g cp : Nat → Nat} {LL : Nat → Nat → Int} {gp m : Nat} {ff : Nat → Int} {W : World} (h : Qs w A rl rb g2 g4 c4 b2 b4 B N ln g cp LL gp m ff W) : Ri W (some ⟨gp, 0, none⟩) m ff := by
  obtain ⟨cur, p1, p2⟩ := h.pr
  exact fun _ => ⟨gp, 0, rfl, blk_lt p1, fun i hi => by rw [Nat.zero_add, (cell_blk p1 i).1]; exact p2 i hi⟩
theorem Mw.same {b l : Nat} {F : Nat → Bool} {W W2 : World} (h : Mw b l F W) (e : W2.heap[b]? = W.heap[b]?) : Mw b l F W2 := by
  obtain ⟨cur, q1, q2⟩ := h
  exact ⟨cur, e.trans q1, q2⟩
/-- The clauses turned. -/
theorem Qs.first {w w3 : World} {ca pa : Option Addr} {N m : Nat} {ln : Nat → Nat} {L LL : Nat → Nat → Int} {f : Nat → Int} {B cB lo gp cpp : Nat} {g cp : Nat → Nat} {qa : Option Addr} {A : An} {ra rl rg rb : Nat} {g1 g2 g3 g4 : Option Addr} {c4 b1 b2 b3 b4 : Nat} {F1 F3 : Nat → Bool} {W W2 : World} (hx : X3 w ca pa N m ln L f B cB lo gp cpp g cp qa W) (hz : Zs w3 A ra rl rg rb g1 g2 g3 g4 c4 b1 b2 b3 b4 F1 F3 W) (hgp : ∀ k, k < N → gp ≠ g k) (hw : Wr w.heap.size B N ln g cp LL W2) (hb : Below w.heap.size W W2) (ho : Ot N g W W2) : Qs w A rl rb g2 g4 c4 b2 b4 B N ln g cp LL gp m f W2 := by
  have ne : ∀ {q t : Nat} {c : Array Value}, t ≠ 3 → W.heap[q]? = some (.cells c t (0, 0)) → W2.heap[q]? = W.heap[q]? := fun ht hq => ho _ fun k hk => by
    obtain ⟨c3, h3, _⟩ := hx.tw.wr.row k hk
    exact blk_ne (fun e => ht e.symm) h3 hq
  obtain ⟨cur, p1, p2, _⟩ := hx.mp.blk
  refine ⟨hw, ⟨cur, (ho gp hgp).trans p1, p2⟩, hx.bel.trans hb, (ne (by decide) hz.vl_).trans hz.vl_, (ne (by decide) hz.vb).trans hz.vb, fun hl => ?_, fun hl => ?_⟩
  · obtain ⟨c, q1, q2⟩ := hz.m2 hl
    exact (hz.m2 hl).same (ne (by decide) q1)
  · obtain ⟨c, q1, q2⟩ := hz.m4 hl
    exact (hz.m4 hl).same (ne (by decide) q1)
/-- What is preferred turned. -/
theorem Qs.then_ {w : World} {A : An} {rl rb : Nat} {g2 g4 : Option Addr} {c4 b2 b4 B N : Nat} {ln g cp : Nat → Nat} {LL : Nat → Nat → Int} {gp m : Nat} {ff f2 : Nat → Int} {W W2 : World} {B2 : Nat} {cp2 : Nat → Nat} (h : Qs w A rl rb g2 g4 c4 b2 b4 B N ln g cp LL gp m ff W) (hgp : ∀ k, k < N → gp ≠ g k) (hw : Wr w.heap.size B2 1 (fun _ => m) (fun _ => gp) cp2 (fun _ => f2) W2) (hb : Below w.heap.size W W2) (ho : Ot 1 (fun _ => gp) W W2) : Qs w A rl rb g2 g4 c4 b2 b4 B N ln g cp LL gp m f2 W2 := by
  obtain ⟨cur, p1, p2⟩ := h.pr
  have ne : ∀ {q t : Nat} {c : Array Value}, t ≠ 3 → W.heap[q]? = some (.cells c t (0, 0)) → W2.heap[q]? = W.heap[q]? := fun ht hq => ho _ fun k hk => blk_ne (fun e => ht e.symm) p1 hq
  refine ⟨?_, hw.row 0 (by decide), h.bel.trans hb, (ne (by decide) h.vl_).trans h.vl_, (ne (by decide) h.vb).trans h.vb, fun hl => ?_, fun hl => ?_⟩
  · obtain ⟨c, h1, h2⟩ := h.wr.blk
    refine ⟨⟨c, (ne (by decide) h1).trans h1, h2⟩, fun k hk => ?_, h.wr.ge, h.wr.ne⟩
    obtain ⟨c2, h3, h4⟩ := h.wr.row k hk
    exact ⟨c2, (ho (g k) fun _ _ e => hgp k hk e.symm).trans h3, h4⟩
  · obtain ⟨c, q1, q2⟩ := h.m2 hl
    exact (h.m2 hl).same (ne (by decide) q1)
  · obtain ⟨c, q1, q2⟩ := h.m4 hl
    exact (h.m4 hl).same (ne (by decide) q1)
theorem Qs.one {w : World} {A : An} {rl rb : Nat} {g2 g4 : Option Addr} {c4 b2 b4 B N : Nat} {ln g cp : Nat → Nat} {LL : Nat → Nat → Int} {gp m : Nat} {ff : Nat → Int} {W : World} (h : Qs w A rl rb g2 g4 c4 b2 b4 B N ln g cp LL gp m ff W) (hge : w.heap.size ≤ gp) (cpp : Nat) : Wr w.heap.size W.heap.size 1 (fun _ => m) (fun _ => gp) (fun _ => cpp) (fun _ => ff) (W.alloc (.cells #[.slice (some ⟨gp, 0, none⟩) m cpp] 23)) := by
  obtain ⟨cur, p1, p2⟩ := h.pr
  refine ⟨⟨_, heap_new _ _, fun k hk => ?_⟩, fun k _ => ⟨cur, ((al W (.cells #[.slice (some ⟨gp, 0, none⟩) m cpp] 23)).block _ (blk_lt p1)).trans p1, p2⟩, fun _ _ => hge, fun i j hi hj hn => by omega⟩
  obtain rfl : k = 0 := by omega
  rfl
set_option maxRecDepth 100000 in
set_option maxHeartbeats 8000000 in
theorem solves_walk (n : Int) (N : Nat) (ln : Nat → Nat) (L : Nat → Nat → Int) (m : Nat) (f : Nat → Int) (BB : Int) (ca pa : Option Addr) (cc pc : Nat) (w : World) (hN : N * 24 ≤ 140737488351232) (hln : ∀ k, k < N → ln k * 8 ≤ 140737488351232) (hm : m * 8 ≤ 140737488351232) (hR : Rr w ca N ln L) (hQ : Ri w pa m f) :
    Calls Try.prog 9 #[.int .i64 n, .slice ca N cc, .slice pa m pc, .int .i64 BB] w fun x w' => x = .returned (.bool true) ∧ Below w.heap.size w w' := by
  have HM := hide hln
  have HM2 := hide (show ∀ k, k < N → ln k ≤ 17592186044416 from fun k hk => by have := hln k hk; omega)
  have HM3 := hide (show ∀ k, k < N → ln k ≤ 140737488355328 from fun k hk => by have := hln k hk; omega)
  have HC := hide hR
  have HP := hide hQ
  have c1 := hide (twin_any N ln L ca cc w hN hln hR)
  have hAl : (an n BB N ln L m f).l ≤ 131071 := an_l
  have HSO := hide (fun (w1 : World) {ca pa : Option Addr} {cc pc : Nat} (h : Rr w1 ca N ln L) (h2 : Ri w1 pa m f) => Solve_an (n := n) (B := BB) (cc := cc) (qc := pc) (by omega) (by omega) (unhide HM3) h h2)
  have HRO := hide (fun (w1 : World) {ca pa : Option Addr} {cc pc : Nat} (h : Rr w1 ca N ln L) (h2 : Ri w1 pa m f) => rSolve_an (n := n) (B := BB) (cc := cc) (qc := pc) (by omega) (by omega) (unhide HM3) h h2)
  clear hln hR hQ
  generalize an n BB N ln L m f = A at *
  go_enter Try.func9, Try.ntmps9
  go_upto_region 2 with (go_at_call 14; refine (unhide c1).mono ?_; rintro x1 w1 ⟨B, cB, g, cp, rfl, htw, hb1⟩; have T1 := hide (And.intro htw hb1); clear htw hb1)
  go_upto_region 3 with (go_at_call 21; refine (headers_any N (Hd g ln cp) (fun _ => rfl) _ _ _ hN (unhide T1).1.hd).mono ?_; rintro x2 w2 ⟨qa, qc, rfl, hrv, hb2⟩; have T2 := hide (And.intro hrv hb2); clear hrv hb2)
  go_upto_region 4 with (go_at_call 15; refine (lent_any m f _ _ _ hm (Ri.later (Ri.later (unhide HP) (unhide T1).2) (unhide T2).2)).mono ?_; rintro x3 w3 ⟨gp, cpp, rfl, hmk, hb3⟩; have HX := hide (show X3 w ca pa N m ln L f B cB w2.heap.size gp cpp g cp qa w3 from ⟨((unhide T1).1.later (unhide T2).2).later hb3, (unhide T2).1.later hb3, hmk, (((unhide HC).later (unhide T1).2).later (unhide T2).2).later hb3, Ri.later (Ri.later (Ri.later (unhide HP) (unhide T1).2) (unhide T2).2) hb3, bl_t (bl_t (unhide T1).2 (unhide T2).2) hb3⟩); clear hmk hb3)
  have HGP := hide (show ∀ k, k < N → gp ≠ g k from fun k hk => by
    have a := ((unhide T1).1.row k hk).lt
    have b := (unhide T2).2.size
    have d := (unhide HX).mp.ge
    omega)
  have HGE := hide (show w.heap.size ≤ gp from by
    have a := (unhide HX).mp.ge
    have b := (unhide T1).2.size
    have c := (unhide T2).2.size
    omega)
  generalize w2.heap.size = lo at *
  clear T1 T2 c1
  go_upto_region 5 with (go_at_call 13; refine (unhide HSO _ (unhide HX).tw.rr (unhide HX).mp.ri).mono ?_; rintro x4 w4 ⟨g1, rfl, hb4, ho4⟩; have HB4 := hide (bl_t hb4 (al w4 (.cells #[.int .i64 A.v, .slice g1 A.l A.l, .int .i64 (A.S : Int)] 29))); have HV1 := hide (Vr.new (c := A.l) ho4); clear hb4 ho4)
  generalize w4.alloc (.cells #[.int .i64 A.v, .slice g1 A.l A.l, .int .i64 (A.S : Int)] 29) = W4 at *
  generalize w4.heap.size = ra at *
  obtain ⟨b1, hb1⟩ := (unhide HV1).place
  have HP1 := hide hb1
  have HX4 := hide ((unhide HX).later (unhide HB4))
  clear hb1
  go_upto_region 6 with (go_at_call 13; refine (unhide HSO _ (unhide HX4).tw.rr (unhide HX4).mp.ri).mono ?_; rintro x5 w5 ⟨g2, rfl, hb5, ho5⟩; have HB5 := hide (bl_t hb5 (al w5 (.cells #[.int .i64 A.v, .slice g2 A.l A.l, .int .i64 (A.S : Int)] 29))); have HV2 := hide (Vr.new (c := A.l) ho5); clear hb5 ho5)
  generalize w5.alloc (.cells #[.int .i64 A.v, .slice g2 A.l A.l, .int .i64 (A.S : Int)] 29) = W5 at *
  generalize w5.heap.size = rl at *
  obtain ⟨b2, hb2⟩ := (unhide HV2).place
  have HP2 := hide hb2
  have HV1b := hide ((unhide HV1).later (unhide HB5))
  have HB35 := hide (bl_t (unhide HB4) (unhide HB5))
  have HS45 := hide (unhide HB5).size
  clear hb2 HV1 HX4 HB4 HB5
  go_upto_region 7 with (go_at_call 13; refine (solveX W5).mono ?_; rintro x6 w6 ⟨gx, rfl, hrx, hb6⟩; have HB6 := hide (bl_t hb6 (al w6 (.cells #[.int .i64 1, .slice gx 3 3, .int .i64 8] 29))); have HZX := hide (heap_new w6 (.cells #[.int .i64 1, .slice gx 3 3, .int .i64 8] 29)); have HRX := hide (hrx.later (al w6 (.cells #[.int .i64 1, .slice gx 3 3, .int .i64 8] 29))); clear hb6 hrx)
  generalize w6.alloc (.cells #[.int .i64 1, .slice gx 3 3, .int .i64 8] 29) = W6 at *
  generalize w6.heap.size = rx at *
  have HX6 := hide ((unhide HX).later (bl_t (unhide HB35) (unhide HB6)))
  go_upto_region 8 with (go_at_call 13; refine (unhide HSO _ (unhide HX6).tw.rr (unhide HX6).mp.ri).mono ?_; rintro x7 w7 ⟨g3, rfl, hb7, ho7⟩; have HB7 := hide (bl_t hb7 (al w7 (.cells #[.int .i64 A.v, .slice g3 A.l A.l, .int .i64 (A.S : Int)] 29))); have HV3 := hide (Vr.new (c := A.l) ho7); clear hb7 ho7)
  generalize w7.alloc (.cells #[.int .i64 A.v, .slice g3 A.l A.l, .int .i64 (A.S : Int)] 29) = W7 at *
  generalize w7.heap.size = rg at *
  obtain ⟨b3, hb3⟩ := (unhide HV3).place
  have HP3 := hide hb3
  have HX7 := hide ((unhide HX6).later (unhide HB7))
  clear hb3 HX6
  go_upto_region 9 with (go_at_call 31; refine (unhide HRO _ (unhide HX7).cl (unhide HX7).pf).mono ?_; rintro x8 w8 ⟨g4, c4, rfl, hb8, ho8⟩; have HB8 := hide (bl_t hb8 (al w8 (.cells #[.int .i64 A.v, .slice g4 A.l c4, .int .i64 (A.S : Int)] 29))); have HV4 := hide (Vr.new (c := c4) ho8); clear hb8 ho8)
  generalize w8.alloc (.cells #[.int .i64 A.v, .slice g4 A.l c4, .int .i64 (A.S : Int)] 29) = W8 at *
  generalize w8.heap.size = rb at *
  obtain ⟨b4, hb4⟩ := (unhide HV4).place
  have HZQ := hide (show Zq w3 A g1 g2 g3 g4 b1 b2 b3 b4 from fun hl => by
    obtain ⟨p1, q1, r1⟩ := unhide HP1 hl
    obtain ⟨p2, q2, r2⟩ := unhide HP2 hl
    obtain ⟨p3, q3, r3⟩ := unhide HP3 hl
    obtain ⟨p4, q4, r4⟩ := hb4 hl
    have s6 := (unhide HB6).size
    have s7 := (unhide HB7).size
    exact ⟨⟨p1, p2, p3, p4⟩, q1, by omega, by omega, by omega⟩)
  have HZ := hide (show Zs w3 A ra rl rg rb g1 g2 g3 g4 c4 b1 b2 b3 b4 A.F A.F W8 from by
    have e5 := bl_t (bl_t (unhide HB6) (unhide HB7)) (unhide HB8)
    have v1 := (unhide HV1b).later e5
    have v2 := (unhide HV2).later e5
    have v3 := (unhide HV3).later (unhide HB8)
    have v4 := unhide HV4
    exact ⟨bl_t (unhide HB35) e5, v1.blk, v2.blk, v3.blk, v4.blk, v1.mw fun hl => (unhide HZQ hl).1.1, v2.mw fun hl => (unhide HZQ hl).1.2.1, v3.mw fun hl => (unhide HZQ hl).1.2.2.1, v4.mw fun hl => (unhide HZQ hl).1.2.2.2⟩)
  have HZX8 := hide (show W8.heap[rx]? = some (.cells #[.int .i64 1, .slice gx 3 3, .int .i64 8] 29 (0, 0)) ∧ Rt W8 gx 3 (fun _ => true) from by
    have e5 := bl_t (unhide HB7) (unhide HB8)
    exact ⟨(e5.block _ (blk_lt (unhide HZX))).trans (unhide HZX), (unhide HRX).later e5⟩)
  have HTW0 := hide (unhide HX)
  clear HP1 HP2 HP3 hb4 HV1b HV2 HV3 HV4 HZX HRX HX7 HB35 HB6 HB7 HB8 HS45 HX
  have ee : (A.e != A.e) = false := by simp
  obtain ⟨a0, a1, a2⟩ := blk3 (unhide HZ).va
  obtain ⟨l0, l1, l2⟩ := blk3 (unhide HZ).vl_
  obtain ⟨q0, q1, q2⟩ := blk3 (unhide HZ).vg
  obtain ⟨r0, r1, r2⟩ := blk3 (unhide HZ).vb
  obtain ⟨z0, z1, z2⟩ := blk3 (unhide HZX8).1
  go_upto_region 11 with (first | (go_at_call 25; refine (num_any _ _).mono ?_; rintro x9 w9 ⟨rfl, hw9⟩; rw [hw9]; clear hw9 w9) | (go_at_call 20; refine (found_any A.v A.S A.l A.F _ _ _ _ _ (by omega) (by first | exact ((unhide HZ).rts (unhide HZQ)).1 | exact ((unhide HZ).rts (unhide HZQ)).2.1 | exact ((unhide HZ).rts (unhide HZQ)).2.2.1) ((unhide HZ).rts (unhide HZQ)).2.2.2).mono ?_; rintro x9 w9 ⟨rfl, hbb⟩; have HZ := hide ((unhide HZ).later hbb); have HZX8 := hide (And.intro ((hbb.block _ (blk_lt (unhide HZX8).1)).trans (unhide HZX8).1) ((unhide HZX8).2.later hbb)); clear a0 a1 a2 l0 l1 l2 q0 q1 q2 r0 r1 r2 z0 z1 z2; obtain ⟨a0, a1, a2⟩ := blk3 (unhide HZ).va; obtain ⟨l0, l1, l2⟩ := blk3 (unhide HZ).vl_; obtain ⟨q0, q1, q2⟩ := blk3 (unhide HZ).vg; obtain ⟨r0, r1, r2⟩ := blk3 (unhide HZ).vb; obtain ⟨z0, z1, z2⟩ := blk3 (unhide HZX8).1; clear hbb) | (go_at_call 17; refine (bools3 _ gx (unhide HZX8).2).mono ?_; rintro x9 w9 ⟨rfl, hbb⟩; have HZ := hide ((unhide HZ).later hbb); have HZX8 := hide (And.intro ((hbb.block _ (blk_lt (unhide HZX8).1)).trans (unhide HZX8).1) ((unhide HZX8).2.later hbb)); clear a0 a1 a2 l0 l1 l2 q0 q1 q2 r0 r1 r2 z0 z1 z2; obtain ⟨a0, a1, a2⟩ := blk3 (unhide HZ).va; obtain ⟨l0, l1, l2⟩ := blk3 (unhide HZ).vl_; obtain ⟨q0, q1, q2⟩ := blk3 (unhide HZ).vg; obtain ⟨r0, r1, r2⟩ := blk3 (unhide HZ).vb; obtain ⟨z0, z1, z2⟩ := blk3 (unhide HZX8).1; clear hbb) | (go_at_call 26; refine (untouched_any w.heap.size B N cB ln g cp L qa ca qc cc _ (by omega) (unhide HM2) ((unhide HTW0).later (unhide HZ).bel).tw ((unhide HTW0).later (unhide HZ).bel).hd ((unhide HTW0).later (unhide HZ).bel).cl).mono ?_; rintro x9 w9 ⟨rfl, hbb⟩; have HZ := hide ((unhide HZ).later hbb); have HZX8 := hide (And.intro ((hbb.block _ (blk_lt (unhide HZX8).1)).trans (unhide HZX8).1) ((unhide HZX8).2.later hbb)); clear a0 a1 a2 l0 l1 l2 q0 q1 q2 r0 r1 r2 z0 z1 z2; obtain ⟨a0, a1, a2⟩ := blk3 (unhide HZ).va; obtain ⟨l0, l1, l2⟩ := blk3 (unhide HZ).vl_; obtain ⟨q0, q1, q2⟩ := blk3 (unhide HZ).vg; obtain ⟨r0, r1, r2⟩ := blk3 (unhide HZ).vb; obtain ⟨z0, z1, z2⟩ := blk3 (unhide HZX8).1; clear hbb) | (go_at_call 32; refine (still_any lo gp m cpp f pa pc _ (by omega) ((unhide HTW0).later (unhide HZ).bel).mp ((unhide HTW0).later (unhide HZ).bel).pf).mono ?_; rintro x9 w9 ⟨rfl, hbb⟩; have HZ := hide ((unhide HZ).later hbb); have HZX8 := hide (And.intro ((hbb.block _ (blk_lt (unhide HZX8).1)).trans (unhide HZX8).1) ((unhide HZX8).2.later hbb)); clear a0 a1 a2 l0 l1 l2 q0 q1 q2 r0 r1 r2 z0 z1 z2; obtain ⟨a0, a1, a2⟩ := blk3 (unhide HZ).va; obtain ⟨l0, l1, l2⟩ := blk3 (unhide HZ).vl_; obtain ⟨q0, q1, q2⟩ := blk3 (unhide HZ).vg; obtain ⟨r0, r1, r2⟩ := blk3 (unhide HZ).vb; obtain ⟨z0, z1, z2⟩ := blk3 (unhide HZX8).1; clear hbb))
  clear a0 a1 a2 l0 l1 l2 q0 q1 q2 r0 r1 r2 z0 z1 z2 HZX8
  have HZ1 := hide (show ∃ F1 F3, Zs w3 A ra rl rg rb g1 g2 g3 g4 c4 b1 b2 b3 b4 F1 F3 w9 from ⟨_, _, unhide HZ⟩)
  clear HZ
  go_wp2_with fail
  go_loopg [22] A.l (fun gq vi wr => ∃ i : Nat, vi = .int .i64 i ∧ i ≤ A.l ∧ A.l - i ≤ gq ∧ Hid (∃ F1 F3, Zs w3 A ra rl rg rb g1 g2 g3 g4 c4 b1 b2 b3 b4 F1 F3 wr))
  case atStart => exact ⟨0, by go_num, by omega, by omega, HZ1⟩
  case round =>
    clear HZ1
    obtain ⟨i, rfl, hi, hg, HZ1⟩ := hrel
    obtain ⟨F1, F3, hz⟩ := unhide HZ1
    have HZ := hide hz
    obtain ⟨a0, a1, a2⟩ := blk3 hz.va
    clear hz HZ1
    by_cases hlt : i < A.l
    · obtain ⟨⟨e1, e2, e3, e4⟩, hq⟩ := unhide HZQ (by omega)
      subst e1
      obtain ⟨cur, q1, q2⟩ := (unhide HZ).m1 (by omega)
      have ci := (cell_blk q1 i).1.trans (q2 i hlt)
      have fi := (cell_blk q1 i).2
      have HZ2 := hide (show ∃ G1 G3, Zs w3 A ra rl rg rb (some ⟨b1, 0, none⟩) g2 g3 g4 c4 b1 b2 b3 b4 G1 G3 (wr.setCell ⟨b1, i, none⟩ (.bool (!F1 i))) from ⟨_, _, (unhide HZ).set1 hq hlt (!F1 i)⟩)
      clear q1 q2 HZ e2 e3 e4 hq
      generalize F1 i = vb at *
      go_wp2_with fail
      go_region
      have HZ3 := hide (show ∃ G1 G3, Zs w3 A ra rl rg rb (some ⟨b1, 0, none⟩) g2 g3 g4 c4 b1 b2 b3 b4 G1 G3 (wr.setCell ⟨b1, i, none⟩ (.bool (!vb))).drew from by
        obtain ⟨G1, G3, h⟩ := unhide HZ2
        exact ⟨G1, G3, h.later ((Below.refl _ _).drew)⟩)
      clear HZ2 ci fi a0 a1 a2
      generalize (wr.setCell ⟨b1, i, none⟩ (.bool (!vb))).drew = W9 at HZ3 ⊢
      go_wp2_with fail
      go_roundg (A.l - (i + 1))
      case measure => omega
      case rel => exact ⟨i + 1, by go_num, by omega, by omega, HZ3⟩
    · go_upto_region 15 with fail
      clear a0 a1 a2 hlt hg hi
      have HZ1 := hide (show ∃ F1 F3, Zs w3 A ra rl rg rb g1 g2 g3 g4 c4 b1 b2 b3 b4 F1 F3 wr from ⟨_, _, unhide HZ⟩)
      clear HZ
      go_wp2_with fail
      go_loopg [23] A.l (fun gq vi wr => ∃ i : Nat, vi = .int .i64 i ∧ i ≤ A.l ∧ A.l - i ≤ gq ∧ Hid (∃ F1 F3, Zs w3 A ra rl rg rb g1 g2 g3 g4 c4 b1 b2 b3 b4 F1 F3 wr))
      case atStart => exact ⟨0, by go_num, by omega, by omega, HZ1⟩
      case round =>
        clear HZ1
        obtain ⟨j, rfl, hj, hgj, HZ1⟩ := hrel
        obtain ⟨F1, F3, hz⟩ := unhide HZ1
        have HZ := hide hz
        obtain ⟨a0, a1, a2⟩ := blk3 hz.va
        obtain ⟨q0, q1, q2⟩ := blk3 hz.vg
        clear hz HZ1
        by_cases hlt : j < A.l
        · obtain ⟨⟨e1, e2, e3, e4⟩, hq⟩ := unhide HZQ (by omega)
          subst e3
          obtain ⟨cur, p1, p2⟩ := (unhide HZ).m3 (by omega)
          have ci := (cell_blk p1 j).1.trans (p2 j hlt)
          have fi := (cell_blk p1 j).2
          have HZ2 := hide (show ∃ G1 G3, Zs w3 A ra rl rg rb g1 g2 (some ⟨b3, 0, none⟩) g4 c4 b1 b2 b3 b4 G1 G3 (wr.setCell ⟨b3, j, none⟩ (.bool true)) from ⟨_, _, (unhide HZ).set3 hq hlt true⟩)
          clear p1 p2 HZ e1 e2 e4 hq
          go_wp2_with fail
          go_roundg (A.l - (j + 1))
          case measure => omega
          case rel => exact ⟨j + 1, by go_num, by omega, by omega, HZ2⟩
        · go_upto_region 20 with fail
          clear a0 a1 a2 q0 q1 q2 hlt hgj hj
          obtain ⟨i0, hi0, hz0, hz1, hz2⟩ := info_parts infoB
          generalize wr = W10 at *
          go_wp2_with fail
          go_loopg [24, 25] 70 (fun gq vm vi wr => ∃ (i : Nat) (la : Option Addr) (lc : Nat), vi = .int .i64 i ∧ vm = .slice la (A.l + i) lc ∧ i ≤ 70 ∧ 70 - i ≤ gq ∧ Hid ((i = 0 ∧ la = g1 ∧ lc = A.l) ∨ (0 < i ∧ ∃ xs, wr.ownsRow W10.heap.size 4 1 (.slice la (A.l + i) lc) (A.l + i) xs)) ∧ Hid (Below W10.heap.size W10 wr))
          case atStart => exact ⟨0, g1, A.l, by go_num, rfl, by omega, by omega, hide (.inl ⟨rfl, rfl, rfl⟩), hide (Below.refl _ _)⟩
          case round =>
            obtain ⟨t, la, lc, rfl, rfl, ht, hgt, HO, HB⟩ := hrel
            have hsz := (unhide HB).size
            by_cases hlt : t < 70
            · rcases unhide HO with ⟨e1, e2, e3⟩ | ⟨e1, xs, ho⟩
              · subst e1
                subst e2
                subst e3
                have HRT := hide ((((unhide HZ).later (unhide HB)).rts (unhide HZQ)).1.later (al wr (.cells #[.bool true] 4)))
                have HNN := hide (show la = none → A.l = 0 ∧ A.l = 0 from fun e => by
                  by_cases hl : 0 < A.l
                  · have := (unhide HZQ hl).1.1
                    rw [e] at this
                    cases this
                  · omega)
                go_wp2_with (at_builtin; go_must (refine wpList_append_grows _ rfl _ _ 27 rfl 4 i0 (.bool false) 1 1 Try.underlying27 hi0 hz0 hz1 hz2 rfl (by decide) la A.l A.l (vl A.l (bv F1)) rfl (unhide HNN) (by simp [vl]) (rt_cells (unhide HRT)) ⟨wr.heap.size, 0, none⟩ 1 1 [.bool true] rfl rfl (cell_one_new _ _ _) (by simp [Value.oneCell']) (by omega) (by unfold maxLen; omega) (by omega) ?_); intro v9 w9 hown hgrow; obtain ⟨la9, lc9, hv9⟩ := owns_form hown; subst hv9; have HO9 := hide (show w9.ownsRow W10.heap.size 4 1 (.slice la9 (A.l + 1) lc9) (A.l + 1) _ from own_mono hown (by simp; omega)); have HB9 := hide (((unhide HB).alloc hsz _).grown hgrow (by simp; omega) (fun j e => by cases e)); clear hown hgrow)
                go_roundg (70 - 1)
                case measure => omega
                case rel => exact ⟨1, la9, lc9, by go_num, rfl, by omega, by omega, hide (.inr ⟨by omega, _, unhide HO9⟩), HB9⟩
              · have HO2 := hide ho
                clear ho HO
                go_wp2_with (at_builtin; go_must (refine wpList_append_lies _ rfl _ _ 27 rfl W10.heap.size 4 i0 (.bool false) 1 1 Try.underlying27 hi0 hz0 hz1 hz2 rfl (by decide) (.slice la (A.l + t) lc) (A.l + t) xs rfl ((unhide HO2).alloc _) ⟨wr.heap.size, 0, none⟩ 1 1 [.bool ((t : Int) % 2 == 0)] rfl rfl (cell_one_new _ _ _) (by simp [Value.oneCell']) (by decide) (by unfold maxLen; omega) (by omega) (by simp; omega) _ rfl ?_); intro gg c9 w9 hown hgrow hat _; have HO9 := hide hown; have HB9 := hide (((unhide HB).alloc hsz _).grown hgrow (by simp; omega) (fun j e => ((unhide HO2).lt j e).1)); clear hown hgrow hat)
                go_roundg (70 - (t + 1))
                case measure => omega
                case rel => exact ⟨t + 1, _, _, by go_num, rfl, by omega, by omega, hide (.inr ⟨by omega, _, unhide HO9⟩), HB9⟩
            · obtain rfl : t = 70 := by omega
              have HZ9 := hide ((unhide HZ).later (unhide HB))
              clear HZ HB HO hlt hgt ht hsz
              have HZ := HZ9
              clear HZ9
              obtain ⟨a0, a1, a2⟩ := blk3 (unhide HZ).va
              obtain ⟨l0, l1, l2⟩ := blk3 (unhide HZ).vl_
              obtain ⟨r0, r1, r2⟩ := blk3 (unhide HZ).vb
              go_upto_region 26 with (first | (go_at_call 20; refine (found_any A.v A.S A.l A.F _ _ _ _ _ (by omega) ((unhide HZ).rts (unhide HZQ)).2.1 ((unhide HZ).rts (unhide HZQ)).2.2.2).mono ?_; rintro x9 w9 ⟨rfl, hbb⟩; have HZ := hide ((unhide HZ).later hbb); clear a0 a1 a2 l0 l1 l2 r0 r1 r2; obtain ⟨a0, a1, a2⟩ := blk3 (unhide HZ).va; obtain ⟨l0, l1, l2⟩ := blk3 (unhide HZ).vl_; obtain ⟨r0, r1, r2⟩ := blk3 (unhide HZ).vb; clear hbb) | (go_at_call 26; refine (untouched_any w.heap.size B N cB ln g cp L qa ca qc cc _ (by omega) (unhide HM2) ((unhide HTW0).later (unhide HZ).bel).tw ((unhide HTW0).later (unhide HZ).bel).hd ((unhide HTW0).later (unhide HZ).bel).cl).mono ?_; rintro x9 w9 ⟨rfl, hbb⟩; have HZ := hide ((unhide HZ).later hbb); clear a0 a1 a2 l0 l1 l2 r0 r1 r2; obtain ⟨a0, a1, a2⟩ := blk3 (unhide HZ).va; obtain ⟨l0, l1, l2⟩ := blk3 (unhide HZ).vl_; obtain ⟨r0, r1, r2⟩ := blk3 (unhide HZ).vb; clear hbb) | (go_at_call 32; refine (still_any lo gp m cpp f pa pc _ (by omega) ((unhide HTW0).later (unhide HZ).bel).mp ((unhide HTW0).later (unhide HZ).bel).pf).mono ?_; rintro x9 w9 ⟨rfl, hbb⟩; have HZ := hide ((unhide HZ).later hbb); clear a0 a1 a2 l0 l1 l2 r0 r1 r2; obtain ⟨a0, a1, a2⟩ := blk3 (unhide HZ).va; obtain ⟨l0, l1, l2⟩ := blk3 (unhide HZ).vl_; obtain ⟨r0, r1, r2⟩ := blk3 (unhide HZ).vb; clear hbb))
              clear a0 a1 a2 l0 l1 l2 r0 r1 r2
              go_upto_region 27 with (go_at_call 28; refine (turned_any w.heap.size B N cB ln g cp L _ (by omega) (unhide HM2) ((unhide HTW0).later (unhide HZ).bel).tw.wr).mono ?_; rintro x10 w10 ⟨rfl, hwr, hb10, hot⟩; have HQ := hide (Qs.first ((unhide HTW0).later (unhide HZ).bel) (unhide HZ) (unhide HGP) hwr hb10 hot); clear hwr hb10 hot)
              go_upto_region 28 with (go_at_call 28; refine (turned_any w.heap.size w10.heap.size 1 1 (fun _ => m) (fun _ => gp) (fun _ => cpp) (fun _ => f) _ (by omega) (fun _ _ => by omega) ((unhide HQ).one (unhide HGE) cpp)).mono ?_; rintro x11 w11 ⟨rfl, hwr, hb11, hot⟩; have HQ2 := hide (((unhide HQ).later (al _ _)).then_ (unhide HGP) hwr hb11 hot); clear hwr hb11 hot)
              have HSO2 := hide (fun (w1 : World) {ca pa : Option Addr} {cc pc : Nat} (h : Rr w1 ca N ln (fun a b => tn (L a b))) (h2 : Ri w1 pa m (fun j => tn (f j))) => Solve_an (n := n) (B := BB) (cc := cc) (qc := pc) (by omega) (by omega) (unhide HM3) h h2)
              have HRO2 := hide (fun (w1 : World) {ca pa : Option Addr} {cc pc : Nat} (h : Rr w1 ca N ln (fun a b => tn (L a b))) (h2 : Ri w1 pa m (fun j => tn (f j))) => rSolve_an (n := n) (B := BB) (cc := cc) (qc := pc) (by omega) (by omega) (unhide HM3) h h2)
              have hA2l : (an n BB N ln (fun a b => tn (L a b)) m (fun j => tn (f j))).l ≤ 131071 := an_l
              have c2 := hide (fun w' (h : Rr w' (some ⟨B, 0, none⟩) N ln (fun a b => tn (L a b))) => twin_any N ln (fun a b => tn (L a b)) _ cB w' hN (unhide HM) h)
              obtain ⟨i3, hi3, hz30, hz31, hz32⟩ := info_parts infoI
              have r8 := hide (fun (w' : World) (h : Ri w' (some ⟨gp, 0, none⟩) m (fun j => tn (f j))) => app1 (P := Try.prog) 23 23 3 i3 (.int .i64 0) 1 8 Try.underlying23 hi3 hz30 hz31 hz32 rfl (by decide) m (vl m (iv (fun j => tn (f j)))) (by simp [vl]) (vl_one _ _ fun _ => rfl) (by omega) (by unfold maxLen; omega) (some ⟨gp, 0, none⟩) cpp w' (Rv.src h))
              generalize an n BB N ln (fun a b => tn (L a b)) m (fun j => tn (f j)) = A2 at HSO2 HRO2 hA2l
              generalize (fun a b => tn (L a b)) = LL at *
              generalize (fun j => tn (f j)) = ff at *
              clear hi3 hz30 hz31 hz32 hi0 hz0 hz1 hz2 HQ HZ HTW0
              go_upto_region 29 with (first | (go_at_call 14; refine (unhide c2 _ (unhide HQ2).wr.rr).mono ?_; rintro x12 w12 ⟨B2, cB2, g5, cp5, rfl, htw, hb12⟩; obtain ⟨v9, W9, r9, ho9, hb9, _⟩ := unhide r8 w12 (Ri.later (unhide HQ2).ri hb12); obtain ⟨fa, fc, hv9⟩ := owns_form ho9; subst hv9; have T9 := hide (show Rr W9 (some ⟨B2, 0, none⟩) N ln LL ∧ Ri W9 fa m ff ∧ Below w11.heap.size w11 W9 from ⟨htw.rr.later hb9, Rv.of_owns ho9, bl_t hb12 hb9⟩); clear htw hb12 ho9 hb9) | ((with_reducible refine wpList_append_run (o := { dst := some 201, op := Op.call { callee := Callee.builtin Builtin.append, args := #[Operand.tmp 199, Operand.tmp 200], argTypes := #[23, 23] }, type := 23, pos := "law.go:166", after := #[{ on := 3, ground := Ground.data }, { on := 4, ground := Ground.data }, { on := 2, ground := Ground.chain }], guard := none }) ?m1a (.tmp 199) (.tmp 200) 23 ?m1b _ _ ?m1c ?m1d r9 ?m1e); (case m1a => rfl); (case m1b => rfl); (case m1c => rfl); (case m1d => rfl)) | (go_at_call 31; refine (unhide HRO2 _ (unhide T9).1 (unhide T9).2.1).mono ?_; rintro x13 w13 ⟨gz, cz, rfl, hb13, ho13⟩; have HVz := hide (Vr.new (c := cz) ho13); have HQ3 := hide ((unhide HQ2).later (bl_t (bl_t (unhide T9).2.2 hb13) (al w13 (.cells #[.int .i64 A2.v, .slice gz A2.l cz, .int .i64 (A2.S : Int)] 29)))); clear hb13 ho13))
              generalize w13.alloc (.cells #[.int .i64 A2.v, .slice gz A2.l cz, .int .i64 (A2.S : Int)] 29) = W13 at *
              generalize w13.heap.size = rz at *
              clear T9 HQ2 c2 r8
              go_upto_region 30 with (go_at_call 13; refine (unhide HSO2 _ (unhide HQ3).wr.rr (unhide HQ3).ri).mono ?_; rintro x14 w14 ⟨gy, rfl, hb14, ho14⟩; have HVy := hide (Vr.new (c := A2.l) ho14); have HB14 := hide (bl_t hb14 (al w14 (.cells #[.int .i64 A2.v, .slice gy A2.l A2.l, .int .i64 (A2.S : Int)] 29))); clear hb14 ho14)
              generalize w14.alloc (.cells #[.int .i64 A2.v, .slice gy A2.l A2.l, .int .i64 (A2.S : Int)] 29) = W14 at *
              generalize w14.heap.size = ry at *
              have HQ4 := hide ((unhide HQ3).later (unhide HB14))
              have HVz4 := hide ((unhide HVz).later (unhide HB14))
              clear HQ3 HVz HB14
              have ez : (A2.e == A2.e) = true := by simp
              obtain ⟨a0, a1, a2⟩ := blk3 (unhide HVy).blk
              obtain ⟨q0, q1, q2⟩ := blk3 (unhide HVz4).blk
              obtain ⟨l0, l1, l2⟩ := blk3 (unhide HQ4).vl_
              obtain ⟨r0, r1, r2⟩ := blk3 (unhide HQ4).vb
              have HR2 := hide (show ∀ W, Qs w A rl rb g2 g4 c4 b2 b4 B N ln g cp LL gp m ff W → Rt W g2 A.l A.F ∧ Rt W g4 A.l A.F from fun W h => ⟨fun hl => by rw [(unhide HZQ hl).1.2.1]; exact (h.m2 hl).rt hl, fun hl => by rw [(unhide HZQ hl).1.2.2.2]; exact (h.m4 hl).rt hl⟩)
              have G1 := hide True.intro
              go_wp2_with (first | (go_at_call 25; refine (num_any _ _).mono ?_; rintro x15 w15 ⟨rfl, hw15⟩; rw [hw15]; clear hw15 w15) | (go_at_call 20; clear G1; refine (found_any A2.v A2.S A2.l A2.F _ _ _ _ _ (by omega) (unhide HVy).ow.rt (unhide HVz4).ow.rt).mono ?_; rintro x16 w16 ⟨rfl, hb16⟩; have HQ5 := hide ((unhide HQ4).later hb16); clear a0 a1 a2 q0 q1 q2 l0 l1 l2 r0 r1 r2 HVy HVz4 hb16; obtain ⟨l0, l1, l2⟩ := blk3 (unhide HQ5).vl_; obtain ⟨r0, r1, r2⟩ := blk3 (unhide HQ5).vb) | (go_at_call 20; refine (found_any A.v A.S A.l A.F _ _ _ _ _ (by omega) (unhide HR2 _ (unhide HQ5)).1 (unhide HR2 _ (unhide HQ5)).2).mono ?_; rintro x17 w17 ⟨rfl, hb17⟩; have HB17 := hide (bl_t (unhide HQ5).bel hb17); clear hb17))
              go_ret
              exact ⟨rfl, unhide HB17⟩
end Go.Proofs.Ytoblmpfdbcmcaaa
