import Derived.Test.YtabjbppekijfiaaDcX
namespace Go.Proofs.Ytabjbppekijfiaa
open Go.RowKit

theorem ps_len (n : Nat) (ln : Nat → Nat) (L : Nat → Nat → Int) (B : Nat) (q : List Int) : ∀ k, (ps n ln L B q k).length ≤ q.length
  | 0 => Nat.le_refl _
  | k + 1 => by
    have ih := ps_len n ln L B q k
    unfold ps
    split
    · exact Nat.le_trans (List.length_filter_le _ _) ih
    · exact ih
theorem cf_len (n : Nat) (ln : Nat → Nat) (L : Nat → Nat → Int) (B : Nat) : ∀ r q, (cf n ln L B r q).length ≤ q.length
  | 0, _ => Nat.le_refl _
  | r + 1, q => by
    unfold cf
    split
    · exact Nat.le_refl _
    · exact Nat.le_trans (cf_len n ln L B r _) (ps_len n ln L B q _)
theorem acr_len (n B : Int) (N : Nat) (ln : Nat → Nat) (L : Nat → Nat → Int) : (acr n B N ln L).p.length ≤ N := by
  unfold acr
  split
  · show (if _ then _ else _ : List Int).length ≤ N
    split
    · exact Nat.le_trans (cf_len _ _ _ _ _ _) (by rw [p0_len]; exact Nat.le_refl _)
    · exact Nat.zero_le _
  · exact Nat.zero_le _
/-- THE CORE BETWEEN. -/
def lnY (_ : Nat) : Nat := 1
def LY (i _ : Nat) : Int := if i = 2 then -1 else 1
theorem acY : acr 1 100 3 lnY LY = ⟨2, [1, 2], 0⟩ := by kernel_rfl
theorem coreX (w : World) : Calls Try.prog 29 #[.int .i64 1, .slice (some ⟨w.heap.size + 1 + 1 + 1, 0, none⟩) 3 3, .int .i64 100] ((((w.alloc (.cells #[.int .i64 1] 3)).alloc (.cells #[.int .i64 1] 3)).alloc (.cells #[.int .i64 (-1)] 3)).alloc (.cells #[.slice (some ⟨w.heap.size, 0, none⟩) 1 1, .slice (some ⟨w.heap.size + 1, 0, none⟩) 1 1, .slice (some ⟨w.heap.size + 1 + 1, 0, none⟩) 1 1] 23))
    fun x w' => ∃ la lc, x = .returned (.tuple #[.slice la 2 lc, .int .i64 2, .int .i64 0]) ∧ w'.ownsRow w.heap.size 3 1 (.slice la 2 lc) 2 (tV [1, 2]) ∧ Below w.heap.size w w' := by
  obtain ⟨b1, b2, b3, b4, hb⟩ := lay4 w (.cells #[.int .i64 1] 3) (.cells #[.int .i64 1] 3) (.cells #[.int .i64 (-1)] 3) (.cells #[.slice (some ⟨w.heap.size, 0, none⟩) 1 1, .slice (some ⟨w.heap.size + 1, 0, none⟩) 1 1, .slice (some ⟨w.heap.size + 1 + 1, 0, none⟩) 1 1] 23)
  refine (Core_an (n := 1) (B := 100) (N := 3) (ln := lnY) (L := LY) (by decide) (fun k _ => by unfold lnY; decide) ⟨fun k => if k = 0 then some ⟨w.heap.size, 0, none⟩ else if k = 1 then some ⟨w.heap.size + 1, 0, none⟩ else some ⟨w.heap.size + 1 + 1, 0, none⟩, fun _ => 1, fun _ => ⟨_, 0, rfl, blk_lt b4, fun i hi => cellA b4 (by
      have hi2 : i < 3 := hi
      rcases (by omega : i = 0 ∨ i = 1 ∨ i = 2) with e | e | e <;> subst e <;> rfl)⟩, fun k hk _ => by
      have hk2 : k < 3 := hk
      rcases (by omega : k = 0 ∨ k = 1 ∨ k = 2) with e | e | e
      · subst e
        exact ⟨_, 0, rfl, blk_lt b1, fun i hi => cellA b1 (by
          have hi2 : i < 1 := hi
          obtain rfl : i = 0 := by omega
          rfl)⟩
      · subst e
        exact ⟨_, 0, rfl, blk_lt b2, fun i hi => cellA b2 (by
          have hi2 : i < 1 := hi
          obtain rfl : i = 0 := by omega
          rfl)⟩
      · subst e
        exact ⟨_, 0, rfl, blk_lt b3, fun i hi => cellA b3 (by
          have hi2 : i < 1 := hi
          obtain rfl : i = 0 := by omega
          rfl)⟩⟩).mono fun x w' hx => ?_
  rw [acY] at hx
  obtain ⟨la, lc, rfl, how, hb2⟩ := hx
  exact ⟨la, lc, rfl, own_up how (by simp; omega), bl_t hb hb2⟩
theorem numX (W : World) {g : Option Addr} {c : Nat} (h : Ri W g 2 (fun j => ([1, 2] : List Int).getD j 0)) : Calls Try.prog 34 #[.slice g 2 c, .slice (some ⟨W.heap.size, 0, none⟩) 2 2] (W.alloc (.cells #[.int .i64 1, .int .i64 2] 3)) fun e w' => e = .returned (.bool true) ∧ Below W.heap.size W w' := by
  refine (numbers_any 2 (fun j => ([1, 2] : List Int).getD j 0) g (some ⟨W.heap.size, 0, none⟩) c 2 (W.alloc (.cells #[.int .i64 1, .int .i64 2] 3)) (by decide) (Ri.later h (al W _)) (fun _ => ⟨_, 0, rfl, blk_lt (heap_new _ _), fun i hi => cellA (heap_new W _) (by
    rcases (by omega : i = 0 ∨ i = 1) with e | e <;> subst e <;> rfl)⟩)).mono fun x w' hx => ⟨hx.1, bl_t (al W _) hx.2⟩

/-- HEADERS THAT MAY BE EXCHANGED. -/
def Rw1 (W : World) (G : Option Addr) (l : Nat) (M : Nat → Int) : Prop := 0 < l → ∃ b cur, G = some ⟨b, 0, none⟩ ∧ W.heap[b]? = some (.cells cur 3 (0, 0)) ∧ ∀ j, j < l → cur[j]? = some (.int .i64 (M j))
theorem Rw1.ri {W : World} {G : Option Addr} {l : Nat} {M : Nat → Int} (h : Rw1 W G l M) : Ri W G l M := fun h0 => by
  obtain ⟨b, cur, e, h1, h2⟩ := h h0
  exact ⟨b, 0, e, blk_lt h1, fun i hi => by rw [Nat.zero_add, (cell_blk h1 i).1]; exact h2 i hi⟩
theorem Rw1.later {W W2 : World} {G : Option Addr} {l : Nat} {M : Nat → Int} (h : Rw1 W G l M) (hb : Below W.heap.size W W2) : Rw1 W2 G l M := fun h0 => by
  obtain ⟨b, cur, e, h1, h2⟩ := h h0
  exact ⟨b, cur, e, (hb.block _ (blk_lt h1)).trans h1, h2⟩
/-- A header with its row. -/
def Hr (W : World) (u : Value) : Prop := ∃ G l c M, u = .slice G l c ∧ l * 8 ≤ 140737488351232 ∧ Rw1 W G l M
theorem Hr.later {W W2 : World} {u : Value} (h : Hr W u) (hb : Below W.heap.size W W2) : Hr W2 u := by
  obtain ⟨G, l, c, M, h1, h2, h3⟩ := h
  exact ⟨G, l, c, M, h1, h2, h3.later hb⟩
structure Sxk (base B N : Nat) (W : World) : Prop where
  ge : base ≤ B
  blk : ∃ cur, W.heap[B]? = some (.cells cur 23 (0, 0)) ∧ ∀ k, k < N → ∃ u, cur[k]? = some u ∧ Hr W u
theorem Sxk.later {base B N : Nat} {W W2 : World} (h : Sxk base B N W) (hb : Below W.heap.size W W2) : Sxk base B N W2 := by
  obtain ⟨cur, h1, h2⟩ := h.blk
  refine ⟨h.ge, cur, (hb.block _ (blk_lt h1)).trans h1, fun k hk => ?_⟩
  obtain ⟨u, h3, h4⟩ := h2 k hk
  exact ⟨u, h3, h4.later hb⟩
theorem Sxk.at {base B N : Nat} {W : World} (h : Sxk base B N W) {k : Nat} (hk : k < N) : ∃ u, W.cell? ⟨B, k, none⟩ = some u ∧ W.frozen? ⟨B, k, none⟩ = false ∧ Hr W u := by
  obtain ⟨cur, h1, h2⟩ := h.blk
  obtain ⟨u, h3, h4⟩ := h2 k hk
  exact ⟨u, (cell_blk h1 k).1.trans h3, (cell_blk h1 k).2, h4⟩
theorem Hr.set {base B N : Nat} {W : World} (h : Sxk base B N W) {u : Value} (hu : Hr W u) (k : Nat) (v : Value) : Hr (W.setCell ⟨B, k, none⟩ v) u := by
  obtain ⟨cur, h1, _⟩ := h.blk
  obtain ⟨G, l, c, M, e, h2, h3⟩ := hu
  refine ⟨G, l, c, M, e, h2, fun h0 => ?_⟩
  obtain ⟨b, cu, e2, h4, h5⟩ := h3 h0
  exact ⟨b, cu, e2, (set_other _ _ _ _ _ (blk_ne (by decide) h1 h4)).trans h4, h5⟩
theorem Sxk.set {base B N : Nat} {W : World} (h : Sxk base B N W) {u : Value} (hu : Hr W u) (k : Nat) : Sxk base B N (W.setCell ⟨B, k, none⟩ u) := by
  obtain ⟨cur, h1, h2⟩ := h.blk
  refine ⟨h.ge, _, set_blk h1 k u, fun i hi => ?_⟩
  obtain ⟨v, h3, h4⟩ := h2 i hi
  by_cases e : i = k
  · subst e
    have hlt := (Array.getElem?_eq_some_iff.1 h3).1
    exact ⟨u, by simp [hlt], hu.set h _ _⟩
  · exact ⟨v, by rw [Array.getElem?_setIfInBounds_ne (fun q => e q.symm)]; exact h3, h4.set h _ _⟩
theorem Sxk.two {base B N : Nat} {W : World} (h : Sxk base B N W) {k j : Nat} (hkj : k ≠ j) {v : Value} (hc : W.cell? ⟨B, j, none⟩ = some v) (x : Value) : (W.setCell ⟨B, k, none⟩ x).cell? ⟨B, j, none⟩ = some v := by
  obtain ⟨cur, h1, _⟩ := h.blk
  rw [(cell_blk h1 j).1] at hc
  rw [(cell_blk (set_blk h1 k x) j).1, Array.getElem?_setIfInBounds_ne hkj]
  exact hc
theorem Sxk.rr {base B N : Nat} {W : World} (h : Sxk base B N W) : ∃ ln L, Rr W (some ⟨B, 0, none⟩) N ln L ∧ ∀ k, k < N → ln k * 8 ≤ 140737488351232 := by
  have hx : ∀ k, ∃ (G : Option Addr) (l c : Nat) (M : Nat → Int), k < N → W.cell? ⟨B, k, none⟩ = some (.slice G l c) ∧ l * 8 ≤ 140737488351232 ∧ Rw1 W G l M := fun k => by
    by_cases hk : k < N
    · obtain ⟨u, h1, _, G, l, c, M, rfl, h3, h4⟩ := h.at hk
      exact ⟨G, l, c, M, fun _ => ⟨h1, h3, h4⟩⟩
    · exact ⟨none, 0, 0, nof, fun q => absurd q hk⟩
  obtain ⟨G, hx⟩ := Classical.axiomOfChoice hx
  obtain ⟨l, hx⟩ := Classical.axiomOfChoice hx
  obtain ⟨c, hx⟩ := Classical.axiomOfChoice hx
  obtain ⟨M, hx⟩ := Classical.axiomOfChoice hx
  obtain ⟨cur, h1, _⟩ := h.blk
  exact ⟨l, M, ⟨G, c, fun _ => ⟨B, 0, rfl, blk_lt h1, fun i hi => by rw [Nat.zero_add]; exact (hx i hi).1⟩, fun k hk => (hx k hk).2.2.ri⟩, fun k hk => (hx k hk).2.1⟩
theorem Tw.sxk {base B N cB : Nat} {ln g cp : Nat → Nat} {L : Nat → Nat → Int} {W : World} (hB : base ≤ B) (hm : ∀ k, k < N → ln k * 8 ≤ 140737488351232) (h : Tw base B N cB ln g cp L W) : Sxk base B N W := by
  obtain ⟨cur, h1, h2⟩ := h.wr.blk
  refine ⟨hB, cur, h1, fun k hk => ⟨_, h2 k hk, some ⟨g k, 0, none⟩, ln k, cp k, L k, rfl, hm k hk, fun _ => ?_⟩⟩
  obtain ⟨c2, h3, h4⟩ := h.wr.row k hk
  exact ⟨g k, c2, rfl, h3, h4⟩
theorem Hr.nil (W : World) : Hr W (.slice none 0 0) := ⟨none, 0, 0, nof, rfl, by decide, fun h => absurd h (Nat.lt_irrefl _)⟩
end Go.Proofs.Ytabjbppekijfiaa

namespace Go.Proofs.Ytabjbppekijfiaa
open Go.RowKit

/-- WHAT THE LAW HAS LENT. -/
structure X4 (w : World) (ca : Option Addr) (N : Nat) (ln : Nat → Nat) (L : Nat → Nat → Int) (B cB : Nat) (g cp : Nat → Nat) (qa : Option Addr) (W : World) : Prop where
  tw : Tw w.heap.size B N cB ln g cp L W
  hd : Rv W qa N (Hd g ln cp)
  cl : Rr W ca N ln L
  bel : Below w.heap.size w W
theorem X4.later {w : World} {ca : Option Addr} {N : Nat} {ln : Nat → Nat} {L : Nat → Nat → Int} {B cB : Nat} {g cp : Nat → Nat} {qa : Option Addr} {W W2 : World} (h : X4 w ca N ln L B cB g cp qa W) (hb : Below W.heap.size W W2) : X4 w ca N ln L B cB g cp qa W2 :=
  ⟨h.tw.later hb, h.hd.later hb, h.cl.later hb, bl_t h.bel hb⟩
/-- Where a list may be. -/
def Pl (lo hi : Nat) (G : Option Addr) : Prop := ∀ b, G = some b → lo ≤ b.block ∧ b.block < hi
theorem Ro1.off {W : World} {lo base n c : Nat} {G : Option Addr} {p : List Int} (hb : base ≤ lo) (hn : p.length = n) (h : W.ownsRow lo 3 1 (.slice G n c) n (tV p)) : ∃ g, Ro1 base G g n c (fun j => p.getD j 0) W ∧ Pl lo W.heap.size G := by
  obtain ⟨g, hg⟩ := Ro1.of hn (own_up h hb)
  refine ⟨g, hg, fun b e => ?_⟩
  rcases h.2 with ⟨h1, _⟩ | ⟨g', cap, cur, h1, h2, h3, _⟩
  · cases h1; cases e
  · cases h1; cases e; exact ⟨h2, blk_lt h3⟩
theorem Ro1.later {lo : Nat} {G : Option Addr} {g l c : Nat} {V : Nat → Int} {W W2 : World} (h : Ro1 lo G g l c V W) (hb : Below W.heap.size W W2) : Ro1 lo G g l c V W2 := h.same fun ⟨_, q⟩ _ => hb.block _ (blk_lt q)
theorem Ro1.ri {lo : Nat} {G : Option Addr} {g l c : Nat} {V : Nat → Int} {W : World} (h : Ro1 lo G g l c V W) : Ri W G l V := fun h0 => by
  rcases h with ⟨_, h2, _⟩ | ⟨cur, h1, h2, h3, h4, h5, h6, h7⟩
  · omega
  · exact ⟨g, 0, h1, blk_lt h3, fun i hi => by rw [Nat.zero_add, (cell_blk h3 i).1]; exact h7 i hi⟩
/-- WHAT HAS BEEN ANSWERED. -/
structure Y4 (w2 : World) (l : Nat) (p : List Int) (a1 al_ ax a3 ab : Option Addr) (g1 gl gx g3 c1 cl cx c3 : Nat) (W : World) : Prop where
  bel : Below w2.heap.size w2 W
  r1 : Ro1 w2.heap.size a1 g1 l c1 (fun j => p.getD j 0) W
  rl : Ro1 w2.heap.size al_ gl l cl (fun j => p.getD j 0) W
  rx : Ro1 w2.heap.size ax gx 2 cx (fun j => ([1, 2] : List Int).getD j 0) W
  r3 : Ro1 w2.heap.size a3 g3 l c3 (fun j => p.getD j 0) W
  rb : Ri W ab l (fun j => p.getD j 0)
theorem Y4.later {w2 : World} {l : Nat} {p : List Int} {a1 al_ ax a3 ab : Option Addr} {g1 gl gx g3 c1 cl cx c3 : Nat} {W W2 : World} (h : Y4 w2 l p a1 al_ ax a3 ab g1 gl gx g3 c1 cl cx c3 W) (hb : Below W.heap.size W W2) : Y4 w2 l p a1 al_ ax a3 ab g1 gl gx g3 c1 cl cx c3 W2 :=
  ⟨bl_t h.bel hb, h.r1.later hb, h.rl.later hb, h.rx.later hb, h.r3.later hb, Ri.later h.rb hb⟩
/-- Where they are. -/
structure Yp (s2 : Nat) (l : Nat) (a1 al_ ax a3 ab : Option Addr) (s3 s4 s5 s6 : Nat) : Prop where
  p1 : Pl s2 s3 a1
  pl : Pl s3 s4 al_
  px : Pl s4 s5 ax
  p3 : Pl s5 s6 a3
  pb : 0 < l → ∀ b, ab = some b → s6 ≤ b.block
  o3 : s2 ≤ s3
  o4 : s3 ≤ s4
  o5 : s4 ≤ s5
  o6 : s5 ≤ s6
/-- The three lists under one. -/
def G3 (a1 ax a3 : Option Addr) (k : Nat) : Option Addr := if k = 0 then a1 else if k = 1 then ax else a3
def n3 (x y z : Nat) (k : Nat) : Nat := if k = 0 then x else if k = 1 then y else z
def V3 (p : List Int) (k j : Nat) : Int := if k = 1 then ([1, 2] : List Int).getD j 0 else p.getD j 0
theorem Y4.rp {w2 : World} {l : Nat} {p : List Int} {a1 al_ ax a3 ab : Option Addr} {g1 gl gx g3 c1 cl cx c3 : Nat} {s3 s4 s5 s6 : Nat} {W : World} (h : Y4 w2 l p a1 al_ ax a3 ab g1 gl gx g3 c1 cl cx c3 W) (q : Yp w2.heap.size l a1 al_ ax a3 ab s3 s4 s5 s6) :
    Rp w2.heap.size W.heap.size 3 (G3 a1 ax a3) (n3 g1 gx g3) (n3 l 2 l) (n3 c1 cx c3) (V3 p) (W.alloc (.cells #[.slice a1 l c1, .slice ax 2 cx, .slice a3 l c3] 23)) := by
  have hh := h.later (al W (.cells #[.slice a1 l c1, .slice ax 2 cx, .slice a3 l c3] 23))
  refine ⟨⟨_, heap_new _ _, fun k hk => ?_⟩, fun k hk => ?_, fun i j hi hj hn ei ej => ?_⟩
  · rcases (by omega : k = 0 ∨ k = 1 ∨ k = 2) with e | e | e <;> subst e <;> rfl
  · rcases (by omega : k = 0 ∨ k = 1 ∨ k = 2) with e | e | e
    · subst e; exact hh.r1
    · subst e; exact hh.rx
    · subst e; exact hh.r3
  · have o3 := q.o3
    have o4 := q.o4
    have o5 := q.o5
    have o6 := q.o6
    rcases (by omega : i = 0 ∨ i = 1 ∨ i = 2) with e | e | e <;> rcases (by omega : j = 0 ∨ j = 1 ∨ j = 2) with e2 | e2 | e2 <;> subst e <;> subst e2
    · omega
    · have a := q.p1 _ ei
      have b := q.px _ ej
      simp only at a b
      show _
      omega
    · have a := q.p1 _ ei
      have b := q.p3 _ ej
      simp only at a b
      omega
    · have a := q.px _ ei
      have b := q.p1 _ ej
      simp only at a b
      omega
    · omega
    · have a := q.px _ ei
      have b := q.p3 _ ej
      simp only at a b
      omega
    · have a := q.p3 _ ei
      have b := q.p1 _ ej
      simp only at a b
      omega
    · have a := q.p3 _ ei
      have b := q.px _ ej
      simp only at a b
      omega
    · omega
/-- What stays behind the writing. -/
theorem Y4.apart {w2 : World} {l : Nat} {p : List Int} {a1 al_ ax a3 ab : Option Addr} {g1 gl gx g3 c1 cl cx c3 : Nat} {s3 s4 s5 s6 : Nat} {W W2 : World} (h : Y4 w2 l p a1 al_ ax a3 ab g1 gl gx g3 c1 cl cx c3 W) (q : Yp w2.heap.size l a1 al_ ax a3 ab s3 s4 s5 s6) (hb : Bqk w2.heap.size 3 (G3 a1 ax a3) (n3 g1 gx g3) (W.alloc (.cells #[.slice a1 l c1, .slice ax 2 cx, .slice a3 l c3] 23)) W2) :
    Below w2.heap.size w2 W2 ∧ Ri W2 al_ l (fun j => p.getD j 0) ∧ Ri W2 ab l (fun j => p.getD j 0) := by
  have hh := h.later (al W (.cells #[.slice a1 l c1, .slice ax 2 cx, .slice a3 l c3] 23))
  have o3 := q.o3
  have o4 := q.o4
  have o5 := q.o5
  have o6 := q.o6
  have key : ∀ x, x < (W.alloc (.cells #[.slice a1 l c1, .slice ax 2 cx, .slice a3 l c3] 23)).heap.size → ((s3 ≤ x ∧ x < s4) ∨ s6 ≤ x) → W2.heap[x]? = (W.alloc (.cells #[.slice a1 l c1, .slice ax 2 cx, .slice a3 l c3] 23)).heap[x]? := fun x hx hr => hb.kb x hx fun k hk ek => by
    rcases (by omega : k = 0 ∨ k = 1 ∨ k = 2) with e | e | e <;> subst e
    · have a := q.p1 _ ek
      simp only at a
      omega
    · have a := q.px _ ek
      simp only at a
      omega
    · have a := q.p3 _ ek
      simp only at a
      omega
  refine ⟨hh.bel.trans hb.bel, fun h0 => ?_, fun h0 => ?_⟩
  · obtain ⟨b, o, e, lt, hc⟩ := hh.rl.ri h0
    have a := q.pl _ e
    simp only at a
    exact ⟨b, o, e, Nat.lt_of_lt_of_le lt hb.size, fun i hi => (World.cell?_of_block (a := ⟨b, o + i, none⟩) (key b lt (.inl a))).trans (hc i hi)⟩
  · obtain ⟨b, o, e, lt, hc⟩ := hh.rb h0
    have a := q.pb h0 _ e
    simp only at a
    exact ⟨b, o, e, Nat.lt_of_lt_of_le lt hb.size, fun i hi => (World.cell?_of_block (a := ⟨b, o + i, none⟩) (key b lt (.inr a))).trans (hc i hi)⟩
end Go.Proofs.Ytabjbppekijfiaa

namespace Go.Proofs.Ytabjbppekijfiaa
open Go.RowKit

/-- BEHIND THE WRITING. -/
def Z4 (w2 : World) (l : Nat) (p : List Int) (al_ ab : Option Addr) (W : World) : Prop := Below w2.heap.size w2 W ∧ Ri W al_ l (fun j => p.getD j 0) ∧ Ri W ab l (fun j => p.getD j 0)
theorem Z4.later {w2 : World} {l : Nat} {p : List Int} {al_ ab : Option Addr} {W W2 : World} (h : Z4 w2 l p al_ ab W) (hb : Below W.heap.size W W2) : Z4 w2 l p al_ ab W2 := ⟨bl_t h.1 hb, Ri.later h.2.1 hb, Ri.later h.2.2 hb⟩
theorem core_len {p : List Int} {l : Nat} (h : l = p.length) {W : World} {lo c : Nat} {g : Option Addr} (ho : W.ownsRow lo 3 1 (.slice g l c) l (tV p)) : Ri W g l (fun j => p.getD j 0) := by
  subst h
  exact ri_tv ho
set_option maxRecDepth 100000 in
set_option maxHeartbeats 8000000 in
theorem cores_walk (n : Int) (N : Nat) (ln : Nat → Nat) (L : Nat → Nat → Int) (BB : Int) (ca : Option Addr) (cc : Nat) (w : World) (hN : N * 24 ≤ 140737488351232) (hln : ∀ k, k < N → ln k * 8 ≤ 140737488351232) (hR : Rr w ca N ln L) :
    Calls Try.prog 10 #[.int .i64 n, .slice ca N cc, .int .i64 BB] w fun x w' => x = .returned (.bool true) ∧ Below w.heap.size w w' := by
  have HM := hide hln
  have HM2 := hide (show ∀ k, k < N → ln k ≤ 17592186044416 from fun k hk => by have := hln k hk; omega)
  have HM3 := hide (show ∀ k, k < N → ln k ≤ 140737488355328 from fun k hk => by have := hln k hk; omega)
  have HC := hide hR
  have cT := hide (twin_any N ln L ca cc w hN hln hR)
  have hpl : (acr n BB N ln L).p.length ≤ N := acr_len _ _ _ _ _
  have HSO := hide (fun (w1 : World) {ca : Option Addr} {cc : Nat} (h : Rr w1 ca N ln L) => Core_an (n := n) (B := BB) (cc := cc) hN (unhide HM3) h)
  have HRO := hide (fun (w1 : World) {ca : Option Addr} {cc : Nat} (h : Rr w1 ca N ln L) => rCore_an (n := n) (B := BB) (cc := cc) hN (unhide HM3) h)
  clear hln hR
  generalize acr n BB N ln L = A at *
  obtain ⟨l, hl⟩ : ∃ l, l = A.p.length := ⟨_, rfl⟩
  rw [← hl] at HSO HRO hpl
  have HL := hide hl
  clear hl
  have ev : (A.v != A.v) = false := by simp
  have ee : (A.e != A.e) = false := by simp
  go_enter Try.func10, Try.ntmps10
  go_upto_region 2 with (go_at_call 14; refine (unhide cT).mono ?_; rintro x1 w1 ⟨B, cB, g, cp, rfl, htw, hb1⟩; have T1 := hide (And.intro htw hb1); clear htw hb1)
  go_upto_region 3 with (go_at_call 21; refine (headers_any N (Hd g ln cp) (fun _ => rfl) _ _ _ hN (unhide T1).1.hd).mono ?_; rintro x2 w2 ⟨qa, qc, rfl, hrv, hb2⟩; have HX := hide (show X4 w ca N ln L B cB g cp qa w2 from ⟨(unhide T1).1.later hb2, hrv, ((unhide HC).later (unhide T1).2).later hb2, bl_t (unhide T1).2 hb2⟩); clear hrv hb2)
  clear T1 cT HC
  go_upto_region 4 with (go_at_call 29; refine (unhide HSO _ (unhide HX).tw.rr).mono ?_; rintro x3 w3 ⟨a1, c1, rfl, ho3, hb3⟩; have T3 := hide (And.intro ho3 hb3); clear ho3 hb3)
  go_upto_region 5 with (go_at_call 29; refine (unhide HSO _ ((unhide HX).later (unhide T3).2).tw.rr).mono ?_; rintro x4 w4 ⟨al_, cl, rfl, ho4, hb4⟩; have T4 := hide (And.intro ho4 hb4); clear ho4 hb4)
  go_upto_region 6 with (go_at_call 29; refine (coreX w4).mono ?_; rintro x5 w5 ⟨ax, cx, rfl, ho5, hb5⟩; have T5 := hide (And.intro ho5 hb5); clear ho5 hb5)
  go_upto_region 7 with (go_at_call 29; refine (unhide HSO _ ((unhide HX).later (bl_t (bl_t (unhide T3).2 (unhide T4).2) (unhide T5).2)).tw.rr).mono ?_; rintro x6 w6 ⟨a3, c3, rfl, ho6, hb6⟩; have T6 := hide (And.intro ho6 hb6); clear ho6 hb6)
  go_upto_region 8 with (go_at_call 33; refine (unhide HRO _ ((unhide HX).later (bl_t (bl_t (bl_t (unhide T3).2 (unhide T4).2) (unhide T5).2) (unhide T6).2)).cl).mono ?_; rintro x7 w7 ⟨ab, cb, rfl, ho7, hb7⟩; have T7 := hide (And.intro ho7 hb7); clear ho7 hb7)
  have HY := hide (show ∃ g1 gl gx g3, Y4 w2 l A.p a1 al_ ax a3 ab g1 gl gx g3 c1 cl cx c3 w7 ∧ Yp w2.heap.size l a1 al_ ax a3 ab w3.heap.size w4.heap.size w5.heap.size w6.heap.size from by
    obtain ⟨o3, b3⟩ := unhide T3
    obtain ⟨o4, b4⟩ := unhide T4
    obtain ⟨o5, b5⟩ := unhide T5
    obtain ⟨o6, b6⟩ := unhide T6
    obtain ⟨o7, b7⟩ := unhide T7
    have hl := (unhide HL).symm
    obtain ⟨g1, r1, p1⟩ := Ro1.off (Nat.le_refl _) hl o3
    obtain ⟨gl, rl, pl⟩ := Ro1.off b3.size hl o4
    obtain ⟨gx, rx, px⟩ := Ro1.off (p := [1, 2]) (Nat.le_trans b3.size b4.size) rfl o5
    obtain ⟨g3, r3, p3⟩ := Ro1.off (Nat.le_trans (Nat.le_trans b3.size b4.size) b5.size) hl o6
    exact ⟨g1, gl, gx, g3, ⟨bl_t (bl_t (bl_t (bl_t b3 b4) b5) b6) b7, (((r1.later b4).later b5).later b6).later b7, ((rl.later b5).later b6).later b7, (rx.later b6).later b7, r3.later b7, o7.1⟩, ⟨p1, pl, px, p3, o7.2, b3.size, b4.size, b5.size, b6.size⟩⟩)
  obtain ⟨g1, gl, gx, g3, hy, hyp⟩ := unhide HY
  have HY4 := hide hy
  have HYP := hide hyp
  clear hy hyp HY T3 T4 T5 T6 T7
  have G1 := hide True.intro
  have G2 := hide True.intro
  have G3_ := hide True.intro
  have G4 := hide True.intro
  go_upto_region 10 with (first | (go_at_call 25; refine (num_any _ _).mono ?_; rintro x8 w8 ⟨rfl, hw8⟩; rw [hw8]; clear hw8 w8) | (go_at_call 34; clear G1; refine (numbers_any l (fun j => A.p.getD j 0) _ _ _ _ _ (by omega) (unhide HY4).r1.ri (unhide HY4).rb).mono ?_; rintro x9 w9 ⟨rfl, hbb⟩; have HY4 := hide ((unhide HY4).later hbb); clear hbb) | (go_at_call 34; clear G2; refine (numbers_any l (fun j => A.p.getD j 0) _ _ _ _ _ (by omega) (unhide HY4).rl.ri (unhide HY4).rb).mono ?_; rintro x9 w9 ⟨rfl, hbb⟩; have HY4 := hide ((unhide HY4).later hbb); clear hbb) | (go_at_call 34; clear G3_; refine (numbers_any l (fun j => A.p.getD j 0) _ _ _ _ _ (by omega) (unhide HY4).r3.ri (unhide HY4).rb).mono ?_; rintro x9 w9 ⟨rfl, hbb⟩; have HY4 := hide ((unhide HY4).later hbb); clear hbb) | (go_at_call 34; clear G4; refine (numX _ (unhide HY4).rx.ri).mono ?_; rintro x9 w9 ⟨rfl, hbb⟩; have HY4 := hide ((unhide HY4).later hbb); clear hbb) | (go_at_call 26; refine (untouched_any w.heap.size B N cB ln g cp L qa ca qc cc _ (by omega) (unhide HM2) ((unhide HX).later (unhide HY4).bel).tw ((unhide HX).later (unhide HY4).bel).hd ((unhide HX).later (unhide HY4).bel).cl).mono ?_; rintro x9 w9 ⟨rfl, hbb⟩; have HY4 := hide ((unhide HY4).later hbb); clear hbb))
  have HN3 := hide (show ∀ k, k < 3 → n3 l 2 l k ≤ 8796093022208 from fun k hk => by
    unfold n3
    split
    · omega
    · split
      · decide
      · omega)
  have G5 := hide True.intro
  go_upto_region 12 with (first | (go_at_call 35; refine (apart_any (cB := 3) (by decide) (unhide HN3) ((unhide HY4).later (al _ _)).bel.size ((unhide HY4).rp (unhide HYP))).mono ?_; rintro x10 w10 ⟨rfl, hbq⟩; have HZ := hide (show Z4 w2 l A.p al_ ab w10 from (unhide HY4).apart (unhide HYP) hbq); clear hbq HY4) | (go_at_call 34; clear G5; refine (numbers_any l (fun j => A.p.getD j 0) _ _ _ _ _ (by omega) (unhide HZ).2.1 (unhide HZ).2.2).mono ?_; rintro x11 w11 ⟨rfl, hbb⟩; have HZ := hide ((unhide HZ).later hbb); clear hbb) | (go_at_call 26; refine (untouched_any w.heap.size B N cB ln g cp L qa ca qc cc _ (by omega) (unhide HM2) ((unhide HX).later (unhide HZ).1).tw ((unhide HX).later (unhide HZ).1).hd ((unhide HX).later (unhide HZ).1).cl).mono ?_; rintro x12 w12 ⟨rfl, hbb⟩; have HZ := hide ((unhide HZ).later hbb); clear hbb))
  have HS := hide (show Sxk w.heap.size B N w12 ∧ Below w.heap.size w w12 from ⟨Tw.sxk ((unhide HX).later (unhide HZ).1).tw.ge (unhide HM) ((unhide HX).later (unhide HZ).1).tw, ((unhide HX).later (unhide HZ).1).bel⟩)
  clear HX HZ HN3 HYP HL HM HM2 HM3 HSO HRO ev ee hpl
  go_wp2_with fail
  go_loopg [24, 25] (N / 2) (fun gq vi _ wr => ∃ i : Nat, vi = .int .i64 i ∧ i ≤ N / 2 ∧ N / 2 - i ≤ gq ∧ Hid (Sxk w.heap.size B N wr ∧ Below w.heap.size w wr))
  case atStart => exact ⟨0, by go_num, by omega, by omega, HS⟩
  case round =>
    clear HS
    obtain ⟨i, rfl, hi, hg, HS⟩ := hrel
    by_cases hlt : i < N / 2
    · have hltz : (i : Int) < (N : Int) / 2 := by omega
      obtain ⟨u, c1, f1, hu⟩ := (unhide HS).1.at (k := i) (by omega)
      obtain ⟨v, c2, f2, hv⟩ := (unhide HS).1.at (k := N - 1 - i) (by omega)
      have c3 := (unhide HS).1.two (k := i) (by omega) c2 v
      have HS2 := hide (show Sxk w.heap.size B N ((wr.setCell ⟨B, i, none⟩ v).setCell ⟨B, N - 1 - i, none⟩ u).drew ∧ Below w.heap.size w ((wr.setCell ⟨B, i, none⟩ v).setCell ⟨B, N - 1 - i, none⟩ u).drew from ⟨(((unhide HS).1.set hv i).set (hu.set (unhide HS).1 i v) (N - 1 - i)).later ((Below.refl _ _).drew), (((unhide HS).2.setCell (p := ⟨B, i, none⟩) (unhide HS).1.ge v).setCell (p := ⟨B, N - 1 - i, none⟩) (unhide HS).1.ge u).drew⟩)
      obtain ⟨G, l1, k1, M1, rfl, -, -⟩ := hu
      obtain ⟨G', l2, k2, M2, rfl, -, -⟩ := hv
      have pc : (0 : Int) ≤ (N : Int) - 1 - (i : Int) := by omega
      have bc : (N : Int) - 1 - (i : Int) < (N : Int) := by omega
      have aa : (i : Int) < (N : Int) := by omega
      have a0 : (0 : Int) ≤ (i : Int) := by omega
      clear HS
      go_wp2_with fail
      go_big_region
      clear c1 c2 c3 f1 f2
      generalize ((wr.setCell ⟨B, i, none⟩ (.slice G' l2 k2)).setCell ⟨B, N - 1 - i, none⟩ (.slice G l1 k1)).drew = W5 at HS2 ⊢
      go_wp2
      go_roundg (N / 2 - (i + 1))
      case measure => omega
      case rel => exact ⟨i + 1, by go_num, by omega, by omega, HS2⟩
    · have hgez : ¬ (i : Int) < (N : Int) / 2 := by omega
      obtain ⟨ln2, L2, hrr, hl2⟩ := (unhide HS).1.rr
      have HRR := hide hrr
      have HLN := hide hl2
      have HLM := hide (show ∀ k, k < N → ln2 k ≤ 140737488355328 from fun k hk => by have := hl2 k hk; omega)
      have HBW := hide (unhide HS).2
      have hpl2 : (acr n BB N ln2 L2).p.length ≤ N := acr_len _ _ _ _ _
      have HSO := hide (fun (w1 : World) {ca : Option Addr} {cc : Nat} (h : Rr w1 ca N ln2 L2) => Core_an (n := n) (B := BB) (cc := cc) hN (unhide HLM) h)
      have HRO := hide (fun (w1 : World) {ca : Option Addr} {cc : Nat} (h : Rr w1 ca N ln2 L2) => rCore_an (n := n) (B := BB) (cc := cc) hN (unhide HLM) h)
      clear hrr hl2 HLM
      generalize acr n BB N ln2 L2 = A2 at *
      obtain ⟨m2, hm2⟩ : ∃ l, l = A2.p.length := ⟨_, rfl⟩
      rw [← hm2] at HSO HRO hpl2
      have HL := hide hm2
      clear hm2
      go_upto_region 18 with (first | (go_at_call 14; refine (twin_any N ln2 L2 _ _ _ hN (unhide HLN) (unhide HRR)).mono ?_; rintro x13 w13 ⟨B2, cB2, g2, cp2, rfl, htw, hb13⟩; have T13 := hide (And.intro htw.rr hb13); clear htw hb13) | (go_at_call 33; refine (unhide HRO _ (unhide T13).1).mono ?_; rintro x14 w14 ⟨za, zc, rfl, hf14, hb14⟩; have T14 := hide (And.intro hf14.1 (bl_t (unhide T13).2 hb14)); clear hf14 hb14))
      go_upto_region 19 with (go_at_call 29; refine (unhide HSO _ ((unhide HRR).later (unhide T14).2)).mono ?_; rintro x15 w15 ⟨ya, yc, rfl, ho15, hb15⟩; have T15 := hide (show Ri w15 ya m2 (fun j => A2.p.getD j 0) ∧ Ri w15 za m2 (fun j => A2.p.getD j 0) ∧ Below wr.heap.size wr w15 from ⟨core_len (unhide HL) ho15, Ri.later (unhide T14).1 hb15, bl_t (unhide T14).2 hb15⟩); clear ho15 hb15)
      clear T13 T14 HRR HLN HSO HRO HL
      have HT := hide (show Ri w15 ya m2 (fun j => A2.p.getD j 0) ∧ Ri w15 za m2 (fun j => A2.p.getD j 0) ∧ Below w.heap.size w w15 ∧ Sxk w.heap.size B N w15 from ⟨(unhide T15).1, (unhide T15).2.1, bl_t (unhide HBW) (unhide T15).2.2, (unhide HS).1.later (unhide T15).2.2⟩)
      clear T15 HBW HS
      have ev : (A2.v != A2.v) = false := by simp
      have ee : (A2.e != A2.e) = false := by simp
      have ev2 : (A2.v == A2.v) = true := by simp
      have ee2 : (A2.e == A2.e) = true := by simp
      by_cases hn0 : N = 0
      · have hz : ((N : Int) == 0) = true := by simp [hn0]
        clear hn0
        go_wp2_with (first | (go_at_call 25; refine (num_any _ _).mono ?_; rintro x16 w16 ⟨rfl, hw16⟩; rw [hw16]; clear hw16 w16) | (go_at_call 34; refine (numbers_any m2 (fun j => A2.p.getD j 0) _ _ _ _ _ (by omega) (unhide HT).1 (unhide HT).2.1).mono ?_; rintro x17 w17 ⟨rfl, hb17⟩; have HT := hide (show Ri w17 ya m2 (fun j => A2.p.getD j 0) ∧ Ri w17 za m2 (fun j => A2.p.getD j 0) ∧ Below w.heap.size w w17 ∧ Sxk w.heap.size B N w17 from ⟨Ri.later (unhide HT).1 hb17, Ri.later (unhide HT).2.1 hb17, bl_t (unhide HT).2.2.1 hb17, (unhide HT).2.2.2.later hb17⟩); clear hb17))
        go_ret
        exact ⟨by simp, (unhide HT).2.2.1⟩
      · have hz : ((N : Int) == 0) = false := by simp; omega
        go_upto_region 21 with (first | (go_at_call 25; refine (num_any _ _).mono ?_; rintro x16 w16 ⟨rfl, hw16⟩; rw [hw16]; clear hw16 w16) | (go_at_call 34; refine (numbers_any m2 (fun j => A2.p.getD j 0) _ _ _ _ _ (by omega) (unhide HT).1 (unhide HT).2.1).mono ?_; rintro x17 w17 ⟨rfl, hb17⟩; have HT := hide (show Ri w17 ya m2 (fun j => A2.p.getD j 0) ∧ Ri w17 za m2 (fun j => A2.p.getD j 0) ∧ Below w.heap.size w w17 ∧ Sxk w.heap.size B N w17 from ⟨Ri.later (unhide HT).1 hb17, Ri.later (unhide HT).2.1 hb17, bl_t (unhide HT).2.2.1 hb17, (unhide HT).2.2.2.later hb17⟩); clear hb17))
        have hNp : 0 < N := by omega
        clear hn0 hz hlt hgez hi hg ev ee ev2 ee2 hpl2
        obtain ⟨u, c1, f1, hu⟩ := (unhide HT).2.2.2.at (k := N - 1) (by omega)
        have HS := hide (show Sxk w.heap.size B N (w17.setCell ⟨B, N - 1, none⟩ (.slice none 0 0)) ∧ Below w.heap.size w (w17.setCell ⟨B, N - 1, none⟩ (.slice none 0 0)) from ⟨(unhide HT).2.2.2.set (Hr.nil _) (N - 1), (unhide HT).2.2.1.setCell (p := ⟨B, N - 1, none⟩) (unhide HT).2.2.2.ge _⟩)
        clear HT
        have e1 : ((N : Int) - 1).toNat = N - 1 := by omega
        have e2 : (0 : Int) ≤ (N : Int) - 1 := by omega
        have e3 : (N : Int) - 1 < (N : Int) := by omega
        go_upto_region 22 with fail
        clear c1 f1 hu e1 e2 e3
        generalize w17.setCell ⟨B, N - 1, none⟩ (.slice none 0 0) = W6 at *
        obtain ⟨ln3, L3, hrr, hl3⟩ := (unhide HS).1.rr
        have HRR := hide hrr
        have HLN := hide hl3
        have HLM := hide (show ∀ k, k < N → ln3 k ≤ 140737488355328 from fun k hk => by have := hl3 k hk; omega)
        have HBW := hide (unhide HS).2
        have hpl3 : (acr n BB N ln3 L3).p.length ≤ N := acr_len _ _ _ _ _
        have HSO := hide (fun (w1 : World) {ca : Option Addr} {cc : Nat} (h : Rr w1 ca N ln3 L3) => Core_an (n := n) (B := BB) (cc := cc) hN (unhide HLM) h)
        have HRO := hide (fun (w1 : World) {ca : Option Addr} {cc : Nat} (h : Rr w1 ca N ln3 L3) => rCore_an (n := n) (B := BB) (cc := cc) hN (unhide HLM) h)
        clear hrr hl3 HLM
        generalize acr n BB N ln3 L3 = A3 at *
        obtain ⟨m3, hm3⟩ : ∃ l, l = A3.p.length := ⟨_, rfl⟩
        rw [← hm3] at HSO HRO hpl3
        have HL := hide hm3
        clear hm3
        go_upto_region 23 with (first | (go_at_call 14; refine (twin_any N ln3 L3 _ _ _ hN (unhide HLN) (unhide HRR)).mono ?_; rintro x13 w13 ⟨B2, cB2, g2, cp2, rfl, htw, hb13⟩; have T13 := hide (And.intro htw.rr hb13); clear htw hb13) | (go_at_call 33; refine (unhide HRO _ (unhide T13).1).mono ?_; rintro x14 w14 ⟨za, zc, rfl, hf14, hb14⟩; have T14 := hide (And.intro hf14.1 (bl_t (unhide T13).2 hb14)); clear hf14 hb14))
        go_upto_region 24 with (go_at_call 29; refine (unhide HSO _ ((unhide HRR).later (unhide T14).2)).mono ?_; rintro x15 w15 ⟨ya, yc, rfl, ho15, hb15⟩; have T15 := hide (show Ri w15 ya m3 (fun j => A3.p.getD j 0) ∧ Ri w15 za m3 (fun j => A3.p.getD j 0) ∧ Below W6.heap.size W6 w15 from ⟨core_len (unhide HL) ho15, Ri.later (unhide T14).1 hb15, bl_t (unhide T14).2 hb15⟩); clear ho15 hb15)
        clear T13 T14 HRR HLN HSO HRO HL
        have HT := hide (show Ri w15 ya m3 (fun j => A3.p.getD j 0) ∧ Ri w15 za m3 (fun j => A3.p.getD j 0) ∧ Below w.heap.size w w15 ∧ Sxk w.heap.size B N w15 from ⟨(unhide T15).1, (unhide T15).2.1, bl_t (unhide HBW) (unhide T15).2.2, (unhide HS).1.later (unhide T15).2.2⟩)
        clear T15 HBW HS
        have ev : (A3.v != A3.v) = false := by simp
        have ee : (A3.e != A3.e) = false := by simp
        have ev2 : (A3.v == A3.v) = true := by simp
        have ee2 : (A3.e == A3.e) = true := by simp
        go_wp2_with (first | (go_at_call 25; refine (num_any _ _).mono ?_; rintro x16 w16 ⟨rfl, hw16⟩; rw [hw16]; clear hw16 w16) | (go_at_call 34; refine (numbers_any m3 (fun j => A3.p.getD j 0) _ _ _ _ _ (by omega) (unhide HT).1 (unhide HT).2.1).mono ?_; rintro x17 w17 ⟨rfl, hb17⟩; have HT := hide (show Ri w17 ya m3 (fun j => A3.p.getD j 0) ∧ Ri w17 za m3 (fun j => A3.p.getD j 0) ∧ Below w.heap.size w w17 ∧ Sxk w.heap.size B N w17 from ⟨Ri.later (unhide HT).1 hb17, Ri.later (unhide HT).2.1 hb17, bl_t (unhide HT).2.2.1 hb17, (unhide HT).2.2.2.later hb17⟩); clear hb17))
        go_ret
        exact ⟨by simp, (unhide HT).2.2.1⟩
end Go.Proofs.Ytabjbppekijfiaa

