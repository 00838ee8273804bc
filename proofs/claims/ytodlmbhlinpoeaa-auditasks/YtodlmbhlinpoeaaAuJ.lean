import Derived.Test.YtodlmbhlinpoeaaAuI
namespace Go.Proofs.Ytodlmbhlinpoeaa
open Go.RowKit

theorem stL (w : World) (g i : Nat) (a : Option Addr) (n c : Nat) (old : Value) (hc : w.cell? ⟨g, i, none⟩ = some old) (hz : w.frozen? ⟨g, i, none⟩ = false) :
    (storeVar 39 ⟨g, i, none⟩ (.slice a n c)).run Try.prog w = .ok () (w.setCell ⟨g, i, none⟩ (.slice a n c)) := by
  simp [go_sem, hc, hz]
theorem stC (w : World) (g i : Nat) (a : Option Addr) (n c : Nat) (old : Value) (hc : w.cell? ⟨g, i, none⟩ = some old) (hz : w.frozen? ⟨g, i, none⟩ = false) :
    (storeVar 40 ⟨g, i, none⟩ (.slice a n c)).run Try.prog w = .ok () (w.setCell ⟨g, i, none⟩ (.slice a n c)) := by
  simp [go_sem, hc, hz]
theorem stS (w : World) (g i : Nat) (a : Option Addr) (n c : Nat) (old : Value) (hc : w.cell? ⟨g, i, none⟩ = some old) (hz : w.frozen? ⟨g, i, none⟩ = false) :
    (storeVar 41 ⟨g, i, none⟩ (.slice a n c)).run Try.prog w = .ok () (w.setCell ⟨g, i, none⟩ (.slice a n c)) := by
  simp [go_sem, hc, hz]
theorem stG (w : World) (g i : Nat) (a : Option Addr) (n c : Nat) (old : Value) (hc : w.cell? ⟨g, i, none⟩ = some old) (hz : w.frozen? ⟨g, i, none⟩ = false) :
    (storeVar 42 ⟨g, i, none⟩ (.slice a n c)).run Try.prog w = .ok () (w.setCell ⟨g, i, none⟩ (.slice a n c)) := by
  simp [go_sem, hc, hz]
theorem stHL (w : World) (g i : Nat) (a : Option Addr) (n c : Nat) (old : Value) (hc : w.cell? ⟨g, i, none⟩ = some old) (hz : w.frozen? ⟨g, i, none⟩ = false) :
    (storeVar 22 ⟨g, i, none⟩ (.slice a n c)).run Try.prog w = .ok () (w.setCell ⟨g, i, none⟩ (.slice a n c)) := by
  simp [go_sem, hc, hz]
theorem stLL (w : World) (g i : Nat) (a : Option Addr) (n c : Nat) (old : Value) (hc : w.cell? ⟨g, i, none⟩ = some old) (hz : w.frozen? ⟨g, i, none⟩ = false) :
    (storeVar 24 ⟨g, i, none⟩ (.slice a n c)).run Try.prog w = .ok () (w.setCell ⟨g, i, none⟩ (.slice a n c)) := by
  simp [go_sem, hc, hz]
theorem LenC.form {lo : Nat} {W : World} {cl : List (List (List Value))} {v u : Value} (h : LenC lo W cl v u) : ∃ g cap a c, v = .slice (some ⟨g, 0, none⟩) cl.length cap ∧ u = .slice a cl.length c := by
  obtain ⟨g, cap, z, hd, e, h1, h2, h3, h4, h5⟩ := h
  obtain ⟨a, c, e2⟩ := owns_form h5
  exact ⟨g, cap, a, c, e, e2⟩
theorem Len.form {t k lo : Nat} {W : World} {fl : List (List Value)} {mk : List Value} {m : Nat} {v : Value} (h : Len t k lo W fl mk m v) : ∃ g cap, v = .slice (some ⟨g, 0, none⟩) fl.length cap := let ⟨g, cap, e, _⟩ := h; ⟨g, cap, e⟩
/-- ITS CELLS, THE LISTS PUT ANEW. -/
def relist (cs : List Value) (d r c v f : Value) : List Value := ((((cs.set 3 d).set 4 r).set 5 c).set 6 v).set 7 f
theorem relist_c {cs : List Value} {p : Hk} {d r c v f d2 r2 c2 v2 f2 : Value} (h : HkC cs p d r c v f) (o1 : d2.oneCell' = true) (o2 : r2.oneCell' = true) (o3 : c2.oneCell' = true) (o4 : v2.oneCell' = true) (o5 : f2.oneCell' = true) : HkC (relist cs d2 r2 c2 v2 f2) p d2 r2 c2 v2 f2 := by
  have hl := h.len
  have out : ∀ j, j ≠ 3 → j ≠ 4 → j ≠ 5 → j ≠ 6 → j ≠ 7 → (relist cs d2 r2 c2 v2 f2)[j]? = cs[j]? := fun j h3 h4 h5 h6 h7 => by
    unfold relist
    rw [List.getElem?_set_ne (by omega), List.getElem?_set_ne (by omega), List.getElem?_set_ne (by omega), List.getElem?_set_ne (by omega), List.getElem?_set_ne (by omega)]
  refine ⟨by simp [relist, hl], fun x hx => ?_, ?_, ?_, ?_, ?_, ?_, ?_, ?_, ?_, ?_, ?_, fun j x hj => ?_, ?_, ?_⟩
  · unfold relist at hx
    rcases List.mem_or_eq_of_mem_set hx with hx | rfl
    · rcases List.mem_or_eq_of_mem_set hx with hx | rfl
      · rcases List.mem_or_eq_of_mem_set hx with hx | rfl
        · rcases List.mem_or_eq_of_mem_set hx with hx | rfl
          · rcases List.mem_or_eq_of_mem_set hx with hx | rfl
            · exact h.one x hx
            · exact o1
          · exact o2
        · exact o3
      · exact o4
    · exact o5
  · rw [out 0 (by decide) (by decide) (by decide) (by decide) (by decide)]; exact h.c0
  · rw [out 1 (by decide) (by decide) (by decide) (by decide) (by decide)]; exact h.c1
  · rw [out 2 (by decide) (by decide) (by decide) (by decide) (by decide)]; exact h.c2
  · unfold relist
    rw [List.getElem?_set_ne (by decide), List.getElem?_set_ne (by decide), List.getElem?_set_ne (by decide), List.getElem?_set_ne (by decide), List.getElem?_set_self (by omega)]
  · unfold relist
    rw [List.getElem?_set_ne (by decide), List.getElem?_set_ne (by decide), List.getElem?_set_ne (by decide), List.getElem?_set_self (by simp [hl])]
  · unfold relist
    rw [List.getElem?_set_ne (by decide), List.getElem?_set_ne (by decide), List.getElem?_set_self (by simp [hl])]
  · unfold relist
    rw [List.getElem?_set_ne (by decide), List.getElem?_set_self (by simp [hl])]
  · unfold relist
    rw [List.getElem?_set_self (by simp [hl])]
  · rw [out 8 (by decide) (by decide) (by decide) (by decide) (by decide)]; exact h.c8
  · rw [out 9 (by decide) (by decide) (by decide) (by decide) (by decide)]; exact h.c9
  · rw [out (10 + j) (by omega) (by omega) (by omega) (by omega) (by omega)]; exact h.cs0 j x hj
  · rw [out 42 (by decide) (by decide) (by decide) (by decide) (by decide)]; exact h.c42
  · rw [out 43 (by decide) (by decide) (by decide) (by decide) (by decide)]; exact h.c43
/-- GROWN BY ONE. -/
structure Gr (lo XB : Nat) (wz W2 : World) (vv vv2 : Nat → Value) (n2 : Nat → Nat) (X2 : Nat → List Value) (q : Nat) : Prop where
  r4 : R4 lo XB W2 vv2 n2 X2
  size : wz.heap.size ≤ W2.heap.size
  blk : ∀ b, b < wz.heap.size → b ≠ XB → (vv q).ownBlock ≠ some b → W2.heap[b]? = wz.heap[b]?
  own : ∀ j g, j < 4 → (vv2 j).ownBlock = some g → (vv j).ownBlock = some g ∨ wz.heap.size ≤ g
theorem R4.grow {t e k bytes : Nat} {z : Value} (T : Ty t e k bytes z) {q m : Nat} (hq : q < 4) (he : e4 q = e) (hk : k4 q = k) {lo XB : Nat} {wz : World} {vv : Nat → Value} {n : Nat → Nat} {X : Nat → List Value} (h : R4 lo XB wz vv n X) {news : List Value} (hnl : news.length = m * k) (h1 : ∀ u ∈ news, u.oneCell' = true) (hm : 0 < m) (h63 : n q + m ≤ maxLen) (hb : (n q + m) * bytes ≤ 140737488355328) (wx : World) (B : Nat) (hsrc : ∀ j u, news[j]? = some u → wx.cell? ⟨B, j, none⟩ = some u) (hx : Below wz.heap.size wz wx) :
    ∃ g cap w9, (Builtin.append_ #[t, t] t #[vv q, .slice (some ⟨B, 0, none⟩) m m]).run Try.prog wx = .ok (.slice (some ⟨g, 0, none⟩) (n q + m) cap) w9 ∧ n q + m ≤ cap ∧ Bk 26 5 w9 XB (heads vv) ∧ Sx XB wz wz ∧
      ∀ W2, Bk 26 5 W2 XB ((heads vv).set q (.slice (some ⟨g, 0, none⟩) (n q + m) cap)) → (∀ k, k ≠ XB → W2.heap[k]? = w9.heap[k]?) → (∀ B, B ≤ XB → Below B w9 W2) → w9.heap.size ≤ W2.heap.size ∧ W2.heap.size ≤ w9.heap.size → Gr lo XB wz W2 vv (up vv q (.slice (some ⟨g, 0, none⟩) (n q + m) cap)) (up n q (n q + m)) (up X q (X q ++ news)) q ∧ Below XB wz W2 := by
  have hxb := h.below hx
  have hrow := hxb.row q hq
  rw [he, hk] at hrow
  obtain ⟨g, cap, w9, r1, r2, r3, r4⟩ := row_app2 T hrow hxb.lo news hnl hsrc h1 hm h63 hb t
  have hXlt := hxb.xb.lt
  have hxlo := h.xlo
  have hzx := hx.size
  have hB9 : Bk 26 5 w9 XB (heads vv) := hxb.xb.of (r3.blk XB hXlt fun e => by have := (hxb.lt hq e).1; omega)
  refine ⟨g, cap, w9, r1, owns_cap r2, hB9, ⟨Nat.le_refl _, fun _ _ _ => rfl⟩, fun W2 b2 o2 k2 z2 => ?_⟩
  obtain ⟨p1, p2, p3, p4⟩ := hxb.put hq (by rw [he, hk]; exact r2) r3 (fun g' e => by
    cases e
    exact r4) b2 o2 z2
  refine ⟨⟨p1, Nat.le_trans hzx p2, fun b hb h2 h3 => (p3 b (Nat.lt_of_lt_of_le hb hzx) h2 h3).trans (hx.block b hb), fun j g' hj e => (p4 j g' hj e).imp id fun h9 => Nat.le_trans hzx h9⟩, ?_⟩
  have hXz : XB ≤ wz.heap.size := Nat.le_of_lt h.xb.lt
  exact (hx.mono hXz).trans ((r3.below (Nat.le_trans hXz hzx) fun b hb e => by have := (hxb.lt hq e).1; omega).trans (k2 XB (Nat.le_refl _)))
theorem R4.grow2 {t e k bytes : Nat} {z : Value} (T : Ty t e k bytes z) {q m : Nat} (hq : q < 4) (he : e4 q = e) (hk : k4 q = k) {lo XB : Nat} {wz : World} {vv : Nat → Value} {n : Nat → Nat} {X : Nat → List Value} (h : R4 lo XB wz vv n X) {v0 : Value} (hv : vv q = v0) {i : Nat} (hn : n q = i) {X0 : List Value} (hX : X q = X0) {news : List Value} (hnl : news.length = m * k) (h1 : ∀ u ∈ news, u.oneCell' = true) (hm : 0 < m) (h63 : i + m ≤ maxLen) (hb : (i + m) * bytes ≤ 140737488355328) (wx : World) (B : Nat) (hsrc : ∀ j u, news[j]? = some u → wx.cell? ⟨B, j, none⟩ = some u) (hx : Below wz.heap.size wz wx) :
    ∃ g cap w9, (Builtin.append_ #[t, t] t #[v0, .slice (some ⟨B, 0, none⟩) m m]).run Try.prog wx = .ok (.slice (some ⟨g, 0, none⟩) (i + m) cap) w9 ∧ i + m ≤ cap ∧ Bk 26 5 w9 XB (heads vv) ∧
      ∀ W2, Bk 26 5 W2 XB ((heads vv).set q (.slice (some ⟨g, 0, none⟩) (i + m) cap)) → (∀ k, k ≠ XB → W2.heap[k]? = w9.heap[k]?) → (∀ B, B ≤ XB → Below B w9 W2) → w9.heap.size ≤ W2.heap.size ∧ W2.heap.size ≤ w9.heap.size → Gr lo XB wz W2 vv (up vv q (.slice (some ⟨g, 0, none⟩) (i + m) cap)) (up n q (i + m)) (up X q (X0 ++ news)) q ∧ Below XB wz W2 := by
  subst hv hn hX
  obtain ⟨g, cap, w9, r1, r2, r3, _, r4⟩ := R4.grow T hq he hk h hnl h1 hm h63 hb wx B hsrc hx
  exact ⟨g, cap, w9, r1, r2, r3, r4⟩
/-- ONE THAT HAS BEEN LENT, AMONG THE ROWS. -/
def El (XB : Nat) (W : World) (vv : Nat → Value) (p : Hk) (cs : List Value) (u1 u2 : Value) : Prop :=
  ∃ l h d r c v f, XB < l ∧ h ≤ W.heap.size ∧ HkC cs p d r c v f ∧ (∀ W', h ≤ W'.heap.size → (∀ b, l ≤ b → b < h → W'.heap[b]? = W.heap[b]?) → LHv l W' p d r c v f u1 u2) ∧ ∀ q g, q < 4 → (vv q).ownBlock = some g → g < l ∨ h ≤ g
theorem El.step {XB : Nat} {W W2 : World} {vv vv2 : Nat → Value} {p : Hk} {cs : List Value} {u1 u2 : Value} (h : El XB W vv p cs u1 u2) (hs : W.heap.size ≤ W2.heap.size) (hb : ∀ b, b < W.heap.size → b ≠ XB → (∀ q, q < 4 → (vv q).ownBlock ≠ some b) → W2.heap[b]? = W.heap[b]?) (ho : ∀ q g, q < 4 → (vv2 q).ownBlock = some g → (vv q).ownBlock = some g ∨ W.heap.size ≤ g) : El XB W2 vv2 p cs u1 u2 := by
  obtain ⟨l, t, d, r, c, v, f, h1, h2, h3, h4, h5⟩ := h
  refine ⟨l, t, d, r, c, v, f, h1, Nat.le_trans h2 hs, h3, fun W' hW' hE => h4 W' hW' fun b hb1 hb2 => (hE b hb1 hb2).trans (hb b (Nat.lt_of_lt_of_le hb2 h2) (by omega) fun q hq e => ?_), fun q g hq e => ?_⟩
  · rcases h5 q b hq e with h | h <;> omega
  · rcases ho q g hq e with h | h
    · exact h5 q g hq h
    · right; omega
/-- WHAT LendHeld HAS LAID SO FAR. -/
def XX (csl : List (List Value)) (od od2 : List Value) (q : Nat) : List Value := if q < 2 then csl.flatten else if q = 2 then od else od2
structure LH (w W : World) (XB : Nat) (hs : List Hk) (i : Nat) (vv : Nat → Value) (csl : List (List Value)) (od od2 : List Value) : Prop where
  r4 : R4 (XB + 1) XB W vv (fun _ => i) (XX csl od od2)
  l1 : csl.length = i
  l2 : od.length = i
  l3 : od2.length = i
  c44 : ∀ cs ∈ csl, cs.length = 44
  each : ∀ j p, j < i → hs[j]? = some p → ∃ cs u1 u2, csl[j]? = some cs ∧ od[j]? = some u1 ∧ od2[j]? = some u2 ∧ El XB W vv p cs u1 u2
  bw : Below w.heap.size w W
  xw : w.heap.size < XB
  rb : ∃ zc, Bk 26 5 W w.heap.size zc
/-- ONE MORE. -/
theorem LH.next {w wr wz W : World} {XB : Nat} {hs : List Hk} {i : Nat} {vv : Nat → Value} {csl : List (List Value)} {od od2 : List Value} (h : LH w wr XB hs i vv csl od od2) {p : Hk} (hp : hs[i]? = some p) {cs : List Value} {d r c v f u1 u2 : Value} (hc : HkC cs p d r c v f)
    (kz : Below wr.heap.size wr wz) (hv : LHv (wr.heap.size + 1) wz p d r c v f u1 u2) {W1 W2 W3 : World} {x0 x1 x2 x3 : Value}
    (g0 : Gr (XB + 1) XB wz W1 vv (up vv 0 x0) (up (fun _ => i) 0 (i + 1)) (up (XX csl od od2) 0 (XX csl od od2 0 ++ cs)) 0 ∧ Below XB wz W1)
    (g1 : Gr (XB + 1) XB W1 W2 (up vv 0 x0) (up (up vv 0 x0) 1 x1) (up (up (fun _ => i) 0 (i + 1)) 1 (i + 1)) (up (up (XX csl od od2) 0 (XX csl od od2 0 ++ cs)) 1 (XX csl od od2 1 ++ cs)) 1 ∧ Below XB W1 W2)
    (g2 : Gr (XB + 1) XB W2 W3 (up (up vv 0 x0) 1 x1) (up (up (up vv 0 x0) 1 x1) 2 x2) (up (up (up (fun _ => i) 0 (i + 1)) 1 (i + 1)) 2 (i + 1)) (up (up (up (XX csl od od2) 0 (XX csl od od2 0 ++ cs)) 1 (XX csl od od2 1 ++ cs)) 2 (XX csl od od2 2 ++ [u1])) 2 ∧ Below XB W2 W3)
    (g3 : Gr (XB + 1) XB W3 W (up (up (up vv 0 x0) 1 x1) 2 x2) (up (up (up (up vv 0 x0) 1 x1) 2 x2) 3 x3) (up (up (up (up (fun _ => i) 0 (i + 1)) 1 (i + 1)) 2 (i + 1)) 3 (i + 1)) (up (up (up (up (XX csl od od2) 0 (XX csl od od2 0 ++ cs)) 1 (XX csl od od2 1 ++ cs)) 2 (XX csl od od2 2 ++ [u1])) 3 (XX csl od od2 3 ++ [u2])) 3 ∧ Below XB W3 W) :
    LH w W XB hs (i + 1) (up (up (up (up vv 0 x0) 1 x1) 2 x2) 3 x3) (csl ++ [cs]) (od ++ [u1]) (od2 ++ [u2]) := by
  obtain ⟨G0, b0⟩ := g0
  obtain ⟨G1, b1⟩ := g1
  obtain ⟨G2, b2⟩ := g2
  obtain ⟨G3, b3⟩ := g3
  have s0 := G0.size
  have s1 := G1.size
  have s2 := G2.size
  have s3 := G3.size
  have hxw := h.xw
  have hrz := kz.size
  have hXr := h.r4.xb.lt
  -- blocks of the world ahead of the four
  have hblk : ∀ b, b < wz.heap.size → b ≠ XB → (∀ q, q < 4 → (vv q).ownBlock ≠ some b) → W.heap[b]? = wz.heap[b]? := fun b hb h1 h2 => by
    rw [G3.blk b (by omega) h1 (h2 3 (by decide)), G2.blk b (by omega) h1 (h2 2 (by decide)), G1.blk b (by omega) h1 (h2 1 (by decide)), G0.blk b hb h1 (h2 0 (by decide))]
  have hown : ∀ q g, q < 4 → ((up (up (up (up vv 0 x0) 1 x1) 2 x2) 3 x3) q).ownBlock = some g → (vv q).ownBlock = some g ∨ wz.heap.size ≤ g := fun q g hq e => by
    rcases G3.own q g hq e with e | e
    · rcases G2.own q g hq e with e | e
      · rcases G1.own q g hq e with e | e
        · exact G0.own q g hq e
        · right; omega
      · right; omega
    · right; omega
  have hbw : Below w.heap.size w W := (h.bw.trans (kz.mono h.bw.size)).trans (((b0.trans b1).trans (b2.trans b3)).mono (Nat.le_of_lt hxw))
  refine ⟨⟨fun q hq => ?_, G3.r4.ne, G3.r4.xb, G3.r4.xlo, G3.r4.lo⟩, by rw [List.length_append, h.l1]; rfl, by rw [List.length_append, h.l2]; rfl, by rw [List.length_append, h.l3]; rfl, fun x hx => ?_, fun j p' hj hp' => ?_, hbw, hxw, ?_⟩
  · have hr := G3.r4.row q hq
    match q, hq with
    | 0, _ => simpa [up, XX] using hr
    | 1, _ => simpa [up, XX] using hr
    | 2, _ => simpa [up, XX] using hr
    | 3, _ => simpa [up, XX] using hr
  · rcases List.mem_append.1 hx with q | q
    · exact h.c44 x q
    · rw [List.mem_singleton] at q; subst q; exact hc.len
  · by_cases e : j = i
    · subst e
      rw [hp] at hp'; cases hp'
      refine ⟨cs, u1, u2, by rw [List.getElem?_append_right (by rw [h.l1]; exact Nat.le_refl _), h.l1, Nat.sub_self]; rfl, by rw [List.getElem?_append_right (by rw [h.l2]; exact Nat.le_refl _), h.l2, Nat.sub_self]; rfl, by rw [List.getElem?_append_right (by rw [h.l3]; exact Nat.le_refl _), h.l3, Nat.sub_self]; rfl, ?_⟩
      have hEl : El XB wz vv p cs u1 u2 := ⟨wr.heap.size + 1, wz.heap.size, d, r, c, v, f, by omega, Nat.le_refl _, hc, fun W' _ hE => hv.same hE, fun q g hq e => .inl (by have := (h.r4.lt hq e).2; omega)⟩
      exact hEl.step (by omega) hblk hown
    · obtain ⟨cs', v1, v2, k1, k2, k3, k4⟩ := h.each j p' (by omega) hp'
      refine ⟨cs', v1, v2, by rw [List.getElem?_append_left (by rw [h.l1]; omega)]; exact k1, by rw [List.getElem?_append_left (by rw [h.l2]; omega)]; exact k2, by rw [List.getElem?_append_left (by rw [h.l3]; omega)]; exact k3, ?_⟩
      have k5 : El XB wz vv p' cs' v1 v2 := k4.step hrz (fun b hb _ _ => kz.block b hb) fun _ _ _ e => .inl e
      exact k5.step (by omega) hblk hown
  · obtain ⟨zc, hb⟩ := h.rb
    refine ⟨zc, hb.of ?_⟩
    have h1 := hb.lt
    rw [b3.block _ hxw, b2.block _ hxw, b1.block _ hxw, b0.block _ hxw]
    exact kz.block _ h1
end Go.Proofs.Ytodlmbhlinpoeaa
