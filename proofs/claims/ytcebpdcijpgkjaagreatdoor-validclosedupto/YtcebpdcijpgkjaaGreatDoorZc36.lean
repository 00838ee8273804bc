import Derived.Test.YtcebpdcijpgkjaaGreatDoorZc34
import Derived.Test.YtcebpdcijpgkjaaGreatDoorZc35
namespace Go.Proofs.YtcebpdcijpgkjaaGreatDoor
open Go.RowKit Go.Maps Go.Shelf

theorem kn_ex (ps : List Pk) (inn : Nat → Bool) : ∀ n, n ≤ (plL inn ps.length).length → ∃ K, Kn ps inn n K
  | 0, _ => ⟨[], Kn.start ps inn⟩
  | n + 1, h => by
    obtain ⟨K, hK⟩ := kn_ex ps inn n (by omega)
    have hp : (plL inn ps.length)[n]? = some (plL inn ps.length)[n] := List.getElem?_eq_getElem (by omega)
    cases hb : brk ps inn (plL inn ps.length)[n]
    · exact ⟨K, hK.no hp hb⟩
    · exact ⟨_, hK.yes hp hb⟩
/-- WHO BREAKS: the program and the definition tell the same keys. -/
theorem breaks_all {ps : List Pk} {ks : List (Nm × Nm)} (sm : SmP ps) (hkl : ks.length ≤ 1048576) (hkz : ∀ x ∈ ks, x.1.size ≤ maxLen ∧ x.2.size ≤ maxLen) : ∃ L : List (Nm × Nm), L.length ≤ 1048576 ∧
    (∀ (X : World) (v u : Value), Pkl X v ps → Kyl X u ks → Calls Tryz.prog 16 #[v, u] X fun e w' => ∃ r, e = .returned r ∧ w'.ownsRow X.heap.size 29 2 r L.length (kyC L) ∧ RowKit.Below X.heap.size X w') ∧
    (∀ (X : World) (v u : Value), Pkl X v ps → Kyl X u ks → Calls Tryz.prog 17 #[v, u] X fun e w' => ∃ r, e = .returned r ∧ w'.ownsRow X.heap.size 29 2 r L.length (kyC L) ∧ RowKit.Below X.heap.size X w') := by
  obtain ⟨K, hK⟩ := kn_ex ps (fun i => decide (i < ps.length) && lef ps ks i) _ (Nat.le_refl _)
  refine ⟨K, ?_, fun X v u pk hk => ?_, fun X v u pk hk => ?_⟩
  · have h1 := hK.len
    have h2 := plL_len (fun i => decide (i < ps.length) && lef ps ks i) ps.length
    have h3 := sm.l
    omega
  · refine (Breaks_own sm pk hk hkl hkz _ (sel_lo ps ks)).mono ?_
    rintro e w' ⟨r, L, rfl, ro, _, h1, h2, hb⟩
    have hLK := breaks_two h1 h2 hK
    subst hLK
    exact ⟨r, rfl, ro, hb⟩
  · refine (rBreaks_own sm pk hk hkl).mono ?_
    rintro e w' ⟨r, K2, rfl, ro, h1, hb⟩
    have hLK : K2 = K := lx_uniq h1.rise hK.rise fun x => by rw [h1.mem, hK.mem]
    subst hLK
    exact ⟨r, rfl, ro, hb⟩
/-- KEYS THAT ARE WRITTEN OVER IN THEIR OWN BLOCK. -/
def Kx (w wr : World) (B n : Nat) : Prop := ∃ ks2 : List (Nm × Nm), ks2.length = n ∧ Kk wr B ks2 ∧ (∀ x ∈ ks2, x.1.size ≤ maxLen ∧ x.2.size ≤ maxLen) ∧ Fx (fun g => g = B) w wr
theorem Kx.write {w wr : World} {B n i : Nat} (h : Kx w wr B n) (hi : i < n) (y : Nm × Nm) (hy : y.1.size ≤ maxLen ∧ y.2.size ≤ maxLen) :
    (∃ z, wr.cell? ⟨B, i * 2, none⟩ = some z) ∧ (∃ z, wr.cell? ⟨B, i * 2 + 1, none⟩ = some z) ∧ wr.frozen? ⟨B, i * 2, none⟩ = false ∧ wr.frozen? ⟨B, i * 2 + 1, none⟩ = false ∧ B < wr.heap.size ∧
    Kx w ((wr.setCell ⟨B, i * 2, none⟩ (.string y.1)).setCell ⟨B, i * 2 + 1, none⟩ (.string y.2)) B n := by
  obtain ⟨ks2, hn, hk, hz, hf⟩ := h
  obtain ⟨x, hx⟩ : ∃ x, ks2[i]? = some x := ⟨_, List.getElem?_eq_getElem (by omega)⟩
  obtain ⟨c0, c1⟩ := hk.cells hx
  refine ⟨⟨_, c0⟩, ⟨_, c1⟩, hk.fr _, hk.fr _, hk.lt, ks2.set i y, by rw [List.length_set]; exact hn, hk.write (by omega) y, fun x hx => ?_, (hf.set (g := B) rfl _ _).set (g := B) rfl _ _⟩
  rcases List.mem_or_eq_of_mem_set hx with hx | rfl
  · exact hz x hx
  · exact hy
theorem Kx.later {w wr w2 : World} {B n : Nat} (h : Kx w wr B n) (hb : RowKit.Below wr.heap.size wr w2) : Kx w w2 B n := by
  obtain ⟨ks2, hn, hk, hz, hf⟩ := h
  exact ⟨ks2, hn, hk.later hb, hz, hf.trans (Fx.of hb)⟩
/-- WHAT BLOCKS FROM B ON HAVE CHANGED LEAVES WHAT IS BELOW B. -/
theorem Fx.low {P : Nat → Prop} {W0 W W2 : World} {n : Nat} (h : RowKit.Below n W0 W) (f : Fx P W W2) (hp : ∀ g, P g → n ≤ g) (hn : n ≤ W.heap.size) : RowKit.Below n W0 W2 :=
  ⟨f.bel.os.trans h.os, f.bel.tape.trans h.tape, f.bel.output.trans h.output, Nat.le_trans h.size f.size, fun j hj => (f.blk j (by omega) (fun q => by have := hp j q; omega)).trans (h.block j hj)⟩
theorem Fx.row {P : Nat → Prop} {W W2 : World} {lo e size n : Nat} {v : Value} {xs : List Value} (f : Fx P W W2) (h : W.ownsRow lo e size v n xs) (hp : ∀ g, v.ownBlock = some g → ¬ P g) : W2.ownsRow lo e size v n xs :=
  own_same h fun b e => f.blk b (World.ownsRow.lt h b e).2 (hp b e)
end Go.Proofs.YtcebpdcijpgkjaaGreatDoor

namespace Go.Proofs.YtcebpdcijpgkjaaGreatDoor
open Go.RowKit Go.Maps Go.Shelf

theorem Ov.cells {W0 W : World} {L m i : Nat} {ps : List Pk} {Md Mr : Nat → Nat} {nm : ByteArray} {dn : Nat → Nat} {p : Pk} (h : Ov W0 W L ps Md Mr nm m dn) (hp : ps[i]? = some p) :
    W.cell? ⟨L, i * 43, none⟩ = some (.string p.nm) ∧ W.cell? ⟨L, i * 43 + 3, none⟩ = some (.slice (some ⟨Md i, 0, none⟩) p.dp.length (p.dp.length + 1)) ∧ (∃ z, W.cell? ⟨L, i * 43 + 6, none⟩ = some z) ∧ W.frozen? ⟨L, i * 43 + 6, none⟩ = false := by
  obtain ⟨cs, C, S, F, h2, h3, h4⟩ := h.pk i p hp
  refine ⟨?_, ?_, ?_, h.fl _⟩
  · exact h3 0 _ h2.pc.c0 (fun e => by omega)
  · exact h3 3 _ h2.pc.c3 (fun e => by omega)
  · by_cases q : i < m
    · exact ⟨_, h4 q⟩
    · exact ⟨_, h3 6 _ h2.pc.c6 (fun _ => by omega)⟩
/-- THE FIRST i PACKAGES ARE WRITTEN OVER. -/
def Oi (W0 W : World) (L : Nat) (ps : List Pk) (Md Mr : Nat → Nat) (nm : ByteArray) (i : Nat) : Prop :=
  ∃ dn, Ov W0 W L ps Md Mr nm i dn ∧ (∀ k p, k < i → ps[k]? = some p → dn k = p.dp.length) ∧ ∀ k, i ≤ k → dn k = 0
/-- .. AND OF THE NEXT ONE THE FIRST n CLAUSES. -/
def Oj (W0 W : World) (L : Nat) (ps : List Pk) (Md Mr : Nat → Nat) (nm : ByteArray) (i n : Nat) : Prop :=
  ∃ dn, Ov W0 W L ps Md Mr nm (i + 1) dn ∧ (∀ k p, k < i → ps[k]? = some p → dn k = p.dp.length) ∧ dn i = n ∧ ∀ k, i < k → dn k = 0
section
variable {W0 W : World} {L i n : Nat} {ps : List Pk} {Md Mr : Nat → Nat} {nm : ByteArray} {p : Pk}
theorem Oi.start {base : Nat} (h : PRw base W0 L ps ps.length Md Mr) (nm : ByteArray) : Oi W0 W0 L ps Md Mr nm 0 := ⟨_, Ov.start h nm, fun _ _ hk => absurd hk (Nat.not_lt_zero _), fun _ _ => rfl⟩
theorem Oi.later {W' : World} (h : Oi W0 W L ps Md Mr nm i) (hb : RowKit.Below W.heap.size W W') : Oi W0 W' L ps Md Mr nm i :=
  let ⟨dn, h1, h2, h3⟩ := h; ⟨dn, h1.later hb, h2, h3⟩
theorem Oj.later {W' : World} (h : Oj W0 W L ps Md Mr nm i n) (hb : RowKit.Below W.heap.size W W') : Oj W0 W' L ps Md Mr nm i n :=
  let ⟨dn, h1, h2, h3, h4⟩ := h; ⟨dn, h1.later hb, h2, h3, h4⟩
theorem Oi.prov (h : Oi W0 W L ps Md Mr nm i) (hi : i < ps.length) : Oj W0 (W.setCell ⟨L, i * 43 + 6, none⟩ (.slice none 0 0)) L ps Md Mr nm i 0 :=
  let ⟨dn, h1, h2, h3⟩ := h; ⟨dn, h1.prov hi, h2, h3 i (Nat.le_refl _), fun k hk => h3 k (Nat.le_of_lt hk)⟩
theorem Oj.dep (h : Oj W0 W L ps Md Mr nm i n) (hp : ps[i]? = some p) (hn : n < p.dp.length) : Oj W0 ((W.alloc (.cells #[.string nm, .int .i64 0, .string ⟨#[]⟩] 48)).setCell ⟨Md i, n, none⟩ (.slice (some ⟨W.heap.size, 0, none⟩) 1 1)) L ps Md Mr nm i (n + 1) := by
  obtain ⟨dn, h1, h2, h3, h4⟩ := h
  subst h3
  refine ⟨_, h1.dep hp hn, fun k q hk hq => ?_, ?_, fun k hk => ?_⟩
  · show (if k = i then dn i + 1 else dn k) = _
    rw [if_neg (by omega)]
    exact h2 k q hk hq
  · show (if i = i then dn i + 1 else dn i) = _
    rw [if_pos rfl]
  · show (if k = i then dn i + 1 else dn k) = _
    rw [if_neg (by omega)]
    exact h4 k hk
theorem Oj.done (h : Oj W0 W L ps Md Mr nm i p.dp.length) (hp : ps[i]? = some p) : Oi W0 W L ps Md Mr nm (i + 1) := by
  obtain ⟨dn, h1, h2, h3, h4⟩ := h
  refine ⟨dn, h1, fun k q hk hq => ?_, fun k hk => h4 k (by omega)⟩
  by_cases e : k = i
  · subst e
    rw [hp] at hq
    cases hq
    exact h3
  · exact h2 k q (by omega) hq
theorem Oi.cells {k : Nat} (h : Oi W0 W L ps Md Mr nm i) (hp : ps[k]? = some p) : W.cell? ⟨L, k * 43, none⟩ = some (.string p.nm) ∧ W.cell? ⟨L, k * 43 + 3, none⟩ = some (.slice (some ⟨Md k, 0, none⟩) p.dp.length (p.dp.length + 1)) ∧ (∃ z, W.cell? ⟨L, k * 43 + 6, none⟩ = some z) ∧ W.frozen? ⟨L, k * 43 + 6, none⟩ = false :=
  let ⟨_, h1, _⟩ := h; h1.cells hp
theorem Oj.cells {k : Nat} (h : Oj W0 W L ps Md Mr nm i n) (hp : ps[k]? = some p) : W.cell? ⟨L, k * 43, none⟩ = some (.string p.nm) ∧ W.cell? ⟨L, k * 43 + 3, none⟩ = some (.slice (some ⟨Md k, 0, none⟩) p.dp.length (p.dp.length + 1)) :=
  let ⟨_, h1, _⟩ := h; ⟨(h1.cells hp).1, (h1.cells hp).2.1⟩
theorem Oj.spot (h : Oj W0 W L ps Md Mr nm i n) (hp : ps[i]? = some p) (hn : n < p.dp.length) : (∃ z, W.cell? ⟨Md i, n, none⟩ = some z) ∧ W.frozen? ⟨Md i, n, none⟩ = false ∧ Md i < W.heap.size ∧ L < W.heap.size := by
  obtain ⟨dn, h1, _⟩ := h
  have hi := (List.getElem?_eq_some_iff.1 hp).1
  exact ⟨Option.isSome_iff_exists.1 (h1.sp i p hp n hn), h1.fm i hi n, h1.lt.2 i hi, h1.lt.1⟩
theorem Oi.fx (h : Oi W0 W L ps Md Mr nm i) : Fx (fun b => b = L ∨ ∃ j, j < ps.length ∧ b = Md j) W0 W := let ⟨_, h1, _⟩ := h; h1.fx
theorem Oi.pkl (h : Oi W0 W L ps Md Mr nm ps.length) (hz : ∀ p ∈ ps, PkZ p) (hf : ∀ p ∈ ps, ∀ x ∈ p.fs, ∃ s : Nm, x[0]? = some (Value.string s)) : Pkl W (.slice (some ⟨L, 0, none⟩) ps.length (ps.length + 1)) (ps.map (ovP nm)) := by
  obtain ⟨dn, h1, h2, _⟩ := h
  exact h1.pkl (fun i p hp => h2 i p (List.getElem?_eq_some_iff.1 hp).1 hp) hz hf
end
theorem Pkl.first {W : World} {a : Option Addr} {n c : Nat} {ps : List Pk} {p : Pk} (h : Pkl W (.slice a n c) ps) (hp : ps[0]? = some p) : ∃ b o, a = some ⟨b, o, none⟩ ∧ b < W.heap.size ∧ W.cell? ⟨b, o, none⟩ = some (.string p.nm) ∧ W.cell? ⟨b, o + 1, none⟩ = some (.string p.vr) := by
  obtain ⟨a', c', e, h⟩ := h
  injection e with e1 e2 e3
  subst e1
  obtain ⟨b, o, ha, hb, hh⟩ := h (List.getElem?_eq_some_iff.1 hp).1
  obtain ⟨cs, d, r, c, v, f, h1, h2, h3⟩ := hh 0 p hp
  rw [Nat.zero_mul, Nat.add_zero] at h1
  exact ⟨b, o, ha, hb, h1 0 _ h2.c0, h1 1 _ h2.c1⟩
theorem Kx.low {W0 w wr : World} {B n : Nat} (h : Kx w wr B n) (hb : RowKit.Below B W0 w) (hB : B ≤ w.heap.size) : RowKit.Below B W0 wr := by
  obtain ⟨_, _, _, _, hf⟩ := h
  exact Fx.low hb hf (fun g e => Nat.le_of_eq e.symm) hB
theorem Kx.lt {w wr : World} {B n : Nat} (h : Kx w wr B n) : B < wr.heap.size := by
  obtain ⟨_, _, hk, _⟩ := h
  exact hk.lt
theorem first_nm {ps : List Pk} (sm : SmP ps) : ∃ nm : ByteArray, (∀ p, ps[0]? = some p → p.nm = nm) ∧ nm.size ≤ maxLen := by
  cases h : ps[0]? with
  | none => exact ⟨⟨#[]⟩, (fun p hp => (by cases hp)), (by decide)⟩
  | some q => exact ⟨q.nm, (fun p hp => (by cases hp; rfl)), (sm.z q (List.mem_of_getElem? h)).1⟩
end Go.Proofs.YtcebpdcijpgkjaaGreatDoor

