import Derived.Test.YtdkpglmdncjnbaaGreatDoorZf42
import Derived.Test.YtdkpglmdncjnbaaGreatDoorZf43
import Derived.Deep.Strs
import Derived.ChangeKeysEq
namespace Go.Proofs.YtdkpglmdncjnbaaGreatDoor
section
open Go.RowKit Go.Maps Go.Shelf
theorem kn_ex (ps : List Pk) (inn : Nat → Bool) : ∀ n, n ≤ (plL inn ps.length).length → ∃ K, Kn ps inn n K
 | 0, _ => ⟨[], Kn.start ps inn⟩
 | n + 1, h => by
   obtain ⟨K, hK⟩ := kn_ex ps inn n (by omega)
   have hp : (plL inn ps.length)[n]? = some (plL inn ps.length)[n] := List.getElem?_eq_getElem (by omega)
   cases hb : brk ps inn (plL inn ps.length)[n]
   ·exact ⟨K, hK.no hp hb⟩
   ·exact ⟨_, hK.yes hp hb⟩
theorem breaks_all {ps : List Pk} {ks : List (Nm × Nm)} (sm : SmP ps) (hkl : ks.length ≤ 1048576) (hkz : ∀ x ∈ ks, x.1.size ≤ maxLen ∧ x.2.size ≤ maxLen) : ∃ L : List (Nm × Nm), L.length ≤ 1048576 ∧
 (∀ (X : World) (v u : Value), Pkl X v ps → Kyl X u ks → Calls Tryz.prog 16 #[v, u] X fun e w' => ∃ r, e = .returned r ∧ w'.ownsRow X.heap.size 29 2 r L.length (kyC L) ∧ RowKit.Below X.heap.size X w') ∧
 (∀ (X : World) (v u : Value), Pkl X v ps → Kyl X u ks → Calls Tryz.prog 17 #[v, u] X fun e w' => ∃ r, e = .returned r ∧ w'.ownsRow X.heap.size 29 2 r L.length (kyC L) ∧ RowKit.Below X.heap.size X w') := by
 obtain ⟨K, hK⟩ := kn_ex ps (fun i => decide (i < ps.length) && lef ps ks i) _ (Nat.le_refl _)
 refine ⟨K, ?_, fun X v u pk hk => ?_, fun X v u pk hk => ?_⟩
 ·have h1 := hK.len
  have h2 := plL_len (fun i => decide (i < ps.length) && lef ps ks i) ps.length
  have h3 := sm.l
  omega
 ·refine (Breaks_own sm pk hk hkl hkz _ (sel_lo ps ks)).mono ?_
  rintro e w' ⟨r, L, rfl, ro, _, h1, h2, hb⟩
  have hLK := breaks_two h1 h2 hK
  subst hLK
  exact ⟨r, rfl, ro, hb⟩
 ·refine (rBreaks_own sm pk hk hkl).mono ?_
  rintro e w' ⟨r, K2, rfl, ro, h1, hb⟩
  have hLK : K2 = K := lx_uniq h1.rise hK.rise fun x => by rw [h1.mem, hK.mem]
  subst hLK
  exact ⟨r, rfl, ro, hb⟩
def Kx (w wr : World) (B n : Nat) : Prop := ∃ ks2 : List (Nm × Nm), ks2.length = n ∧ Kk wr B ks2 ∧ (∀ x ∈ ks2, x.1.size ≤ maxLen ∧ x.2.size ≤ maxLen) ∧ Fx (fun g => g = B) w wr
theorem Kx.later {w wr w2 : World} {B n : Nat} (h : Kx w wr B n) (hb : RowKit.Below wr.heap.size wr w2) : Kx w w2 B n := by
 obtain ⟨ks2, hn, hk, hz, hf⟩ := h
 exact ⟨ks2, hn, hk.later hb, hz, hf.trans (Fx.of hb)⟩
theorem Fx.low {P : Nat → Prop} {W0 W W2 : World} {n : Nat} (h : RowKit.Below n W0 W) (f : Fx P W W2) (hp : ∀ g, P g → n ≤ g) (hn : n ≤ W.heap.size) : RowKit.Below n W0 W2 :=
 ⟨f.bel.os.trans h.os, f.bel.tape.trans h.tape, f.bel.output.trans h.output, Nat.le_trans h.size f.size, fun j hj => (f.blk j (by omega) (fun q => by have := hp j q; omega)).trans (h.block j hj)⟩
theorem Fx.row {P : Nat → Prop} {W W2 : World} {lo e size n : Nat} {v : Value} {xs : List Value} (f : Fx P W W2) (h : W.ownsRow lo e size v n xs) (hp : ∀ g, v.ownBlock = some g → ¬ P g) : W2.ownsRow lo e size v n xs :=
 own_same h fun b e => f.blk b (World.ownsRow.lt h b e).2 (hp b e)
end
section
open Go.RowKit Go.Maps Go.Shelf
theorem Ov.cells {W0 W : World} {L m i : Nat} {ps : List Pk} {Md Mr : Nat → Nat} {nm : ByteArray} {dn : Nat → Nat} {p : Pk} (h : Ov W0 W L ps Md Mr nm m dn) (hp : ps[i]? = some p) :
 W.cell? ⟨L, i * 43, none⟩ = some (.string p.nm) ∧ W.cell? ⟨L, i * 43 + 3, none⟩ = some (.slice (some ⟨Md i, 0, none⟩) p.dp.length (p.dp.length + 1)) ∧ (∃ z, W.cell? ⟨L, i * 43 + 6, none⟩ = some z) ∧ W.frozen? ⟨L, i * 43 + 6, none⟩ = false := by
 obtain ⟨cs, C, S, F, h2, h3, h4⟩ := h.pk i p hp
 refine ⟨?_, ?_, ?_, h.fl _⟩
 ·exact h3 0 _ h2.pc.c0 (fun e => by omega)
 ·exact h3 3 _ h2.pc.c3 (fun e => by omega)
 ·by_cases q : i < m
  ·exact ⟨_, h4 q⟩
  ·exact ⟨_, h3 6 _ h2.pc.c6 (fun _ => by omega)⟩
def Oi (W0 W : World) (L : Nat) (ps : List Pk) (Md Mr : Nat → Nat) (nm : ByteArray) (i : Nat) : Prop :=
 ∃ dn, Ov W0 W L ps Md Mr nm i dn ∧ (∀ k p, k < i → ps[k]? = some p → dn k = p.dp.length) ∧ ∀ k, i ≤ k → dn k = 0
def Oj (W0 W : World) (L : Nat) (ps : List Pk) (Md Mr : Nat → Nat) (nm : ByteArray) (i n : Nat) : Prop :=
 ∃ dn, Ov W0 W L ps Md Mr nm (i + 1) dn ∧ (∀ k p, k < i → ps[k]? = some p → dn k = p.dp.length) ∧ dn i = n ∧ ∀ k, i < k → dn k = 0
section
variable {W0 W : World} {L i n : Nat} {ps : List Pk} {Md Mr : Nat → Nat} {nm : ByteArray} {p : Pk}
theorem Oi.start {base : Nat} (h : PRw base W0 L ps ps.length Md Mr) (nm : ByteArray) : Oi W0 W0 L ps Md Mr nm 0 := ⟨_, Ov.start h nm, fun _ _ hk => absurd hk (Nat.not_lt_zero _), fun _ _ => rfl⟩
theorem Oi.later {W' : World} (h : Oi W0 W L ps Md Mr nm i) (hb : RowKit.Below W.heap.size W W') : Oi W0 W' L ps Md Mr nm i :=
 let ⟨dn, h1, h2, h3⟩ := h; ⟨dn, h1.later hb, h2, h3⟩
theorem Oj.later {W' : World} (h : Oj W0 W L ps Md Mr nm i n) (hb : RowKit.Below W.heap.size W W') : Oj W0 W' L ps Md Mr nm i n :=
 let ⟨dn, h1, h2, h3, h4⟩ := h; ⟨dn, h1.later hb, h2, h3, h4⟩
theorem Oj.done (h : Oj W0 W L ps Md Mr nm i p.dp.length) (hp : ps[i]? = some p) : Oi W0 W L ps Md Mr nm (i + 1) := by
 obtain ⟨dn, h1, h2, h3, h4⟩ := h
 refine ⟨dn, h1, fun k q hk hq => ?_, fun k hk => h4 k (by omega)⟩
 by_cases e : k = i
 ·subst e
  rw [hp] at hq
  cases hq
  exact h3
 ·exact h2 k q (by omega) hq
theorem Oi.cells {k : Nat} (h : Oi W0 W L ps Md Mr nm i) (hp : ps[k]? = some p) : W.cell? ⟨L, k * 43, none⟩ = some (.string p.nm) ∧ W.cell? ⟨L, k * 43 + 3, none⟩ = some (.slice (some ⟨Md k, 0, none⟩) p.dp.length (p.dp.length + 1)) ∧ (∃ z, W.cell? ⟨L, k * 43 + 6, none⟩ = some z) ∧ W.frozen? ⟨L, k * 43 + 6, none⟩ = false :=
 let ⟨_, h1, _⟩ := h; h1.cells hp
theorem Oj.cells {k : Nat} (h : Oj W0 W L ps Md Mr nm i n) (hp : ps[k]? = some p) : W.cell? ⟨L, k * 43, none⟩ = some (.string p.nm) ∧ W.cell? ⟨L, k * 43 + 3, none⟩ = some (.slice (some ⟨Md k, 0, none⟩) p.dp.length (p.dp.length + 1)) :=
 let ⟨_, h1, _⟩ := h; ⟨(h1.cells hp).1, (h1.cells hp).2.1⟩
theorem Oj.spot (h : Oj W0 W L ps Md Mr nm i n) (hp : ps[i]? = some p) (hn : n < p.dp.length) : (∃ z, W.cell? ⟨Md i, n, none⟩ = some z) ∧ W.frozen? ⟨Md i, n, none⟩ = false ∧ Md i < W.heap.size ∧ L < W.heap.size := by
 obtain ⟨dn, h1, _⟩ := h
 have hi := (List.getElem?_eq_some_iff.1 hp).1
 exact ⟨Option.isSome_iff_exists.1 (h1.sp i p hp n hn), h1.fm i hi n, h1.lt.2 i hi, h1.lt.1⟩
theorem Oi.fx (h : Oi W0 W L ps Md Mr nm i) : Fx (fun b => b = L ∨ ∃ j, j < ps.length ∧ b = Md j) W0 W := let ⟨_, h1, _⟩ := h; h1.fx
theorem Oi.pkl (h : Oi W0 W L ps Md Mr nm ps.length) (hz : ∀ p ∈ ps, PkZ p) (hf : ∀ p ∈ ps, ∀ x ∈ p.fs, ∃ s : Nm, x[0]? = some (Value.string s)) : Pkl W (.slice (some ⟨L, 0, none⟩) ps.length (ps.length + 1)) (ps.map (ovP nm)) := by
 obtain ⟨dn, h1, h2, _⟩ := h
 exact h1.pkl (fun i p hp => h2 i p (List.getElem?_eq_some_iff.1 hp).1 hp) hz hf
end
theorem Kx.low {W0 w wr : World} {B n : Nat} (h : Kx w wr B n) (hb : RowKit.Below B W0 w) (hB : B ≤ w.heap.size) : RowKit.Below B W0 wr := by
 obtain ⟨_, _, _, _, hf⟩ := h
 exact Fx.low hb hf (fun g e => Nat.le_of_eq e.symm) hB
theorem Kx.lt {w wr : World} {B n : Nat} (h : Kx w wr B n) : B < wr.heap.size := by
 obtain ⟨_, _, hk, _⟩ := h
 exact hk.lt
end
section
open Go.RowKit Go.Maps Go.Shelf
def Kq (u u' : Value) : Prop := u' = u ∨ (∃ s s' : Nm, u = .string s ∧ u' = .string s' ∧ s'.size ≤ maxLen) ∨ (∃ n n' : Int, u = .int .i64 n ∧ u' = .int .i64 n' ∧ (Lit.int .i64 n').wf = true)
theorem Kq.refl (u : Value) : Kq u u := .inl rfl
theorem Kq.trans {u v x : Value} (h : Kq u v) (k : Kq v x) : Kq u x := by
 rcases h with rfl | ⟨s, s', rfl, rfl, hs⟩ | ⟨n, n', rfl, rfl, hn⟩
 ·exact k
 ·rcases k with rfl | ⟨t, t', e, rfl, ht⟩ | ⟨m, m', e, rfl, hm⟩
  ·exact .inr (.inl ⟨s, s', rfl, rfl, hs⟩)
  ·exact .inr (.inl ⟨s, t', rfl, rfl, ht⟩)
  ·cases e
 ·rcases k with rfl | ⟨t, t', e, rfl, ht⟩ | ⟨m, m', e, rfl, hm⟩
  ·exact .inr (.inr ⟨n, n', rfl, rfl, hn⟩)
  ·cases e
  ·exact .inr (.inr ⟨n, m', rfl, rfl, hm⟩)
theorem Kq.slice {a : Option Addr} {n c : Nat} {u : Value} (h : Kq (.slice a n c) u) : u = .slice a n c := by
 rcases h with rfl | ⟨_, _, e, _⟩ | ⟨_, _, e, _⟩
 ·rfl
 ·cases e
 ·cases e
theorem Kq.bool {b : Bool} {u : Value} (h : Kq (.bool b) u) : u = .bool b := by
 rcases h with rfl | ⟨_, _, e, _⟩ | ⟨_, _, e, _⟩
 ·rfl
 ·cases e
 ·cases e
theorem Kq.str {s : Nm} {u : Value} (h : Kq (.string s) u) : ∃ s' : Nm, u = .string s' ∧ (s.size ≤ maxLen → s'.size ≤ maxLen) := by
 rcases h with rfl | ⟨_, s', _, rfl, hs⟩ | ⟨_, _, e, _⟩
 ·exact ⟨s, rfl, id⟩
 ·exact ⟨s', rfl, fun _ => hs⟩
 ·cases e
theorem Kq.int {n : Int} {u : Value} (h : Kq (.int .i64 n) u) : ∃ n' : Int, u = .int .i64 n' := by
 rcases h with rfl | ⟨_, _, e, _⟩ | ⟨_, n', _, rfl, _⟩
 ·exact ⟨n, rfl⟩
 ·cases e
 ·exact ⟨n', rfl⟩
theorem Kq.one {u u' : Value} (h : Kq u u') (hu : u.oneCell' = true) : u'.oneCell' = true := by
 rcases h with rfl | ⟨_, _, _, rfl, _⟩ | ⟨_, _, _, rfl, _⟩
 ·exact hu
 ·rfl
 ·rfl
def Kl (cs cs' : List Value) : Prop := cs'.length = cs.length ∧ ∀ (j : Nat) (u : Value), cs[j]? = some u → ∃ u', cs'[j]? = some u' ∧ Kq u u'
theorem Kl.piece {cs cs' : List Value} (h : Kl cs cs') (a b : Nat) : Kl ((cs.drop a).take b) ((cs'.drop a).take b) := by
 refine ⟨by simp only [List.length_take, List.length_drop, h.1], fun j u hj => ?_⟩
 have hjl : j < b := by
  have := (List.getElem?_eq_some_iff.1 hj).1
  simp only [List.length_take] at this
  omega
 rw [List.getElem?_take_of_lt hjl, List.getElem?_drop] at hj
 obtain ⟨u', h1, h2⟩ := h.2 _ _ hj
 exact ⟨u', by rw [List.getElem?_take_of_lt hjl, List.getElem?_drop]; exact h1, h2⟩
theorem Kl.back {cs cs' : List Value} (h : Kl cs cs') {j : Nat} {u' : Value} (hj : cs'[j]? = some u') : ∃ u, cs[j]? = some u ∧ Kq u u' := by
 have hl := (List.getElem?_eq_some_iff.1 hj).1
 rw [h.1] at hl
 obtain ⟨v, h1, h2⟩ := h.2 j _ (List.getElem?_eq_getElem hl)
 rw [hj] at h1
 cases h1
 exact ⟨_, List.getElem?_eq_getElem hl, h2⟩
theorem Kl.one {cs cs' : List Value} (h : Kl cs cs') (hu : ∀ u ∈ cs, u.oneCell' = true) : ∀ u ∈ cs', u.oneCell' = true := fun u hu' => by
 obtain ⟨j, hj, rfl⟩ := List.mem_iff_getElem.1 hu'
 obtain ⟨v, h1, h2⟩ := h.back (List.getElem?_eq_getElem hj)
 exact h2.one (hu v (List.mem_of_getElem? h1))
theorem Kl.sing {u : Value} {cs' : List Value} (h : Kl [u] cs') : ∃ u', cs' = [u'] ∧ Kq u u' := by
 obtain ⟨h1, h2⟩ := h
 match cs', h1 with
 | [u'], _ =>
   obtain ⟨x, h3, h4⟩ := h2 0 u rfl
   cases h3
   exact ⟨_, rfl, h4⟩
theorem mapM_all {α β : Type} (f : α → Option β) : ∀ (L : List α), (∃ ys, L.mapM f = some ys) ↔ ∀ x ∈ L, ∃ y, f x = some y
 | [] => ⟨fun _ x hx => (by cases hx), fun _ => ⟨[], rfl⟩⟩
 | a :: L => by
   have ih := mapM_all f L
   constructor
   ·rintro ⟨ys, h⟩ x hx
    rw [List.mapM_cons] at h
    simp only [bind, Option.bind_eq_some_iff, pure, Option.some.injEq] at h
    obtain ⟨b, hb, bs, hbs, rfl⟩ := h
    rcases List.mem_cons.1 hx with rfl | hx
    ·exact ⟨b, hb⟩
    ·exact ih.1 ⟨bs, hbs⟩ x hx
   ·intro h
    obtain ⟨b, hb⟩ := h a List.mem_cons_self
    obtain ⟨bs, hbs⟩ := ih.2 fun x hx => h x (List.mem_cons_of_mem _ hx)
    exact ⟨b :: bs, by rw [List.mapM_cons]; simp [bind, hb, hbs, pure]⟩
theorem keyLits_kp {P : Program} : ∀ (d : Nat) (t : TypeId) (cs cs' : List Value) (l : List Lit), P.keyLits d t cs = some l → Kl cs cs' → ∃ l', P.keyLits d t cs' = some l'
 | 0, _, _, _, _, h, _ => by simp [Program.keyLits] at h
 | d + 1, t, cs, cs', l, h, hk => by
   have hlen := hk.1
   cases hu : P.underlying t with
   | none => unfold Program.keyLits at h; rw [hu] at h; simp at h
   | some u =>
     cases u with
     | int q =>
       obtain ⟨n, rfl, rfl⟩ := keyLits_int' hu h
       obtain ⟨u', rfl, hp⟩ := hk.sing
       rcases hp with rfl | ⟨_, _, e, _⟩ | ⟨n1, n', e, rfl, hw⟩
       ·exact ⟨_, h⟩
       ·cases e
       ·injection e with e1 e2
        subst e1
        refine ⟨[.int .i64 n'], ?_⟩
        unfold Program.keyLits
        rw [hu]
        simp [hw]
     | string =>
       obtain ⟨s, rfl, rfl⟩ := keyLits_string' hu h
       obtain ⟨u', rfl, hp⟩ := hk.sing
       rcases hp with rfl | ⟨s1, s', e, rfl, hs⟩ | ⟨_, _, e, _⟩
       ·exact ⟨_, h⟩
       ·refine ⟨[.string s'.data.toList], ?_⟩
        unfold Program.keyLits
        rw [hu]
        simp [hs]
       ·cases e
     | bool =>
       obtain ⟨b, rfl, _⟩ := keyLits_bool' hu h
       obtain ⟨u', rfl, hp⟩ := hk.sing
       rw [hp.bool]
       exact ⟨_, h⟩
     | array n e =>
       unfold Program.keyLits at h ⊢
       rw [hu] at h ⊢
       simp only at h ⊢
       split at h
       ·rename_i hc
        obtain ⟨ls, h1, rfl⟩ := Option.map_eq_some_iff.1 h
        have hall := (mapM_all _ _).1 ⟨ls, h1⟩
        obtain ⟨ls', h2⟩ := (mapM_all (fun i => P.keyLits d e ((cs'.drop (i * P.cellsOf e)).take (P.cellsOf e))) (List.range n)).2 fun i hi => by
         obtain ⟨y, hy⟩ := hall i hi
         exact keyLits_kp d e _ _ _ hy (hk.piece _ _)
        exact ⟨ls'.flatten, by rw [if_pos (by rw [hlen]; exact hc), h2]; rfl⟩
       ·cases h
     | struct fs =>
       unfold Program.keyLits at h ⊢
       rw [hu] at h ⊢
       simp only at h ⊢
       split at h
       ·rename_i hc
        obtain ⟨ls, h1, rfl⟩ := Option.map_eq_some_iff.1 h
        have hall := (mapM_all _ _).1 ⟨ls, h1⟩
        obtain ⟨ls', h2⟩ := (mapM_all (fun f : Field => P.keyLits d f.type ((cs'.drop f.offset).take (P.cellsOf f.type))) fs.toList).2 fun f hf => by
         obtain ⟨y, hy⟩ := hall f hf
         exact keyLits_kp d f.type _ _ _ hy (hk.piece _ _)
        exact ⟨ls'.flatten, by rw [if_pos (by rw [hlen]; exact hc), h2]; rfl⟩
       ·cases h
     | _ => unfold Program.keyLits at h; rw [hu] at h; simp at h
theorem isU.kl {cs cs' : List Value} (h : isU cs) (hk : Kl cs cs') : isU cs' := by
 obtain ⟨h1, ⟨ls, h2⟩, h3⟩ := h
 exact ⟨hk.1.trans h1, keyLits_kp 6 44 cs cs' ls h2 hk, hk.one h3⟩
theorem isF.kl {cs cs' : List Value} (h : isF cs) (hk : Kl cs cs') : isF cs' := by
 obtain ⟨h1, ⟨ls, h2⟩, h3⟩ := h
 exact ⟨hk.1.trans h1, keyLits_kp 6 58 cs cs' ls h2 hk, hk.one h3⟩
structure Kd (lo : Nat) (W W' : World) : Prop where
 bel : RowKit.Below lo W W'
 cell : ∀ (a : Addr) (u : Value), W.cell? a = some u → ∃ u', W'.cell? a = some u' ∧ Kq u u'
 fr : ∀ a, W'.frozen? a = W.frozen? a
theorem Kd.refl (lo : Nat) (W : World) : Kd lo W W := ⟨Below.refl _ _, fun _ u h => ⟨u, h, Kq.refl u⟩, fun _ => rfl⟩
theorem Kd.set {lo : Nat} {W W' : World} (h : Kd lo W W') {b o : Nat} {u u' : Value} (hc : W'.cell? ⟨b, o, none⟩ = some u) (hp : Kq u u') (hb : lo ≤ b) : Kd lo W (W'.setCell ⟨b, o, none⟩ u') := by
 refine ⟨h.bel.setCell (p := ⟨b, o, none⟩) hb _, fun a v hv => ?_, fun a => by rw [World.frozen?_setCell]; exact h.fr a⟩
 obtain ⟨v', h1, h2⟩ := h.cell a v hv
 by_cases e : (⟨b, o, none⟩ : Addr) = a
 ·subst e
  rw [hc] at h1
  cases h1
  exact ⟨u', World.cell?_setCell_same _ _ _ hc, h2.trans hp⟩
 ·exact ⟨v', by rw [World.cell?_setCell_other _ _ _ _ e]; exact h1, h2⟩
theorem Kd.slice {lo : Nat} {W W' : World} (h : Kd lo W W') {p : Addr} {a : Option Addr} {n c : Nat} (hc : W.cell? p = some (.slice a n c)) : W'.cell? p = some (.slice a n c) := by
 obtain ⟨u, h1, h2⟩ := h.cell _ _ hc
 rw [h2.slice] at h1
 exact h1
theorem Kd.str {lo : Nat} {W W' : World} (h : Kd lo W W') {p : Addr} {s : Nm} (hc : W.cell? p = some (.string s)) : ∃ s' : Nm, W'.cell? p = some (.string s') ∧ (s.size ≤ maxLen → s'.size ≤ maxLen) := by
 obtain ⟨u, h1, h2⟩ := h.cell _ _ hc
 obtain ⟨s', rfl, hs⟩ := h2.str
 exact ⟨s', h1, hs⟩
theorem Kd.int {lo : Nat} {W W' : World} (h : Kd lo W W') {p : Addr} {n : Int} (hc : W.cell? p = some (.int .i64 n)) : ∃ n' : Int, W'.cell? p = some (.int .i64 n') := by
 obtain ⟨u, h1, h2⟩ := h.cell _ _ hc
 obtain ⟨n', rfl⟩ := h2.int
 exact ⟨n', h1⟩
theorem Kd.range {lo : Nat} {W W' : World} (h : Kd lo W W') {b o : Nat} {cs : List Value} (hr : W.rangeAt b o cs) : ∃ cs', W'.rangeAt b o cs' ∧ Kl cs cs' := by
 have each : ∀ j, j < cs.length → ∃ u', W'.cell? ⟨b, o + j, none⟩ = some u' ∧ ∀ u, cs[j]? = some u → Kq u u' := fun j hj => by
  obtain ⟨u', h1, h2⟩ := h.cell _ _ (hr j _ (List.getElem?_eq_getElem hj))
  exact ⟨u', h1, fun u hu => by rw [List.getElem?_eq_getElem hj] at hu; cases hu; exact h2⟩
 have : Inhabited Value := ⟨.bool false⟩
 obtain ⟨f, hf⟩ := Go.Deep.choose_lt each
 have get : ∀ j, j < cs.length → ((List.range cs.length).map f)[j]? = some (f j) := fun j hj => by
  rw [List.getElem?_map, List.getElem?_range hj]
  rfl
 refine ⟨(List.range cs.length).map f, fun j v hv => ?_, by simp, fun j u hu => ?_⟩
 ·have hj : j < cs.length := by have := (List.getElem?_eq_some_iff.1 hv).1; simpa using this
  rw [get j hj] at hv
  cases hv
  exact (hf j hj).1
 ·have hj := (List.getElem?_eq_some_iff.1 hu).1
  exact ⟨f j, get j hj, (hf j hj).2 u hu⟩
theorem Kd.strs {lo : Nat} {W W' : World} (h : Kd lo W W') {v : Value} {pl : List ByteArray} (hs : Strs W v pl) : ∃ pl', Strs W' v pl' ∧ pl'.length = pl.length ∧ ((∀ n ∈ pl, n.size ≤ maxLen) → ∀ n ∈ pl', n.size ≤ maxLen) := by
 obtain ⟨a, c, h1, h2, h3⟩ := hs
 have each : ∀ i, i < pl.length → ∃ s' : ByteArray, (∃ b o, a = some ⟨b, o, none⟩ ∧ b < W'.heap.size ∧ W'.cell? ⟨b, o + i, none⟩ = some (.string s')) ∧ ∀ (hi : i < pl.length), pl[i].size ≤ maxLen → s'.size ≤ maxLen := fun i hi => by
  obtain ⟨b, o, e1, e2, e3⟩ := h3 i hi
  obtain ⟨s', h4, h5⟩ := h.str e3
  exact ⟨s', ⟨b, o, e1, Nat.lt_of_lt_of_le e2 h.bel.size, h4⟩, fun _ hz => h5 hz⟩
 have : Inhabited ByteArray := ⟨.empty⟩
 obtain ⟨f, hf⟩ := Go.Deep.choose_lt each
 refine ⟨(List.range pl.length).map f, ⟨a, c, by simpa using h1, by simpa using h2, fun i hi => ?_⟩, by simp, fun hz n hn => ?_⟩
 ·have hi' : i < pl.length := by simpa using hi
  obtain ⟨b, o, e1, e2, e3⟩ := (hf i hi').1
  exact ⟨b, o, e1, e2, by rw [e3]; simp⟩
 ·obtain ⟨i, hi, rfl⟩ := List.mem_map.1 hn
  have hi' : i < pl.length := by simpa using hi
  exact (hf i hi').2 hi' (hz _ (List.getElem_mem hi'))
theorem Kd.ats {lo : Nat} {W W' : World} (h : Kd lo W W') {v : Value} {al : List At} (hs : Ats W v al) : ∃ al', Ats W' v al' ∧ al'.length = al.length ∧ ((∀ a ∈ al, a.n.size ≤ maxLen ∧ a.v.size ≤ maxLen) → ∀ a ∈ al', a.n.size ≤ maxLen ∧ a.v.size ≤ maxLen) := by
 obtain ⟨a, c, h1, h2, h3⟩ := hs
 have each : ∀ i, i < al.length → ∃ x : At, (∃ b o, a = some ⟨b, o, none⟩ ∧ b < W'.heap.size ∧ W'.cell? ⟨b, o + i * 3, none⟩ = some (.string x.n) ∧ W'.cell? ⟨b, o + i * 3 + 1, none⟩ = some (.int .i64 x.op) ∧ W'.cell? ⟨b, o + i * 3 + 2, none⟩ = some (.string x.v)) ∧ ∀ (hi : i < al.length), al[i].n.size ≤ maxLen ∧ al[i].v.size ≤ maxLen → x.n.size ≤ maxLen ∧ x.v.size ≤ maxLen := fun i hi => by
  obtain ⟨b, o, e1, e2, e3, e4, e5⟩ := h3 i hi
  obtain ⟨s, h4, h5⟩ := h.str e3
  obtain ⟨n, h6⟩ := h.int e4
  obtain ⟨t, h7, h8⟩ := h.str e5
  exact ⟨⟨s, n, t⟩, ⟨b, o, e1, Nat.lt_of_lt_of_le e2 h.bel.size, h4, h6, h7⟩, fun _ hz => ⟨h5 hz.1, h8 hz.2⟩⟩
 have : Inhabited At := ⟨⟨.empty, 0, .empty⟩⟩
 obtain ⟨f, hf⟩ := Go.Deep.choose_lt each
 refine ⟨(List.range al.length).map f, ⟨a, c, by simpa using h1, by simpa using h2, fun i hi => ?_⟩, by simp, fun hz x hx => ?_⟩
 ·have hi' : i < al.length := by simpa using hi
  obtain ⟨b, o, e1, e2, e3, e4, e5⟩ := (hf i hi').1
  exact ⟨b, o, e1, e2, by rw [e3]; simp, by rw [e4]; simp, by rw [e5]; simp⟩
 ·obtain ⟨i, hi, rfl⟩ := List.mem_map.1 hx
  have hi' : i < al.length := by simpa using hi
  exact (hf i hi').2 hi' (hz _ (List.getElem_mem hi'))
end
section
open Go.RowKit Go.Maps Go.Shelf
theorem Kd.cls {lo : Nat} {W W' : World} (h : Kd lo W W') {v : Value} {cl : List (List At)} (hs : Cls W v cl) : ∃ cl', Cls W' v cl' ∧ cl'.map List.length = cl.map List.length ∧ ((∀ al ∈ cl, ∀ a ∈ al, a.n.size ≤ maxLen ∧ a.v.size ≤ maxLen) → ∀ al ∈ cl', ∀ a ∈ al, a.n.size ≤ maxLen ∧ a.v.size ≤ maxLen) := by
 obtain ⟨a, c, h1, h2⟩ := hs
 have each : ∀ i, i < cl.length → ∃ al' : List At, ∀ (hi : i < cl.length), al'.length = cl[i].length ∧ ((∀ a ∈ cl[i], a.n.size ≤ maxLen ∧ a.v.size ≤ maxLen) → ∀ a ∈ al', a.n.size ≤ maxLen ∧ a.v.size ≤ maxLen) ∧ ∀ b o, a = some ⟨b, o, none⟩ → ∃ xa xc, W'.cell? ⟨b, o + i, none⟩ = some (.slice xa al'.length xc) ∧ Ats W' (.slice xa al'.length xc) al' := fun i hi => by
  obtain ⟨b, o, e1, e2, e3⟩ := h2 (by omega)
  obtain ⟨xa, xc, e4, e5⟩ := e3 i _ (List.getElem?_eq_getElem hi)
  obtain ⟨al', k1, k2, k3⟩ := h.ats e5
  refine ⟨al', fun _ => ⟨k2, k3, fun b' o' e => ?_⟩⟩
  rw [e1] at e
  cases e
  rw [k2]
  exact ⟨xa, xc, h.slice e4, k1⟩
 have : Inhabited (List At) := ⟨[]⟩
 obtain ⟨f, hf⟩ := Go.Deep.choose_lt each
 have get : ∀ j, j < cl.length → ((List.range cl.length).map f)[j]? = some (f j) := fun j hj => by
  rw [List.getElem?_map, List.getElem?_range hj]
  rfl
 refine ⟨(List.range cl.length).map f, ⟨a, c, by simpa using h1, fun h0 => ?_⟩, ?_, fun hz al hal => ?_⟩
 ·have h0' : 0 < cl.length := by simpa using h0
  obtain ⟨b, o, e1, e2, _⟩ := h2 h0'
  refine ⟨b, o, e1, Nat.lt_of_lt_of_le e2 h.bel.size, fun i al hi => ?_⟩
  have hi' : i < cl.length := by have := (List.getElem?_eq_some_iff.1 hi).1; simpa using this
  rw [get i hi'] at hi
  cases hi
  exact (hf i hi' hi').2.2 b o e1
 ·refine List.ext_getElem? fun i => ?_
  by_cases hi : i < cl.length
  ·rw [List.getElem?_map, get i hi, List.getElem?_map, List.getElem?_eq_getElem hi]
   show some _ = some _
   rw [(hf i hi hi).1]
  ·rw [List.getElem?_eq_none (by simp; omega), List.getElem?_eq_none (by simp; omega)]
 ·obtain ⟨i, hi, rfl⟩ := List.mem_map.1 hal
  have hi' : i < cl.length := by simpa using hi
  exact (hf i hi' hi').2.1 (hz _ (List.getElem_mem hi'))
theorem Kd.fls {lo : Nat} {W W' : World} (h : Kd lo W W') {v : Value} {fl : List (List Value)} (hs : Fls W v fl) : ∃ fl', Fls W' v fl' ∧ fl'.length = fl.length ∧ ((∀ x ∈ fl, ∃ s : Nm, x[0]? = some (Value.string s) ∧ s.size ≤ maxLen) → ∀ x ∈ fl', ∃ s : Nm, x[0]? = some (Value.string s) ∧ s.size ≤ maxLen) := by
 obtain ⟨a, c, h1, h2, h3⟩ := hs
 have each : ∀ i, i < fl.length → ∃ x : List Value, (isF x ∧ ∃ b o, a = some ⟨b, o, none⟩ ∧ b < W'.heap.size ∧ W'.rangeAt b (o + i * 34) x) ∧ ∀ (hi : i < fl.length), Kl fl[i] x := fun i hi => by
  obtain ⟨e0, b, o, e1, e2, e3⟩ := h3 i hi
  obtain ⟨x, k1, k2⟩ := h.range e3
  exact ⟨x, ⟨e0.kl k2, b, o, e1, Nat.lt_of_lt_of_le e2 h.bel.size, k1⟩, fun _ => k2⟩
 have : Inhabited (List Value) := ⟨[]⟩
 obtain ⟨f, hf⟩ := Go.Deep.choose_lt each
 refine ⟨(List.range fl.length).map f, ⟨a, c, by simpa using h1, by simpa using h2, fun i hi => ?_⟩, by simp, fun hz x hx => ?_⟩
 ·have hi' : i < fl.length := by simpa using hi
  have := (hf i hi').1
  simpa using this
 ·obtain ⟨i, hi, rfl⟩ := List.mem_map.1 hx
  have hi' : i < fl.length := by simpa using hi
  obtain ⟨s, hs, hs2⟩ := hz _ (List.getElem_mem hi')
  obtain ⟨u, k1, k2⟩ := ((hf i hi').2 hi').2 0 _ hs
  obtain ⟨s', rfl, k3⟩ := k2.str
  exact ⟨s', k1, k3 hs2⟩
theorem Kl.at_ {cs cs' : List Value} (h : Kl cs cs') {j : Nat} {u : Value} (hj : cs[j]? = some u) : ∃ u', cs'[j]? = some u' ∧ Kq u u' := h.2 j u hj
structure Shp (p p' : Pk) : Prop where
 nm : p.nm.size ≤ maxLen → p'.nm.size ≤ maxLen
 vr : p.vr.size ≤ maxLen → p'.vr.size ≤ maxLen
 pv : p'.pv.length = p.pv.length
 pz : (∀ n ∈ p.pv, n.size ≤ maxLen) → ∀ n ∈ p'.pv, n.size ≤ maxLen
 dp : p'.dp.map List.length = p.dp.map List.length
 dz : (∀ al ∈ p.dp, ∀ a ∈ al, a.n.size ≤ maxLen ∧ a.v.size ≤ maxLen) → ∀ al ∈ p'.dp, ∀ a ∈ al, a.n.size ≤ maxLen ∧ a.v.size ≤ maxLen
 pr : p'.pr.map List.length = p.pr.map List.length
 rz : (∀ al ∈ p.pr, ∀ a ∈ al, a.n.size ≤ maxLen ∧ a.v.size ≤ maxLen) → ∀ al ∈ p'.pr, ∀ a ∈ al, a.n.size ≤ maxLen ∧ a.v.size ≤ maxLen
 cf : p'.cf.length = p.cf.length
 cz : (∀ a ∈ p.cf, a.n.size ≤ maxLen ∧ a.v.size ≤ maxLen) → ∀ a ∈ p'.cf, a.n.size ≤ maxLen ∧ a.v.size ≤ maxLen
 fs : p'.fs.length = p.fs.length
 fz : (∀ x ∈ p.fs, ∃ s : Nm, x[0]? = some (Value.string s) ∧ s.size ≤ maxLen) → ∀ x ∈ p'.fs, ∃ s : Nm, x[0]? = some (Value.string s) ∧ s.size ≤ maxLen
 sm : isU p'.sm
theorem Kd.pk {lo : Nat} {W W' : World} (h : Kd lo W W') {b o : Nat} {cs : List Value} {p : Pk} {d r c v f : Value} (hr : W.rangeAt b o cs) (hc : PkC cs p d r c v f) (hl : PkL W p d r c v f) (hu : isU p.sm) : ∃ p', (∃ cs' d r c v f, W'.rangeAt b o cs' ∧ PkC cs' p' d r c v f ∧ PkL W' p' d r c v f) ∧ Shp p p' := by
 obtain ⟨cs', hr', hk⟩ := h.range hr
 obtain ⟨dp, d1, d2, d3⟩ := h.cls hl.dl
 obtain ⟨pr, r1, r2, r3⟩ := h.cls hl.rl
 obtain ⟨cf, c1, c2, c3⟩ := h.ats hl.cl
 obtain ⟨pv, v1, v2, v3⟩ := h.strs hl.vl
 obtain ⟨fs, f1, f2, f3⟩ := h.fls hl.fl
 have str : ∀ {j : Nat} {s : Nm}, cs[j]? = some (.string s) → ∃ s' : Nm, cs'[j]? = some (.string s') ∧ (s.size ≤ maxLen → s'.size ≤ maxLen) := fun hj => by
  obtain ⟨u, k1, k2⟩ := hk.at_ hj
  obtain ⟨s', rfl, k3⟩ := k2.str
  exact ⟨s', k1, k3⟩
 have slc : ∀ {j : Nat} {a : Option Addr} {n c : Nat}, cs[j]? = some (.slice a n c) → cs'[j]? = some (.slice a n c) := fun hj => by
  obtain ⟨u, k1, k2⟩ := hk.at_ hj
  rw [k2.slice] at k1
  exact k1
 obtain ⟨nm, n1, n2⟩ := str hc.c0
 obtain ⟨vr, w1, w2⟩ := str hc.c1
 obtain ⟨ar, a1, _⟩ := str hc.c8
 obtain ⟨sy, y1, _⟩ := str hc.c42
 obtain ⟨u2, b1, b2⟩ := hk.at_ hc.c2
 rw [b2.bool] at b1
 obtain ⟨u9, z1, z2⟩ := hk.at_ hc.c9
 obtain ⟨sz, rfl⟩ := z2.int
 have q3 : cs'[3]? = some d := by
  obtain ⟨a, n, e, _⟩ := hl.dl
  rw [e]
  exact slc (by rw [← e]; exact hc.c3)
 have q4 : cs'[4]? = some r := by
  obtain ⟨a, n, e, _⟩ := hl.rl
  rw [e]
  exact slc (by rw [← e]; exact hc.c4)
 have q5 : cs'[5]? = some c := by
  obtain ⟨a, n, e, _⟩ := hl.cl
  rw [e]
  exact slc (by rw [← e]; exact hc.c5)
 have q6 : cs'[6]? = some v := by
  obtain ⟨a, n, e, _⟩ := hl.vl
  rw [e]
  exact slc (by rw [← e]; exact hc.c6)
 have q7 : cs'[7]? = some f := by
  obtain ⟨a, n, e, _⟩ := hl.fl
  rw [e]
  exact slc (by rw [← e]; exact hc.c7)
 have hsm : p.sm = (cs.drop 10).take 32 := by
  refine List.ext_getElem? fun j => ?_
  by_cases hj : j < 32
  ·rw [List.getElem?_take_of_lt hj, List.getElem?_drop]
   have hj2 : j < p.sm.length := by rw [hu.1]; exact hj
   rw [hc.cs0 j _ (List.getElem?_eq_getElem hj2), List.getElem?_eq_getElem hj2]
  ·rw [List.getElem?_eq_none (by rw [hu.1]; omega), List.getElem?_eq_none (by simp only [List.length_take]; omega)]
 have hku : Kl p.sm ((cs'.drop 10).take 32) := by rw [hsm]; exact hk.piece 10 32
 refine ⟨⟨nm, vr, p.es, dp, pr, cf, pv, fs, ar, sz, (cs'.drop 10).take 32, sy⟩, ⟨cs', d, r, c, v, f, hr', ⟨hk.1.trans hc.len, hk.one hc.one, n1, w1, b1, q3, q4, q5, q6, q7, a1, z1, fun j x hj => ?_, y1⟩, ⟨d1, r1, c1, v1, f1⟩⟩, ⟨n2, w2, v2, v3, d2, d3, r2, r3, c2, c3, f2, f3, hu.kl hku⟩⟩
 have hj2 : ((cs'.drop 10).take 32)[j]? = some x := hj
 have hj' : j < 32 := by
  have := (List.getElem?_eq_some_iff.1 hj2).1
  simp only [List.length_take] at this
  omega
 rw [List.getElem?_take_of_lt hj', List.getElem?_drop] at hj2
 exact hj2
theorem Kd.pkl {lo : Nat} {W W' : World} (h : Kd lo W W') {v : Value} {ps : List Pk} (hs : Pkl W v ps) (hu : ∀ p ∈ ps, isU p.sm) : ∃ ps', Pkl W' v ps' ∧ ps'.length = ps.length ∧ ∀ (i : Nat) (p p' : Pk), ps[i]? = some p → ps'[i]? = some p' → Shp p p' := by
 obtain ⟨a, c, h1, h2⟩ := hs
 have each : ∀ i, i < ps.length → ∃ p' : Pk, ∀ (hi : i < ps.length), Shp ps[i] p' ∧ ∀ b o, a = some ⟨b, o, none⟩ → ∃ cs' d r c v f, W'.rangeAt b (o + i * 43) cs' ∧ PkC cs' p' d r c v f ∧ PkL W' p' d r c v f := fun i hi => by
  obtain ⟨b, o, e1, e2, e3⟩ := h2 (by omega)
  obtain ⟨cs, d, r, c, v, f, k1, k2, k3⟩ := e3 i _ (List.getElem?_eq_getElem hi)
  obtain ⟨p', k4, k5⟩ := h.pk k1 k2 k3 (hu _ (List.getElem_mem hi))
  refine ⟨p', fun _ => ⟨k5, fun b' o' e => ?_⟩⟩
  rw [e1] at e
  cases e
  exact k4
 have : Inhabited Pk := ⟨⟨.empty, .empty, false, [], [], [], [], [], .empty, 0, [], .empty⟩⟩
 obtain ⟨f, hf⟩ := Go.Deep.choose_lt each
 have get : ∀ j, j < ps.length → ((List.range ps.length).map f)[j]? = some (f j) := fun j hj => by
  rw [List.getElem?_map, List.getElem?_range hj]
  rfl
 refine ⟨(List.range ps.length).map f, ⟨a, c, by simpa using h1, fun h0 => ?_⟩, by simp, fun i p p' hp hp' => ?_⟩
 ·have h0' : 0 < ps.length := by simpa using h0
  obtain ⟨b, o, e1, e2, _⟩ := h2 h0'
  refine ⟨b, o, e1, Nat.lt_of_lt_of_le e2 h.bel.size, fun i p hi => ?_⟩
  have hi' : i < ps.length := by have := (List.getElem?_eq_some_iff.1 hi).1; simpa using this
  rw [get i hi'] at hi
  cases hi
  exact (hf i hi' hi').2 b o e1
 ·have hi := (List.getElem?_eq_some_iff.1 hp).1
  rw [get i hi] at hp'
  cases hp'
  rw [List.getElem?_eq_getElem hi] at hp
  cases hp
  exact (hf i hi hi).1
theorem sh_map {ps ps' : List Pk} (hl : ps'.length = ps.length) (hs : ∀ (i : Nat) (p p' : Pk), ps[i]? = some p → ps'[i]? = some p' → Shp p p') {α : Type} (g : Pk → α) (hg : ∀ p p', Shp p p' → g p' = g p) : ps'.map g = ps.map g := by
 refine List.ext_getElem? fun i => ?_
 by_cases hi : i < ps.length
 ·have h1 := List.getElem?_eq_getElem hi
  have h2 : ps'[i]? = some ps'[i] := List.getElem?_eq_getElem (by omega)
  rw [List.getElem?_map, List.getElem?_map, h1, h2]
  show some _ = some _
  rw [hg _ _ (hs i _ _ h1 h2)]
 ·rw [List.getElem?_eq_none (by simp; omega), List.getElem?_eq_none (by simp; omega)]
theorem sh_mem {ps ps' : List Pk} (hl : ps'.length = ps.length) (hs : ∀ (i : Nat) (p p' : Pk), ps[i]? = some p → ps'[i]? = some p' → Shp p p') {p' : Pk} (hp : p' ∈ ps') : ∃ p ∈ ps, Shp p p' := by
 obtain ⟨i, hi, rfl⟩ := List.mem_iff_getElem.1 hp
 have h1 : ps[i]? = some ps[i] := List.getElem?_eq_getElem (by omega)
 exact ⟨ps[i], List.getElem_mem _, hs i _ _ h1 (List.getElem?_eq_getElem hi)⟩
theorem len_map {α : Type} {a b : List (List α)} (h : a.map List.length = b.map List.length) : a.length = b.length := by
 have := congrArg List.length h
 simpa using this
theorem mem_map {a b : List (List At)} {n : Nat} (h : a.map List.length = b.map List.length) (hb : ∀ al ∈ b, al.length ≤ n) : ∀ al ∈ a, al.length ≤ n := fun al hal => by
 have : al.length ∈ a.map List.length := List.mem_map.2 ⟨al, hal, rfl⟩
 rw [h] at this
 obtain ⟨x, hx, e⟩ := List.mem_map.1 this
 rw [← e]
 exact hb x hx
theorem clN_map {a b : List (List At)} (h : a.map List.length = b.map List.length) : (clN a).length = (clN b).length := by
 have key : ∀ l : List (List At), (clN l).length = (l.map List.length).sum := fun l => by
  unfold clN
  rw [List.length_flatten, List.map_map]
  congr 1
  exact List.map_congr_left fun x _ => by simp
 rw [key, key, h]
theorem SmP.sh {ps ps' : List Pk} (sm : SmP ps) (hl : ps'.length = ps.length) (hs : ∀ (i : Nat) (p p' : Pk), ps[i]? = some p → ps'[i]? = some p' → Shp p p') : SmP ps' := by
 have M : ∀ p' ∈ ps', ∃ p ∈ ps, Shp p p' := fun p' hp => sh_mem hl hs hp
 refine ⟨by rw [hl]; exact sm.l, ?_, ?_, ?_, ?_, ?_, fun p' hp => ?_, fun p' hp al ha => ?_, fun p' hp al ha => ?_, fun p' hp => ?_, fun p' hp => ?_⟩
 ·rw [sh_map hl hs _ fun p p' h => h.pv]; exact sm.t
 ·rw [sh_map hl hs _ fun p p' h => len_map h.dp]; exact sm.sd
 ·rw [sh_map hl hs _ fun p p' h => len_map h.pr]; exact sm.sr
 ·rw [sh_map hl hs _ fun p p' h => h.cf]; exact sm.sc
 ·rw [sh_map hl hs _ fun p p' h => h.fs]; exact sm.sf
 ·obtain ⟨p, hm, s⟩ := M p' hp
  exact ⟨s.nm (sm.z p hm).1, s.vr (sm.z p hm).2.1, s.pz (sm.z p hm).2.2⟩
 ·obtain ⟨p, hm, s⟩ := M p' hp
  exact ⟨mem_map s.dp (fun al h => (sm.d p hm al h).1) al ha, s.dz (fun al h => (sm.d p hm al h).2) al ha⟩
 ·obtain ⟨p, hm, s⟩ := M p' hp
  exact ⟨mem_map s.pr (fun al h => (sm.r p hm al h).1) al ha, s.rz (fun al h => (sm.r p hm al h).2) al ha⟩
 ·obtain ⟨p, hm, s⟩ := M p' hp
  exact s.cz (sm.c p hm)
 ·obtain ⟨p, hm, s⟩ := M p' hp
  exact s.fz (sm.f p hm)
theorem akK_sh {ps ps' : List Pk} (hl : ps'.length = ps.length) (hs : ∀ (i : Nat) (p p' : Pk), ps[i]? = some p → ps'[i]? = some p' → Shp p p') : akK ps' ps'.length = akK ps ps.length := by
 unfold akK
 rw [List.take_length, List.take_length, sh_map hl hs _ fun p p' h => ?_]
 unfold akN
 rw [List.length_append, List.length_append, clN_map h.dp, clN_map h.pr]
theorem PkZ.sh {p p' : Pk} (z : PkZ p) (s : Shp p p') : PkZ p' :=
 ⟨by rw [len_map s.dp]; exact z.dl, mem_map s.dp z.dls, by rw [len_map s.pr]; exact z.rl, mem_map s.pr z.rls, by rw [s.cf]; exact z.cl, by rw [s.pv]; exact z.vl, by rw [s.fs]; exact z.fl, s.sm⟩
end
section
open Go.RowKit Go.Maps Go.Shelf
theorem kp_str {s : Nm} (t : Nm) (h : t.size ≤ maxLen) : Kq (.string s) (.string t) := .inr (.inl ⟨s, t, rfl, rfl, h⟩)
theorem kp_zero {n : Int} : Kq (.int .i64 n) (.int .i64 0) := .inr (.inr ⟨n, 0, rfl, rfl, by decide⟩)
section
variable {w wr : World} {L i : Nat} {p : Pk} {cs : List Value} {Md Mr C S F : Nat}
theorem Kd.heads (k : Kd L w wr) (hr : w.rangeAt L (i * 43) cs) (hl : LPk w L p cs Md Mr C S F) : wr.cell? ⟨L, i * 43 + 3, none⟩ = some (.slice (some ⟨Md, 0, none⟩) p.dp.length (p.dp.length + 1)) ∧ wr.cell? ⟨L, i * 43 + 6, none⟩ = some (.slice (some ⟨S, 0, none⟩) p.pv.length (p.pv.length + 1)) ∧ wr.cell? ⟨L, i * 43 + 7, none⟩ = some (.slice (some ⟨F, 0, none⟩) p.fs.length (p.fs.length + 1)) :=
 ⟨k.slice (hr 3 _ hl.pc.c3), k.slice (hr 6 _ hl.pc.c6), k.slice (hr 7 _ hl.pc.c7)⟩
theorem Kd.wV (k : Kd L w wr) (hr : w.rangeAt L (i * 43) cs) (hl : LPk w L p cs Md Mr C S F) (hf : ∀ j, w.frozen? ⟨L, j, none⟩ = false) : (∃ z, wr.cell? ⟨L, i * 43 + 1, none⟩ = some z) ∧ wr.frozen? ⟨L, i * 43 + 1, none⟩ = false ∧ Kd L w (wr.setCell ⟨L, i * 43 + 1, none⟩ (.string ⟨#[57]⟩)) := by
 obtain ⟨s, h1, _⟩ := k.str (hr 1 _ hl.pc.c1)
 exact ⟨⟨_, h1⟩, (k.fr _).trans (hf _), k.set h1 (kp_str _ (by decide)) (Nat.le_refl _)⟩
theorem Kd.wS (k : Kd L w wr) (hl : LPk w L p cs Md Mr C S F) {n : Nat} (hn : n < p.pv.length) : (∃ z, wr.cell? ⟨S, n, none⟩ = some z) ∧ wr.frozen? ⟨S, n, none⟩ = false ∧ Kd L w (wr.setCell ⟨S, n, none⟩ (.string ⟨#[122, 122]⟩)) := by
 obtain ⟨s, h1, _⟩ := k.str (hl.sl.elem n (.string p.pv[n]) (by
  rw [List.getElem?_append_left (by simpa using hn), List.getElem?_map, List.getElem?_eq_getElem hn]
  rfl))
 exact ⟨⟨_, h1⟩, (k.fr _).trans (hl.sl.fr _), k.set h1 (kp_str _ (by decide)) (Nat.le_of_lt hl.hS)⟩
theorem Kd.clause (hl : LPk w L p cs Md Mr C S F) {n : Nat} {al : List At} (ha : p.dp[n]? = some al) : ∃ D, L < D ∧ w.cell? ⟨Md, n, none⟩ = some (.slice (some ⟨D, 0, none⟩) al.length (al.length + 1)) ∧ Mk1 w D al := by
 obtain ⟨D, h1, h2, h3⟩ := hl.dl.row.row n al (List.getElem?_eq_some_iff.1 ha).1 ha
 have := hl.dl.row.lo
 exact ⟨D, by omega, h2, h3⟩
theorem Kd.wC (k : Kd L w wr) {D : Nat} {al : List At} (hD : L < D) (hm : Mk1 w D al) {n : Nat} (hn : n < al.length) : (∃ z, wr.cell? ⟨D, n * 3, none⟩ = some z) ∧ (∃ z, wr.cell? ⟨D, n * 3 + 1, none⟩ = some z) ∧ (∃ z, wr.cell? ⟨D, n * 3 + 2, none⟩ = some z) ∧ wr.frozen? ⟨D, n * 3, none⟩ = false ∧ wr.frozen? ⟨D, n * 3 + 1, none⟩ = false ∧ wr.frozen? ⟨D, n * 3 + 2, none⟩ = false ∧ Kd L w (((wr.setCell ⟨D, n * 3, none⟩ (.string ⟨#[122, 122]⟩)).setCell ⟨D, n * 3 + 1, none⟩ (.int .i64 0)).setCell ⟨D, n * 3 + 2, none⟩ (.string ⟨#[]⟩)) := by
 obtain ⟨e0, e1, e2⟩ := hm.elem n hn
 obtain ⟨s, h0, _⟩ := k.str e0
 obtain ⟨m, h1⟩ := k.int e1
 obtain ⟨t, h2, _⟩ := k.str e2
 have k1 := k.set h0 (kp_str ⟨#[122, 122]⟩ (by decide)) (Nat.le_of_lt hD)
 obtain ⟨m', h3⟩ := k1.int e1
 have k2 := k1.set h3 kp_zero (Nat.le_of_lt hD)
 obtain ⟨t', h4, _⟩ := k2.str e2
 exact ⟨⟨_, h0⟩, ⟨_, h1⟩, ⟨_, h2⟩, (k.fr _).trans (hm.fr _), (k.fr _).trans (hm.fr _), (k.fr _).trans (hm.fr _), k2.set h4 (kp_str ⟨#[]⟩ (by decide)) (Nat.le_of_lt hD)⟩
theorem Kd.wF (k : Kd L w wr) (hl : LPk w L p cs Md Mr C S F) (hf : ∀ x ∈ p.fs, ∃ s : Nm, x[0]? = some (Value.string s) ∧ s.size ≤ maxLen) {n : Nat} (hn : n < p.fs.length) : (∃ z, wr.cell? ⟨F, n * 34, none⟩ = some z) ∧ wr.frozen? ⟨F, n * 34, none⟩ = false ∧ Kd L w (wr.setCell ⟨F, n * 34, none⟩ (.string ⟨#[122, 122]⟩)) := by
 obtain ⟨s0, hs0, _⟩ := hf _ (List.getElem_mem hn)
 have hlen : p.fs.flatten.length = p.fs.length * 34 := flat_lenm 34 p.fs (fun x hx => (hl.ff x hx).1)
 have hg : (p.fs.flatten ++ [.string ⟨#[77, 65, 82, 75]⟩])[n * 34]? = some (.string s0) := by
  rw [List.getElem?_append_left (by rw [hlen]; omega), flat_get 34 (by omega) p.fs (fun x hx => (hl.ff x hx).1), show n * 34 / 34 = n by omega, show n * 34 % 34 = 0 by omega, List.getElem?_eq_getElem hn]
  exact hs0
 obtain ⟨s, h1, _⟩ := k.str (hl.fl.elem _ _ hg)
 exact ⟨⟨_, h1⟩, (k.fr _).trans (hl.fl.fr _), k.set h1 (kp_str _ (by decide)) (Nat.le_of_lt hl.hF)⟩
end
end
end Go.Proofs.YtdkpglmdncjnbaaGreatDoor
