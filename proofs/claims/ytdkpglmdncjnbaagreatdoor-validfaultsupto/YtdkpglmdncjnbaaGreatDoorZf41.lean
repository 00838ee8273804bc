import Derived.Test.YtdkpglmdncjnbaaGreatDoorZf40
import Derived.Test.YtdkpglmdncjnbaaGreatDoorZf39
namespace Go.Proofs.YtdkpglmdncjnbaaGreatDoor
section
open Go.RowKit
def pdOf (p : Pk) (cs : List Value) (v : Value) : Pd := ⟨cs, p.nm, p.vr, v, p.pv⟩
theorem pd_ok {w : World} {p : Pk} {cs : List Value} {d r c v f : Value} (h : PkC cs p d r c v f) (l : PkL w p d r c v f) (hv : p.vr.size ≤ maxLen) : PdOk w (pdOf p cs v) :=
 ⟨⟨h.len, h.c0, h.c1, h.c6⟩, l.vl, hv⟩
def same3 (a b : Pd) : Prop := a.nm = b.nm ∧ a.vr = b.vr ∧ a.pl = b.pl
theorem pks_of {w : World} {v : Value} {ps : List Pk} (h : Pkl w v ps) (hv : ∀ p ∈ ps, p.vr.size ≤ maxLen) : ∃ xs : List Pd, Pks w v xs ∧ xs.length = ps.length ∧ ∀ (i : Nat) (x : Pd) (p : Pk), xs[i]? = some x → ps[i]? = some p → x.nm = p.nm ∧ x.vr = p.vr ∧ x.pl = p.pv := by
 obtain ⟨a, c, rfl, h2⟩ := h
 by_cases h0 : 0 < ps.length
 ·obtain ⟨b, o, rfl, hb, hc⟩ := h2 h0
  have step : ∀ n, n ≤ ps.length → ∃ xs : List Pd, xs.length = n ∧ ∀ (i : Nat) (x : Pd) (p : Pk), xs[i]? = some x → ps[i]? = some p → (w.rangeAt b (o + i * 43) x.cs ∧ PdOk w x) ∧ x.nm = p.nm ∧ x.vr = p.vr ∧ x.pl = p.pv := by
   intro n
   induction n with
   | zero => intro _; exact ⟨[], rfl, fun i x p hx => by simp at hx⟩
   | succ n ih =>
     intro hn
     obtain ⟨xs, hl, hx⟩ := ih (by omega)
     obtain ⟨p, hp⟩ : ∃ p, ps[n]? = some p := ⟨_, List.getElem?_eq_getElem (by omega)⟩
     obtain ⟨cs, d, r, c, v, f, k1, k2, k3⟩ := hc n p hp
     refine ⟨xs ++ [pdOf p cs v], by simp [hl], fun i x q hi hq => ?_⟩
     by_cases e : i < n
     ·rw [List.getElem?_append_left (by omega)] at hi
      exact hx i x q hi hq
     ·have hi' := (List.getElem?_eq_some_iff.1 hi).1
      rw [List.length_append, hl, List.length_singleton] at hi'
      obtain rfl : i = n := by omega
      rw [List.getElem?_append_right (by omega), hl, Nat.sub_self] at hi
      simp at hi
      subst hi
      rw [hp] at hq; cases hq
      exact ⟨⟨k1, pd_ok k2 k3 (hv p (List.mem_of_getElem? hp))⟩, rfl, rfl, rfl⟩
  obtain ⟨xs, hl, hx⟩ := step ps.length (Nat.le_refl _)
  refine ⟨xs, ⟨_, c, by rw [hl], fun _ => ⟨b, o, rfl, hb, fun i x hi => ?_⟩⟩, hl, fun i x p hi hp => (hx i x p hi hp).2⟩
  obtain ⟨p, hp⟩ : ∃ p, ps[i]? = some p := ⟨_, List.getElem?_eq_getElem (by rw [← hl]; exact (List.getElem?_eq_some_iff.1 hi).1)⟩
  exact (hx i x p hi hp).1
 ·have e : ps = [] := by cases ps with
   | nil => rfl
   | cons p ps => simp at h0
  subst e
  exact ⟨[], ⟨a, c, rfl, fun h => absurd h (by simp)⟩, rfl, fun i x p hx => by simp at hx⟩
end
section
open Go.RowKit Go.Maps Go.Shelf
theorem infoKz : (Tryz.prog.info? 29).map (fun i => (i.zero, i.size, i.bytes)) = some (some (.agg #[.string ⟨#[]⟩, .string ⟨#[]⟩]), 2, 32) := by kernel_rfl
structure Kk (W : World) (B : Nat) (ws : List (Nm × Nm)) : Prop where
 el : ∀ (i : Nat) (x : Nm × Nm), ws[i]? = some x → W.rangeAt B (i * 2) (encK x)
 mrk : W.cell? ⟨B, ws.length * 2, none⟩ = some (.string ⟨#[77, 65, 82, 75]⟩)
 fr : ∀ j, W.frozen? ⟨B, j, none⟩ = false
 lt : B < W.heap.size
theorem Kk.same {W W2 : World} {B : Nat} {ws : List (Nm × Nm)} (h : Kk W B ws) (hb : W2.heap[B]? = W.heap[B]?) : Kk W2 B ws := by
 have hc : ∀ j, W2.cell? ⟨B, j, none⟩ = W.cell? ⟨B, j, none⟩ := fun j => World.cell?_of_block hb
 have hf : ∀ j, W2.frozen? ⟨B, j, none⟩ = W.frozen? ⟨B, j, none⟩ := fun j => World.frozen?_of_block hb
 refine ⟨fun i x hx j v hv => (hc _).trans (h.el i x hx j v hv), (hc _).trans h.mrk, fun j => (hf j).trans (h.fr j), ?_⟩
 by_cases q : B < W2.heap.size
 ·exact q
 ·have h1 : W2.heap[B]? = none := Array.getElem?_eq_none (by omega)
  rw [h1] at hb
  have h2 := Array.getElem?_eq_none_iff.1 hb.symm
  have := h.lt
  omega
theorem Kk.later {W W2 : World} {B : Nat} {ws : List (Nm × Nm)} (h : Kk W B ws) (hb : RowKit.Below W.heap.size W W2) : Kk W2 B ws := h.same (hb.block B h.lt)
theorem Kk.cells {W : World} {B : Nat} {ws : List (Nm × Nm)} (h : Kk W B ws) {i : Nat} {x : Nm × Nm} (hx : ws[i]? = some x) : W.cell? ⟨B, i * 2, none⟩ = some (.string x.1) ∧ W.cell? ⟨B, i * 2 + 1, none⟩ = some (.string x.2) :=
 ⟨h.el i x hx 0 _ rfl, h.el i x hx 1 _ rfl⟩
end
section
open Go.RowKit Go.Maps Go.Shelf
theorem owns_form {W : World} {base e size n : Nat} {v : Value} {xs : List Value} (h : W.ownsRow base e size v n xs) : ∃ a c, v = .slice a n c := by
 obtain ⟨f, rfl, hn⟩ := slice_hd h
 exact ⟨f.a, f.c, by rw [← hn]; rfl⟩
theorem row_low {W W2 : World} {base e size n : Nat} {v : Value} {xs : List Value} (h : W.ownsRow base e size v n xs) (hb : RowKit.Below W.heap.size W W2) : W2.ownsRow base e size v n xs := own_same h fun b e => hb.block b (World.ownsRow.lt h b e).2
structure Ra (w wr : World) (v : Value) (n : Nat) : Prop where
 row : ∃ xs, wr.ownsRow 0 3 1 v n xs
 fx : Fx (fun g => v.ownBlock = some g) w wr
theorem Ra.set {w wr : World} {a : Option Addr} {n c i : Nat} (h : Ra w wr (.slice a n c) n) (hi : i < n) (u : Value) : ∃ g, a = some ⟨g, 0, none⟩ ∧ (∃ z, wr.cell? ⟨g, i, none⟩ = some z) ∧ wr.frozen? ⟨g, i, none⟩ = false ∧ Ra w (wr.setCell ⟨g, i, none⟩ u) (.slice a n c) n := by
 obtain ⟨xs, hr⟩ := h.row
 rcases hr.2 with ⟨_, q⟩ | ⟨g, cap, cur, e, hg, hh, h1, h2, h3, h4⟩
 ·omega
 ·injection e with e _ ec
  subst e
  subst ec
  have hic : i < cur.size := by omega
  refine ⟨g, rfl, ⟨cur[i], ?_⟩, (cell_blk hh i).2, ⟨xs.set i u, by rw [List.length_set]; exact hr.1, .inr ⟨g, c, cur.setIfInBounds i u, rfl, hg, set_blk hh i u, h1, h2, by simpa using h3, ?_⟩⟩, h.fx.set (g := g) rfl i u⟩
  ·rw [(cell_blk hh i).1]; exact Array.getElem?_eq_getElem hic
  ·rw [Array.toList_setIfInBounds, List.take_set, h4]
structure Rk (w wr : World) (lo : Nat) (v : Value) (n : Nat) : Prop where
 row : ∃ xs, wr.ownsRow lo 29 2 v n xs
 fx : Fx (fun g => v.ownBlock = some g) w wr
theorem Rk.set {w wr : World} {a : Option Addr} {lo n c i : Nat} (h : Rk w wr lo (.slice a n c) n) (hi : i < n) (u1 u2 : Value) : ∃ g, a = some ⟨g, 0, none⟩ ∧ g < wr.heap.size ∧ (∃ z, wr.cell? ⟨g, i * 2, none⟩ = some z) ∧ (∃ z, wr.cell? ⟨g, i * 2 + 1, none⟩ = some z) ∧ wr.frozen? ⟨g, i * 2, none⟩ = false ∧ wr.frozen? ⟨g, i * 2 + 1, none⟩ = false ∧ Rk w ((wr.setCell ⟨g, i * 2, none⟩ u1).setCell ⟨g, i * 2 + 1, none⟩ u2) lo (.slice a n c) n := by
 obtain ⟨xs, hr⟩ := h.row
 rcases hr.2 with ⟨_, q⟩ | ⟨g, cap, cur, e, hg, hh, h1, h2, h3, h4⟩
 ·omega
 ·injection e with e _ ec
  subst e
  subst ec
  have hic : i * 2 < cur.size := by omega
  have hic1 : i * 2 + 1 < cur.size := by omega
  refine ⟨g, rfl, blk_lt hh, ⟨cur[i * 2], ?_⟩, ⟨cur[i * 2 + 1], ?_⟩, (cell_blk hh _).2, (cell_blk hh _).2, ⟨(xs.set (i * 2) u1).set (i * 2 + 1) u2, by rw [List.length_set, List.length_set]; exact hr.1, .inr ⟨g, c, (cur.setIfInBounds (i * 2) u1).setIfInBounds (i * 2 + 1) u2, rfl, hg, set_blk (set_blk hh _ u1) _ u2, h1, h2, by simpa using h3, ?_⟩⟩, (h.fx.set (g := g) rfl _ u1).set (g := g) rfl _ u2⟩
  ·rw [(cell_blk hh _).1]; exact Array.getElem?_eq_getElem hic
  ·rw [(cell_blk hh _).1]; exact Array.getElem?_eq_getElem hic1
  ·rw [Array.toList_setIfInBounds, Array.toList_setIfInBounds, List.take_set, List.take_set, h4]
theorem Rk.later {w wr w2 : World} {lo n : Nat} {v : Value} (h : Rk w wr lo v n) (hb : RowKit.Below wr.heap.size wr w2) : Rk w w2 lo v n := by
 obtain ⟨xs, hr⟩ := h.row
 exact ⟨⟨xs, own_same hr fun b e => hb.block b (World.ownsRow.lt hr b e).2⟩, h.fx.trans (Fx.of hb)⟩
structure Gk (w wr : World) (lo : Nat) (v s : Value) (n : Nat) : Prop where
 row : ∃ xs, wr.ownsRow lo 29 2 s n xs
 own : ∀ g, s.ownBlock = some g → v.ownBlock = some g ∨ w.heap.size ≤ g
 fx : Fx (fun g => v.ownBlock = some g) w wr
theorem Gk.grow {w wr w9 : World} {lo : Nat} {v s v' : Value} {n : Nat} {xs : List Value} {o : Obj} (h : Gk w wr lo v s n) (hown : w9.ownsRow lo 29 2 v' (n + 1) xs) (hg : (wr.alloc o).grownBy w9 s.ownBlock) (hat : v'.ownBlock = s.ownBlock ∨ v'.ownBlock = some (wr.alloc o).heap.size) : Gk w w9 lo v v' (n + 1) := by
 have z := h.fx.size
 have za : (wr.alloc o).heap.size = wr.heap.size + 1 := World.size_alloc _ _
 refine ⟨⟨xs, hown⟩, fun g e => ?_, h.fx.bel.trans ⟨hg.os.trans rfl, hg.tape.trans rfl, hg.output.trans rfl, by have := hg.size; omega, fun k hk => absurd hk (Nat.not_lt_zero _)⟩, fun b hb hn => ?_⟩
 ·rcases hat with q | q
  ·exact h.own g (by rw [← q]; exact e)
  ·rw [q] at e
   cases e
   exact .inr (by omega)
 ·refine (hg.block b (by omega) fun e => ?_).trans ((Below.heap_alloc _ _ _ (by omega)).trans (h.fx.blk b hb hn))
  rcases h.own b e.symm with q | q
  ·exact hn q
  ·omega
end
section
open Go.RowKit Go.Maps Go.Sort Go.Shelf
theorem neqFt (a : Int) (b c : Nm) (d : Int) (e f : Nm) (w : World) : (binOp .neq 31 (.agg #[.int .i64 a, .string b, .string c, .int .i64 d, .string e, .string f]) (.agg #[.int .i64 a, .string b, .string c, .int .i64 d, .string e, .string f])).run Tryz.prog w = .ok (.bool false) w := by
 go_simp
theorem ftC_get {l : List Ft} {i : Nat} {f : Ft} (h : l[i]? = some f) {j : Nat} (hj : j < 6) : (ftC l)[i * 6 + j]? = f.cs[j]? := by
 have := flat_get 6 (by omega) (l.map Ft.cs) (fun r hr => by obtain ⟨x, _, rfl⟩ := List.mem_map.1 hr; rfl) (i * 6 + j)
 rw [← List.flatMap_def] at this
 unfold ftC
 rw [this, show (i * 6 + j) / 6 = i by omega, show (i * 6 + j) % 6 = j by omega, List.getElem?_map, h]
 rfl
theorem row_ft {w : World} {lo N c : Nat} {a : Option Addr} {l : List Ft} (h : w.ownsRow lo 31 6 (.slice a N c) N (ftC l)) {i : Nat} {f : Ft} (hf : l[i]? = some f) :
 ∃ g, a = some ⟨g, 0, none⟩ ∧ g < w.heap.size ∧ w.cell? ⟨g, i * 6, none⟩ = some (.int .i64 f.kd) ∧ w.cell? ⟨g, i * 6 + 1, none⟩ = some (.string f.wn) ∧ w.cell? ⟨g, i * 6 + 2, none⟩ = some (.string f.wv) ∧ w.cell? ⟨g, i * 6 + 3, none⟩ = some (.int .i64 f.ix) ∧ w.cell? ⟨g, i * 6 + 4, none⟩ = some (.string f.on) ∧ w.cell? ⟨g, i * 6 + 5, none⟩ = some (.string f.ov) := by
 have hil := (List.getElem?_eq_some_iff.1 hf).1
 have hN : l.length = N := by have := h.1; rw [ftC_len] at this; omega
 rcases h.2 with ⟨q, _⟩ | ⟨g, cap, cur, q, hg, _⟩
 ·injection q with _ q _
  omega
 ·injection q with q1 _ q3
  subst q1
  subst q3
  have hc : ∀ j, j < 6 → w.cell? ⟨g, i * 6 + j, none⟩ = f.cs[j]? := fun j hj => (h.cellAt (i * 6 + j) (by omega)).trans (ftC_get hf hj)
  exact ⟨g, rfl, (World.ownsRow.lt h g rfl).2, hc 0 (by omega), hc 1 (by omega), hc 2 (by omega), hc 3 (by omega), hc 4 (by omega), hc 5 (by omega)⟩
set_option maxRecDepth 100000 in
set_option maxHeartbeats 4000000 in
theorem sameFaults_yes {w : World} {lo1 lo2 N c1 c2 : Nat} {a1 a2 : Option Addr} {l : List Ft} (h1 : w.ownsRow lo1 31 6 (.slice a1 N c1) N (ftC l)) (h2 : w.ownsRow lo2 31 6 (.slice a2 N c2) N (ftC l)) (hl : N ≤ 1099511627776) :
 Calls Tryz.prog 10 #[.slice a1 N c1, .slice a2 N c2] w fun e w' => e = .returned (.bool true) ∧ RowKit.Below w.heap.size w w' := by
 have hN : l.length = N := by have := h1.1; rw [ftC_len] at this; omega
 have H1 := hide h1
 have H2 := hide h2
 have HN := hide hN
 clear h1 h2 hN
 go_enter Tryz.func10, Tryz.ntmps10
 go_wp2_with fail
 go_loopg [5] N (fun gq iv wr => ∃ i : Nat, iv = .int .i64 i ∧ i ≤ N ∧ N - i ≤ gq ∧ Hid (RowKit.Below w.heap.size w wr))
 case atStart => exact ⟨0, by go_num, by omega, by omega, hide (Below.refl _ _)⟩
 case round =>
  obtain ⟨i, rfl, hi, hg, HB⟩ := hrel
  by_cases hlt : i < N
  ·have hin : (i : Int) < (N : Int) := by omega
   have hik : i < l.length := by have := unhide HN; omega
   obtain ⟨g, rfl, _, p0, p1, p2, p3, p4, p5⟩ := row_ft (row_low (unhide H1) (unhide HB)) (List.getElem?_eq_getElem hik)
   obtain ⟨g2, rfl, _, q0, q1, q2, q3, q4, q5⟩ := row_ft (row_low (unhide H2) (unhide HB)) (List.getElem?_eq_getElem hik)
   generalize l[i] = x at *
   obtain ⟨x0, x1, x2, x3, x4, x5⟩ := x
   simp only at p0 p1 p2 p3 p4 p5 q0 q1 q2 q3 q4 q5
   have ce := neqFt x0 x1 x2 x3 x4 x5
   have HBd := hide (fun k => bl_t (unhide HB) (bl_drewN wr k))
   go_wp2_with fail
   go_quiet (fail)
   go_wp2
   go_roundg (N - (i + 1))
   case measure => omega
   case rel => exact ⟨i + 1, by go_num, by omega, by omega, hide (unhide HBd _)⟩
  ·go_wp2_with fail
   go_ret
   exact ⟨rfl, unhide HB⟩
end
section
open Go.RowKit
structure PRw (base : Nat) (W : World) (L : Nat) (ps : List Pk) (n : Nat) (Md Mr : Nat → Nat) : Prop where
 pr : PRow base W L ps n
 tag : ∀ i p, i < n → ps[i]? = some p → ∃ cs C S F, W.rangeAt L (i * 43) cs ∧ LPk W L p cs (Md i) (Mr i) C S F
 ord : ∀ i, i < n → Md i < Mr i ∧ Mr i < W.heap.size ∧ ∀ j, j < i → Mr j < Md i
theorem PRw.start {base : Nat} {W : World} {L : Nat} {ps : List Pk} (h : PRow base W L ps 0) : ∃ Md Mr, PRw base W L ps 0 Md Mr :=
 ⟨fun _ => 0, fun _ => 0, h, fun _ _ hi _ => absurd hi (Nat.not_lt_zero _), fun _ hi => absurd hi (Nat.not_lt_zero _)⟩
theorem PRw.later {base : Nat} {W W' : World} {L n : Nat} {ps : List Pk} {Md Mr : Nat → Nat} (h : PRw base W L ps n Md Mr) (hb : Below W.heap.size W W') : PRw base W' L ps n Md Mr := by
 refine ⟨h.pr.later hb, fun i p hi hp => ?_, fun i hi => ⟨(h.ord i hi).1, Nat.lt_of_lt_of_le (h.ord i hi).2.1 hb.size, (h.ord i hi).2.2⟩⟩
 obtain ⟨cs, C, S, F, h1, h2⟩ := h.tag i p hi hp
 exact ⟨cs, C, S, F, rangeAt_later h1 h.pr.lt hb, h2.later hb⟩
theorem PRw.put {base : Nat} {W : World} {L n : Nat} {ps : List Pk} {p : Pk} {cs : List Value} {d r C S F : Nat} {Md Mr : Nat → Nat} (h : PRw base W L ps n Md Mr) (hp : ps[n]? = some p) (hk : LPk W L p cs d r C S F) (h1 : ∀ j, j < n → Mr j < d) (h2 : d < r) (h3 : r < W.heap.size) :
 PRw base (W.setCells L (n * 43) cs) L ps (n + 1) (fun i => if i = n then d else Md i) (fun i => if i = n then r else Mr i) := by
 have hn : n < ps.length := (List.getElem?_eq_some_iff.1 hp).1
 refine ⟨h.pr.put hp hk, fun i q hi hq => ?_, fun i hi => ?_⟩
 ·by_cases e : i = n
  ·subst e
   rw [hp] at hq; cases hq
   simp only [if_true]
   exact ⟨cs, C, S, F, World.rangeAt_setCells_same _ _ _ _ (by rw [hk.pc.len]; exact h.pr.there i (by omega)), hk.set _ _⟩
  ·obtain ⟨cs', C', S', F', g1, g2⟩ := h.tag i q (by omega) hq
   rw [if_neg e, if_neg e]
   exact ⟨cs', C', S', F', World.rangeAt_setCells_apart g1 _ _ _ (.inr (.inl (by rw [g2.pc.len]; omega))), g2.set _ _⟩
 ·rw [size_setCells]
  by_cases e : i = n
  ·subst e
   simp only [if_true]
   exact ⟨h2, h3, fun j hj => by rw [if_neg (by omega)]; exact h1 j hj⟩
  ·rw [if_neg e, if_neg e]
   obtain ⟨g1, g2, g3⟩ := h.ord i (by omega)
   exact ⟨g1, g2, fun j hj => by rw [if_neg (by omega)]; exact g3 j hj⟩
theorem PRw.done {base : Nat} {W : World} {L : Nat} {ps : List Pk} {Md Mr : Nat → Nat} (h : PRw base W L ps ps.length Md Mr) (ms : List Value) (hm : ms.length = 43) : PRw base (W.setCells L (ps.length * 43) ms) L ps ps.length Md Mr := by
 refine ⟨h.pr.keep (Nat.le_refl _) _ _ (Nat.le_refl _), fun i p hi hp => ?_, fun i hi => by rw [size_setCells]; exact h.ord i hi⟩
 obtain ⟨cs, C, S, F, h1, h2⟩ := h.tag i p hi hp
 exact ⟨cs, C, S, F, World.rangeAt_setCells_apart h1 _ _ _ (.inr (.inl (by rw [h2.pc.len]; have := hm; omega))), h2.set _ _⟩
set_option maxRecDepth 100000 in
set_option maxHeartbeats 8000000 in
theorem lent_win (ps : List Pk) (v : Value) (w : World) (hl : ps.length ≤ 100000000000) (hz : ∀ p ∈ ps, PkZ p) (h1 : Pkl w v ps) :
 Calls Tryz.prog 7 #[v] w fun e w' => e = .returned (.slice (some ⟨w.heap.size, 0, none⟩) ps.length (ps.length + 1)) ∧ Below w.heap.size w w' ∧ Lps w.heap.size w' w.heap.size ps ∧ ∃ Md Mr, PRw w.heap.size w' w.heap.size ps ps.length Md Mr := by
 obtain ⟨va, vc, rfl, hv⟩ := h1
 have HV := hide hv
 have HZ := hide hz
 obtain ⟨zq, hmq⟩ := makeQ
 have mkQ := hmq ps.length hl
 have HR := hide (PRw.start (prow_of w zq 46 ps))
 have HB := hide ((Below.refl w.heap.size w).alloc (Nat.le_refl _) (.cells (madeCells zq ((ps.length + 1) * 43)) 46))
 clear hv hz hmq
 obtain ⟨N, hN⟩ : ∃ N, ps.length = N := ⟨_, rfl⟩
 rw [hN] at hl mkQ HR HB ⊢
 have HN := hide hN
 clear hN
 go_enter Tryz.func7, Tryz.ntmps7
 go_wp2_with fail
 obtain ⟨M, hM⟩ : ∃ M, w.heap.size = M := ⟨_, rfl⟩
 rw [hM] at HR ⊢
 generalize w.alloc (.cells (madeCells zq ((N + 1) * 43)) 46) = W0 at *
 clear mkQ
 have HM := hide hM
 clear hM
 go_loopg [4, 5, 6, 7, 8] N (fun gq vi _ _ _ _ wr => ∃ i : Nat, vi = .int .i64 i ∧ i ≤ N ∧ N - i ≤ gq ∧ Hid (Below w.heap.size w wr) ∧ Hid (∃ Md Mr, PRw M wr M ps i Md Mr))
 case atStart => exact ⟨0, by go_num, by omega, by omega, HB, HR⟩
 case round =>
  clear HB HR
  obtain ⟨i, rfl, hi, hg, HB, HR0⟩ := hrel
  obtain ⟨Md, Mr, hRw⟩ := unhide HR0
  have HR := hide hRw.pr
  have HRw := hide hRw
  clear hRw HR0
  by_cases hlt : i < N
  ·have hiz : (i : Int) < (N : Int) := by omega
   obtain ⟨b1, o1, rfl, g0, hc1⟩ := unhide HV (by have := unhide HN; omega)
   obtain ⟨p, hp⟩ : ∃ p, ps[i]? = some p := ⟨_, List.getElem?_eq_getElem (by have := unhide HN; omega)⟩
   have hz := unhide HZ p (List.mem_of_getElem? hp)
   obtain ⟨cs, d, r, c, v, f, k1, kc, kl⟩ := hc1 i p hp
   obtain ⟨pa, pc, rfl⟩ : ∃ a c, v = .slice a p.pv.length c := let ⟨a, c, e, _⟩ := kl.vl; ⟨a, c, e⟩
   obtain ⟨fa, fc, rfl⟩ : ∃ a c, f = .slice a p.fs.length c := let ⟨a, c, e, _⟩ := kl.fl; ⟨a, c, e⟩
   obtain ⟨ca, cc, rfl⟩ : ∃ a n, c = .slice a p.cf.length n := let ⟨a, n, e, _⟩ := kl.cl; ⟨a, n, e⟩
   have RS := hide (fun (X : World) (hb : Below wr.heap.size wr X) (j : Nat) (x : Value) (hx : cs[j]? = some x) => rangeAt_later k1 g0 (bl_t (unhide HB) hb) j x hx)
   have R0 := hide (rangeAt_later k1 g0 (unhide HB))
   have LX := hide (fun (X : World) (hb : Below wr.heap.size wr X) => kl.later (bl_t (unhide HB) hb))
   have HP := hide hp
   have C1 := hide kc
   have HZp := hide hz
   have LD := hide (fun (X : World) (hb : Below wr.heap.size wr X) => lentClauses_any p.dp d X hz.dl hz.dls (unhide LX X hb).dl)
   have LR := hide (fun (X : World) (hb : Below wr.heap.size wr X) => lentClauses_any p.pr r X hz.rl hz.rls (unhide LX X hb).rl)
   have LC := hide (fun (X : World) (hb : Below wr.heap.size wr X) (x : Nat) (hx : X.cell? ⟨x, 0, none⟩ = some (.slice ca p.cf.length cc)) (lx : x < X.heap.size) => lentClauses_any [p.cf] (.slice (some ⟨x, 0, none⟩) 1 1) X (by simp) (fun al h => by have := hz.cl; simp at h; subst h; omega) (cls_one hx lx (unhide LX X hb).cl))
   clear hc1 k1 kc kl hp hz
   have i0 : (0 : Int) ≤ (i : Int) := by omega
   go_wp2_with (first
    | (with_reducible refine p_loadm _ rfl rfl b1 (o1 + i * 43) rfl cs (unhide R0) (unhide C1).len ?_)
    | (with_reducible refine p_alloc rfl rfl ?_; intro w2 zc b2 k2 z2)
    | ((with_reducible refine p_store _ _ rfl rfl wr.heap.size rfl cs rfl (unhide C1).len (unhide C1).one zc b2 ?_); intro w3 b3 o3 k3 z3; obtain ⟨K3, B3⟩ := new_bkK k2 b3 k3; have e3 := unhide RS w3 (unhide K3) 3 d (unhide C1).c3; clear b2 k2 b3 o3 k3; have h3 := (unhide B3).lt; clear z2 z3))
   refine (unhide LD w3 (unhide K3)).mono ?_
   rintro e w4 ⟨rfl, hb4, l4⟩
   have H34 := hide l4.row.lt
   have K4 := hide (bl_t (unhide K3) hb4)
   have B4 := hide ((unhide B3).later hb4)
   have HL4 := hide l4
   clear hb4 l4 e3 LD R0
   go_wp2_with (first
    | ((with_reducible refine p_set 40 _ _ rfl rfl wr.heap.size 3 rfl _ (stL _ _ _ _ _ _) rfl rfl _ (unhide B4) (by omega) ?_); intro w5 b5 o5 k5 z5; obtain ⟨K5, B5⟩ := new_bkK (unhide K4) b5 k5; have e4 := unhide RS w5 (unhide K5) 4 r (unhide C1).c4; have Z5 := hide z5; clear z5))
   have HL5 := hide ((unhide HL4).put h3 o5 (unhide Z5))
   have H35 : Hid (w3.heap.size < w5.heap.size) := hide (by have := unhide H34; have := unhide Z5; omega)
   clear H34
   clear b5 o5 k5 HL4 K4 B4
   refine (unhide LR w5 (unhide K5)).mono ?_
   rintro e w6 ⟨rfl, hb6, l6⟩
   have K6 := hide (bl_t (unhide K5) hb6)
   have B6 := hide ((unhide B5).later hb6)
   have HD6 := hide ((unhide HL5).later hb6)
   have HR6 := hide l6
   have h5 : wr.heap.size < w5.heap.size := (unhide B5).lt
   clear hb6 l6 e4 LR Z5 HL5 B5 K5
   go_wp2_with (first
    | ((with_reducible refine p_set 40 _ _ rfl rfl wr.heap.size 4 rfl _ (stL _ _ _ _ _ _) rfl rfl _ (unhide B6) (by omega) ?_); intro w7 b7 o7 k7 z7; obtain ⟨K7, B7⟩ := new_bkK (unhide K6) b7 k7; have e5 := unhide RS w7 (unhide K7) 5 _ (unhide C1).c5; have Z7 := hide z7; clear z7))
   have HD7 := hide ((unhide HD6).put h3 o7 (unhide Z7))
   have HR7 := hide ((unhide HR6).put h5 o7 (unhide Z7))
   clear b7 o7 k7 Z7 HD6 HR6 K6 B6 e5
   obtain ⟨W8, hW8, m8, hlt8, hB8⟩ := pkgNew w7 [.slice ca p.cf.length cc] 49
   have hW8' : w7.alloc (Obj.cells #[Value.slice ca p.cf.length cc] 49) = W8 := hW8
   rw [hW8']
   have K8 := hide (bl_t (unhide K7) hB8)
   refine (unhide LC W8 (unhide K8) w7.heap.size (m8 0 _ rfl) hlt8).mono ?_
   rintro e w9 ⟨rfl, hb9, l9⟩
   obtain ⟨C, hC, m9, mk9⟩ := l9.row.row 0 p.cf (by simp) rfl
   have K9 := hide (bl_t (unhide K8) hb9)
   have h7 : wr.heap.size < w7.heap.size := (unhide B7).lt
   have hC2 : wr.heap.size < C := by have := hB8.size; omega
   have B9 := hide (((unhide B7).later hB8).later hb9)
   have HD9 := hide (((unhide HD7).later hB8).later hb9)
   have HR9 := hide (((unhide HR7).later hB8).later hb9)
   have HC9 := hide mk9
   have hf : ∀ x ∈ p.fs, isF x := fun x hx => by
    obtain ⟨k, hk, rfl⟩ := List.mem_iff_getElem.1 hx
    exact ((unhide LX wr (Below.refl _ _)).fl.at (List.getElem?_eq_getElem hk)).1
   have HF := hide hf
   have mkS := makeS p.pv.length (unhide HZp).vl
   obtain ⟨zf, hmf⟩ := makeG
   have mkG := hmf p.fs.length (unhide HZp).fl
   have SX := hide (fun (X : World) (hb : Below wr.heap.size wr X) => strs_step p.pv _ X (unhide LX X hb).vl)
   have FX := hide (fun (X : World) (hb : Below wr.heap.size wr X) => fls_step zf p.fs _ X (unhide LX X hb).fl hf)
   have GX := hide (fun (X : World) (hb : Below wr.heap.size wr X) => Nat.lt_of_lt_of_le g0 (bl_t (unhide HB) hb).size)
   have n1 : (p.pv.length : Int) ≤ (p.pv.length : Int) + 1 := by omega
   have n2 : (0 : Int) ≤ (p.pv.length : Int) := by omega
   have n3 : (p.pv.length : Int) < (p.pv.length : Int) + 1 := by omega
   have n4 : (p.fs.length : Int) ≤ (p.fs.length : Int) + 1 := by omega
   have n5 : (0 : Int) ≤ (p.fs.length : Int) := by omega
   have n6 : (p.fs.length : Int) < (p.fs.length : Int) + 1 := by omega
   have hiN : i ≤ ps.length := by have := unhide HN; omega
   have j4 : (i : Int) < (N : Int) + 1 := by omega
   have bv := (unhide HZp).vl
   have bf := (unhide HZp).fl
   clear hb9 hB8 hW8 hW8' m8 hlt8 l9 mk9 hf hmf HD7 HR7 B7 K7 K8 LC
   go_wp2_with (first
    | ((with_reducible refine p_set 41 _ _ rfl rfl wr.heap.size 5 rfl _ (stC _ _ _ _ _ _) rfl rfl _ (unhide B9) (by omega) ?_); intro w10 b10 o10 k10 z10; obtain ⟨K10, B10⟩ := new_bkK (unhide K9) b10 k10; have e6 := unhide RS w10 (unhide K10) 6 _ (unhide C1).c6; have g10 := unhide GX w10 (unhide K10); have Z10 := hide z10; clear z10; obtain ⟨v6, W12, hcp, HS12, HB12, ⟨zz, hzz⟩, hfz⟩ := unhide SX w10 (unhide K10); obtain ⟨K12, K13, KX13, B13, HS13⟩ := strs_mark (unhide K10) (unhide B10) (unhide HS12) (unhide HB12); have e6b := unhide RS W12 (unhide K12) 6 _ (unhide C1).c6; have e6c := unhide RS _ (unhide K13) 6 _ (unhide C1).c6)
    | ((with_reducible refine p_set 42 _ _ rfl rfl wr.heap.size 6 rfl _ (stS _ _ _ _ _ _) rfl rfl _ (unhide B13) (by omega) ?_); intro w14 b14 o14 k14 z14; obtain ⟨K14, B14⟩ := new_bkK (unhide K13) b14 k14; have e7 := unhide RS w14 (unhide K14) 7 _ (unhide C1).c7; have g14 := unhide GX w14 (unhide K14); have Z14 := hide z14; clear z14; obtain ⟨v7, W16, hcp2, HS16, HB16, ht16⟩ := unhide FX w14 (unhide K14); have K16 := hide (bl_t (unhide K14) (unhide HB16)); have e7b := unhide RS W16 (unhide K16) 7 _ (unhide C1).c7)
    | ((with_reducible refine p_storef' _ _ rfl rfl w14.heap.size (p.fs.length * 34) rfl _ rfl (unhide ht16) ?fa1 ?fa2 ?fa3 ?fa4); (case fa1 => rfl); (case fa2 => rfl); (case fa3 => rfl); intro w17 hw17; obtain ⟨K17, KX17, B17, HS17⟩ := fls_mark (unhide HF) (unhide K14) (unhide B14) (unhide HS16) (unhide HB16) hw17; clear hw17; have e7c := unhide RS w17 (unhide K17) 7 _ (unhide C1).c7)
    | ((with_reducible refine p_set 43 _ _ rfl rfl wr.heap.size 7 rfl _ (stG _ _ _ _ _ _) rfl rfl _ (unhide B17) (by omega) ?_); intro w18 b18 o18 k18 z18; obtain ⟨K18, B18⟩ := new_bkK (unhide K17) b18 k18; have Z18 := hide z18; clear z18; have HR18 := hide ((unhide HR).later (unhide K18)))
    | (with_reducible refine p_load _ rfl rfl wr.heap.size rfl _ (unhide B18) ?_)
    | (with_reducible refine p_storem _ _ rfl rfl M (i * 43) rfl _ rfl (unhide B18).len (unhide B18).one ((unhide HR18).there i hiN) ?_))
   have h10 : wr.heap.size < w10.heap.size := (unhide B10).lt
   have h14 : wr.heap.size < w14.heap.size := (unhide B14).lt
   have hMr := (unhide HR).lt
   have dl := (((((unhide HD9).put h3 o10 (unhide Z10)).later (unhide KX13)).put h3 o14 (unhide Z14)).later (unhide KX17)).put h3 o18 (unhide Z18)
   have rl := (((((unhide HR9).put h5 o10 (unhide Z10)).later (unhide KX13)).put h5 o14 (unhide Z14)).later (unhide KX17)).put h5 o18 (unhide Z18)
   have cl := (((((unhide HC9).put hC2 o10 (unhide Z10)).later (unhide KX13)).put hC2 o14 (unhide Z14)).later (unhide KX17)).put hC2 o18 (unhide Z18)
   have sl := (((unhide HS13).set h10 o14 (unhide Z14)).later (unhide KX17)).set h10 o18 (unhide Z18)
   have fl := (unhide HS17).set h14 o18 (unhide Z18)
   have HK := hide (show LPk w18 M p _ w3.heap.size w5.heap.size C w10.heap.size w14.heap.size from ⟨(unhide C1).lists rfl rfl rfl rfl rfl (unhide HZp).sl.1, dl.base (by omega), rl.base (by omega), cl, by omega, sl, by omega, fl, by omega, unhide HF⟩)
   have hMw : w.heap.size ≤ M := Nat.le_of_eq (unhide HM)
   go_roundg (N - (i + 1))
   case measure => omega
   case rel => exact ⟨i + 1, by go_num, by omega, by omega, hide (below_setCells M hMw _ _ _ (bl_t (unhide HB) (unhide K18))), hide ⟨_, _, ((unhide HRw).later (unhide K18)).put (unhide HP) (unhide HK) (fun j hj => Nat.lt_trans ((unhide HRw).ord j hj).2.1 h3) (unhide H35) rl.row.lt⟩⟩
  ·obtain rfl : i = N := by omega
   have HT := hide ((unhide HR).there i (by have := unhide HN; omega))
   have i0 : (0 : Int) ≤ (i : Int) := by omega
   have j4 : (i : Int) < (i : Int) + 1 := by omega
   have j3 : (i : Int) ≤ (i : Int) + 1 := by omega
   go_wp2_with (first | ((with_reducible refine p_storem' _ _ rfl rfl M (i * 43) rfl _ rfl (unhide HT) ?ga1 ?ga2 ?ga3 ?ga4); (case ga1 => rfl); (case ga2 => rfl); (case ga3 => rfl); intro w2 hw2))
   go_ret
   obtain ⟨ms, rfl, g1, g2⟩ := hw2
   have hN := unhide HN
   have hD := unhide HR
   rw [← hN] at hD
   have hRw := unhide HRw
   rw [← hN] at hRw
   have hRw := hRw.done ms g1
   have hD := hD.done ms g1 g2
   rw [hN] at hD hRw
   have hB9 := below_setCells (w := w) M (Nat.le_of_eq (unhide HM)) ms (i * 43) wr (unhide HB)
   exact ⟨by rw [unhide HM]; rfl, hB9, by rw [unhide HM]; exact hD, Md, Mr, by rw [unhide HM]; exact hRw⟩
end
end Go.Proofs.YtdkpglmdncjnbaaGreatDoor
