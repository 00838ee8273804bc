import Derived.Test.YtcdajbfoneifaaaDoorSoQ
import Derived.Test.YtcdajbfoneifaaaDoorPlain
import Derived.Below
import Derived.Laws.OwnMore
import Derived.WalkKit
import Derived.BigRegion
import Derived.Deep.RegionHeld3
import Derived.Deep.LoopGhost
namespace Go.Proofs.YtcdajbfoneifaaaDoor
open Go.RowKit

/-- ALL BLOCKS BUT ONE ARE AS THEY WERE. -/
structure But (b : Nat) (w w' : World) : Prop where
  os : w'.os = w.os
  tape : w'.tape = w.tape
  output : w'.output = w.output
  size : w.heap.size ≤ w'.heap.size
  block : ∀ k, k < w.heap.size → k ≠ b → w'.heap[k]? = w.heap[k]?
theorem But.refl (b : Nat) (w : World) : But b w w := ⟨rfl, rfl, rfl, Nat.le_refl _, fun _ _ _ => rfl⟩
theorem But.trans {b : Nat} {u v w : World} (h : But b u v) (k : But b v w) : But b u w :=
  ⟨k.os.trans h.os, k.tape.trans h.tape, k.output.trans h.output, Nat.le_trans h.size k.size, fun i hi hb => (k.block i (Nat.lt_of_lt_of_le hi h.size) hb).trans (h.block i hi hb)⟩
theorem But.below {b : Nat} {w w' : World} (h : Below w.heap.size w w') : But b w w' := ⟨h.os, h.tape, h.output, h.size, fun k hk _ => h.block k hk⟩
theorem But.drew {b : Nat} {u w : World} (h : But b u w) : But b u w.drew := ⟨h.os, h.tape, h.output, h.size, h.block⟩
theorem But.set {b : Nat} {u w : World} (h : But b u w) (k : Nat) (v : Value) : But b u (w.setCell ⟨b, k, none⟩ v) :=
  h.trans ⟨rfl, rfl, rfl, by simp [World.setCell], fun i _ hb => Below.heap_setCell _ _ _ _ hb⟩

theorem owns_same {W W' : World} {base e size g n c m : Nat} {xs : List Value} (h : W.ownsRow base e size (.slice (some ⟨g, 0, none⟩) n c) m xs) (hh : W'.heap[g]? = W.heap[g]?) : W'.ownsRow base e size (.slice (some ⟨g, 0, none⟩) n c) m xs := by
  refine ⟨h.1, ?_⟩
  rcases h.2 with h' | ⟨g', cap, cur, h1, h2, h3, h4⟩
  · exact .inl h'
  · cases h1
    exact .inr ⟨_, _, cur, rfl, h2, hh.trans h3, h4⟩
/-- THE ROW THAT IS SORTED, AS IT LIES: block b holds f's first n, from o on. -/
structure Rw (b o n : Nat) (f : Nat → Nat) (W : World) : Prop where
  lt : b < W.heap.size
  cell : ∀ k, k < n → W.cell? ⟨b, o + k, none⟩ = some (.int .i64 (f k))
  fro : ∀ k, k < n → W.frozen? ⟨b, o + k, none⟩ = false
  own : o = 0 → ∃ xs, W.ownsRow b 3 1 (.slice (some ⟨b, 0, none⟩) n n) n xs
theorem Rw.below {b o n : Nat} {f : Nat → Nat} {W W' : World} (h : Rw b o n f W) (hb : Below W.heap.size W W') : Rw b o n f W' :=
  ⟨Nat.lt_of_lt_of_le h.lt hb.size, fun k hk => (hb.cell (p := ⟨b, o + k, none⟩) h.lt).trans (h.cell k hk), fun k hk => (hb.frozen (p := ⟨b, o + k, none⟩) h.lt).trans (h.fro k hk), fun e => (h.own e).elim fun xs hx => ⟨xs, owns_same hx (hb.block b h.lt)⟩⟩
theorem Rw.drew {b o n : Nat} {f : Nat → Nat} {W : World} (h : Rw b o n f W) : Rw b o n f W.drew := ⟨h.lt, h.cell, h.fro, h.own⟩

/-- A WORLD WITHIN A SORT: that of its beginning but for the row, and the row holds f. -/
structure Sw (w0 : World) (b o n : Nat) (f : Nat → Nat) (W : World) : Prop where
  but : But b w0 W
  row : Rw b o n f W
theorem Sw.below {w0 : World} {b o n : Nat} {f : Nat → Nat} {W W' : World} (h : Sw w0 b o n f W) (hb : Below W.heap.size W W') : Sw w0 b o n f W' := ⟨h.but.trans (But.below hb), h.row.below hb⟩
theorem Sw.drew {w0 : World} {b o n : Nat} {f : Nat → Nat} {W : World} (h : Sw w0 b o n f W) : Sw w0 b o n f W.drew := ⟨h.but.drew, h.row.drew⟩
/-- Behind an exchange's first store the second place holds something. -/
theorem Sw.mid {w0 : World} {b o n : Nat} {f : Nat → Nat} {W : World} (h : Sw w0 b o n f W) (i j : Nat) (hi : i < n) (hj : j < n) (v : Value) : ∃ u, (W.setCell ⟨b, o + i, none⟩ v).cell? ⟨b, o + j, none⟩ = some u := by
  by_cases e : i = j
  · subst e; exact ⟨v, World.cell?_setCell_same _ _ _ (h.row.cell i hi)⟩
  · exact ⟨_, (World.cell?_setCell_other _ _ _ _ (by intro e'; simp only [Addr.mk.injEq] at e'; omega)).trans (h.row.cell j hj)⟩
theorem Sw.swap {w0 : World} {b o n : Nat} {f : Nat → Nat} {W : World} (h : Sw w0 b o n f W) (i j : Nat) (hi : i < n) (hj : j < n) :
    Sw w0 b o n (sw f i j) ((W.setCell ⟨b, o + i, none⟩ (.int .i64 (f j))).setCell ⟨b, o + j, none⟩ (.int .i64 (f i))).drew := by
  have hb := h.row.lt
  refine ⟨((h.but.set _ _).set _ _).drew, by simpa [World.setCell] using hb, fun k hk => ?_, fun k hk => ?_, fun e => ?_⟩
  · show ((W.setCell ⟨b, o + i, none⟩ (.int .i64 (f j))).setCell ⟨b, o + j, none⟩ (.int .i64 (f i))).cell? _ = _
    unfold sw
    by_cases e2 : k = j
    · subst e2
      obtain ⟨u, hu⟩ := h.mid i k hi hk (.int .i64 (f k))
      rw [World.cell?_setCell_same _ _ _ hu]
      by_cases e1 : k = i
      · subst e1; rw [if_pos rfl]
      · rw [if_neg e1, if_pos rfl]
    · rw [World.cell?_setCell_other _ _ _ _ (by intro e'; simp only [Addr.mk.injEq] at e'; omega)]
      by_cases e1 : k = i
      · subst e1; rw [World.cell?_setCell_same _ _ _ (h.row.cell k hk), if_pos rfl]
      · rw [World.cell?_setCell_other _ _ _ _ (by intro e'; simp only [Addr.mk.injEq] at e'; omega), if_neg e1, if_neg e2]
        exact h.row.cell k hk
  · show ((W.setCell ⟨b, o + i, none⟩ (.int .i64 (f j))).setCell ⟨b, o + j, none⟩ (.int .i64 (f i))).frozen? _ = _
    rw [World.frozen?_setCell, World.frozen?_setCell]
    exact h.row.fro k hk
  · obtain ⟨xs, hx⟩ := h.row.own e
    exact ⟨_, ((hx.stored (o + i) _).1.stored (o + j) _).1⟩

set_option maxRecDepth 100000 in
set_option maxHeartbeats 4000000 in
/-- slices.swapRangeCmpFunc. -/
theorem swapRange_any (w0 : World) (b o n cp x y z : Nat) (fv : Value) (f : Nat → Nat) (w : World) (hn : n < 70368744177664) (hx : x + z ≤ y) (hy : y + z ≤ n) (hS : Sw w0 b o n f w) :
    Calls Tryd.prog 65 #[.slice (some ⟨b, o, none⟩) n cp, .int .i64 x, .int .i64 y, .int .i64 z, fv] w fun e w' => e = .returned (.tuple #[]) ∧ Sw w0 b o n (swr f x y z) w' := by
  have S0 : Aside (Sw w0 b o n f w) := hS
  clear hS
  go_enter Tryd.func65, Tryd.ntmps65
  go_wp2
  go_loopg [10] z (fun g1 vi wr => ∃ i : Nat, vi = .int .i64 i ∧ i ≤ z ∧ z - i ≤ g1 ∧ Aside (Sw w0 b o n (swr f x y i) wr))
  case atStart => exact ⟨0, by go_num, by omega, by omega, by show Sw w0 b o n (swr f x y 0) w; rw [swr_zero]; exact S0.out⟩
  case round =>
    clear S0
    obtain ⟨i, rfl, hi, hg, S1⟩ := hrel
    by_cases hlt : i < z
    · have hltz : (i : Int) < (z : Int) := by omega
      obtain ⟨p, hp⟩ : ∃ p, p = x + i := ⟨_, rfl⟩
      obtain ⟨q, hq⟩ : ∃ q, q = y + i := ⟨_, rfl⟩
      have ea : ((x : Int) + (i : Int)).toNat = p := by omega
      have pa : (0 : Int) ≤ (x : Int) + (i : Int) := by omega
      have ba : (x : Int) + (i : Int) < (n : Int) := by omega
      have ra : IntKind.i64.wrap ((x : Int) + (i : Int)) = (x : Int) + (i : Int) := by rw [IntKind.wrap_i64]; omega
      have ec : ((y : Int) + (i : Int)).toNat = q := by omega
      have pc : (0 : Int) ≤ (y : Int) + (i : Int) := by omega
      have bc : (y : Int) + (i : Int) < (n : Int) := by omega
      have rc : IntKind.i64.wrap ((y : Int) + (i : Int)) = (y : Int) + (i : Int) := by rw [IntKind.wrap_i64]; omega
      have S2 := S1.out.swap p q (by omega) (by omega)
      have e1 : sw (swr f x y i) p q = swr f x y (i + 1) := by rw [hp, hq]; exact swr_succ f x y i z hx hlt
      rw [e1] at S2
      have c1 := S1.out.row.cell p (by omega)
      have c2 := S1.out.row.cell q (by omega)
      have f1 := S1.out.row.fro p (by omega)
      have f2 := S1.out.row.fro q (by omega)
      obtain ⟨u, c3⟩ := S1.out.mid p q (by omega) (by omega) (.int .i64 (swr f x y i q))
      generalize swr f x y i p = vp at *
      generalize swr f x y i q = vq at *
      have S3 : Aside _ := S2
      clear S1 S2 e1 hp hq
      go_wp2_with fail
      go_big_region
      clear c1 c2 c3 f1 f2
      generalize ((wr.setCell ⟨b, o + p, none⟩ (.int .i64 vq)).setCell ⟨b, o + q, none⟩ (.int .i64 vp)).drew = w3 at S3 ⊢
      clear ea ec
      go_wp2
      go_roundg (z - (i + 1))
      case measure => omega
      case rel => exact ⟨i + 1, by go_num, by omega, by omega, S3⟩
    · have hltz : ¬ (i : Int) < (z : Int) := by omega
      go_wp2
      go_end0
      have : i = z := by omega
      subst this
      exact ⟨rfl, S1.out⟩
theorem swapRange_at (w0 : World) (b o n cp : Nat) (X Y Z : Int) (x y z : Nat) (fv : Value) (f : Nat → Nat) (w : World) (eX : X = x) (eY : Y = y) (eZ : Z = z) (hn : n < 70368744177664) (hx : x + z ≤ y) (hy : y + z ≤ n) (hS : Sw w0 b o n f w) :
    Calls Tryd.prog 65 #[.slice (some ⟨b, o, none⟩) n cp, .int .i64 X, .int .i64 Y, .int .i64 Z, fv] w fun e w' => e = .returned (.tuple #[]) ∧ Sw w0 b o n (swr f x y z) w' := by
  subst eX; subst eY; subst eZ
  exact swapRange_any w0 b o n cp x y z fv f w hn hx hy hS
end Go.Proofs.YtcdajbfoneifaaaDoor
