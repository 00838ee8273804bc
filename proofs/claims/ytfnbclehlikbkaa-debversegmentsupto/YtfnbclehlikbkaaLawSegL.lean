import Derived.Test.YtfnbclehlikbkaaApartQ
namespace Go.Proofs.Ytfnbclehlikbkaa
open Go.RowKit

theorem below_drewN (w : World) (n : Nat) : Below w.heap.size w (w.drewN n) := (Below.refl _ w).trans ⟨rfl, rfl, rfl, Nat.le_refl _, fun _ _ => rfl⟩

theorem same_b (s : ByteArray) (v u : Value) (N : Nat) (hN : N ≤ 2097170) (w : World) (h1 : Sg w v s N) (h2 : Sg w u s N) :
    Calls Try.prog 7 #[v, u] w fun e w' => e = .returned (.bool true) ∧ Below w.heap.size w w' :=
  (same_any s v u N hN w h1 h2).mono fun _ _ ⟨h, n, e⟩ => ⟨h, e ▸ below_drewN w n⟩

theorem seg_at (a : ByteArray) (ha : a.size ≤ 1048584) (N : Nat) (h1 : ia a N = a.size) (h2 : ∀ M, M < N → ia a M < a.size) (w : World) :
    Calls Try.prog 6 #[.string a] w fun e W' => ∃ x c, e = .returned (.slice x N c) ∧ W'.ownsRow w.heap.size 9 1 (.slice x N c) N (segL a N) ∧ Below w.heap.size w W' :=
  (Segments_any a ha w).mono fun e W' ⟨v, N', h, e1, e2, e3, ow, hb⟩ => by
    obtain rfl := seg_unique h1 h2 e1 e2
    obtain ⟨x, c, rfl, -⟩ := (Sg.of_owns ow).split
    exact ⟨x, c, h, ow, hb⟩

theorem rseg_at (a : ByteArray) (ha : a.size ≤ 1048584) (w : World) :
    Calls Try.prog 5 #[.string a] w fun e W' => ∃ N x c, e = .returned (.slice x N c) ∧ (ia a N = a.size ∧ (∀ M, M < N → ia a M < a.size) ∧ N ≤ 2097170 ∧ Sg W' (.slice x N c) a N) ∧ Below w.heap.size w W' :=
  (rSegments_any a ha w).mono fun e W' ⟨v, N, h, e1, e2, e3, ow, hb⟩ => by
    have hs := Sg.of_owns ow
    obtain ⟨x, c, rfl, -⟩ := hs.split
    exact ⟨N, x, c, h, ⟨e1, e2, by omega, hs⟩, hb⟩

theorem new5 (w : World) (v0 v1 v2 v3 v4 : Value) (t : TypeId) : ∃ W, w.alloc (.cells #[v0, v1, v2, v3, v4] t) = W ∧ W.cell? ⟨w.heap.size, 0, none⟩ = some v0 ∧ W.cell? ⟨w.heap.size, 1, none⟩ = some v1 ∧ W.cell? ⟨w.heap.size, 2, none⟩ = some v2 ∧ W.cell? ⟨w.heap.size, 3, none⟩ = some v3 ∧ W.cell? ⟨w.heap.size, 4, none⟩ = some v4 ∧ w.heap.size < W.heap.size ∧ Below w.heap.size w W := by
  refine ⟨_, rfl, ?_, ?_, ?_, ?_, ?_, by simp, (Below.refl w.heap.size w).alloc (Nat.le_refl _) _⟩
  all_goals go_simp

theorem kp5 {b : Nat} {W W' : World} {v0 v1 v2 v3 v4 : Value} (hb : Below W.heap.size W W') (hq : b < W.heap.size) (k0 : W.cell? ⟨b, 0, none⟩ = some v0) (k1 : W.cell? ⟨b, 1, none⟩ = some v1) (k2 : W.cell? ⟨b, 2, none⟩ = some v2) (k3 : W.cell? ⟨b, 3, none⟩ = some v3) (k4 : W.cell? ⟨b, 4, none⟩ = some v4) :
    W'.cell? ⟨b, 0, none⟩ = some v0 ∧ W'.cell? ⟨b, 1, none⟩ = some v1 ∧ W'.cell? ⟨b, 2, none⟩ = some v2 ∧ W'.cell? ⟨b, 3, none⟩ = some v3 ∧ W'.cell? ⟨b, 4, none⟩ = some v4 ∧ b < W'.heap.size :=
  ⟨(hb.cell (p := ⟨b, 0, none⟩) hq).trans k0, (hb.cell (p := ⟨b, 1, none⟩) hq).trans k1, (hb.cell (p := ⟨b, 2, none⟩) hq).trans k2, (hb.cell (p := ⟨b, 3, none⟩) hq).trans k3, (hb.cell (p := ⟨b, 4, none⟩) hq).trans k4, Nat.lt_of_lt_of_le hq hb.size⟩

/-- FIVE OF A KIND, BY NUMBER. -/
def five {α : Type} (a b c d e : α) : Nat → α
  | 0 => a
  | 1 => b
  | 2 => c
  | 3 => d
  | _ => e

/-- ROWS THAT CAME ONE BEHIND THE OTHER ARE APART. -/
theorem rows_apart {w2 wa wb wc wd we W : World} {x0 x1 x2 x3 x4 : Option Addr} {N1 N2 c0 c1 c2 c3 c4 : Nat} {p o : ByteArray}
    (o0 : wa.ownsRow w2.heap.size 9 1 (.slice x0 N1 c0) N1 (segL p N1)) (o1 : wb.ownsRow wa.heap.size 9 1 (.slice x1 N1 c1) N1 (segL p N1)) (o2 : wc.ownsRow wb.heap.size 9 1 (.slice x2 N2 c2) N2 (segL o N2)) (o3 : wd.ownsRow wc.heap.size 9 1 (.slice x3 N2 c3) N2 (segL o N2)) (o4 : we.ownsRow wd.heap.size 9 1 (.slice x4 N1 c4) N1 (segL p N1))
    (ha : Below w2.heap.size w2 wa) (hb : Below wa.heap.size wa wb) (hc : Below wb.heap.size wb wc) (hd : Below wc.heap.size wc wd) (he : Below wd.heap.size wd we) (hW : Below we.heap.size we W) (hq : we.heap.size < W.heap.size)
    (k0 : W.cell? ⟨we.heap.size, 0, none⟩ = some (.slice x0 N1 c0)) (k1 : W.cell? ⟨we.heap.size, 1, none⟩ = some (.slice x1 N1 c1)) (k2 : W.cell? ⟨we.heap.size, 2, none⟩ = some (.slice x2 N2 c2)) (k3 : W.cell? ⟨we.heap.size, 3, none⟩ = some (.slice x3 N2 c3)) (k4 : W.cell? ⟨we.heap.size, 4, none⟩ = some (.slice x4 N1 c4)) :
    PA W w2.heap.size we.heap.size (five (.slice x0 N1 c0) (.slice x1 N1 c1) (.slice x2 N2 c2) (.slice x3 N2 c3) (.slice x4 N1 c4)) (five N1 N1 N2 N2 N1) (five (segL p N1) (segL p N1) (segL o N2) (segL o N2) (segL p N1)) := by
  have za := ha.size; have zb := hb.size; have zc := hc.size; have zd := hd.size; have ze := he.size
  have q0 : ∀ g, (Value.slice x0 N1 c0).ownBlock = some g → w2.heap.size ≤ g ∧ g < wa.heap.size := fun g h => o0.lt g h
  have q1 : ∀ g, (Value.slice x1 N1 c1).ownBlock = some g → wa.heap.size ≤ g ∧ g < wb.heap.size := fun g h => o1.lt g h
  have q2 : ∀ g, (Value.slice x2 N2 c2).ownBlock = some g → wb.heap.size ≤ g ∧ g < wc.heap.size := fun g h => o2.lt g h
  have q3 : ∀ g, (Value.slice x3 N2 c3).ownBlock = some g → wc.heap.size ≤ g ∧ g < wd.heap.size := fun g h => o3.lt g h
  have q4 : ∀ g, (Value.slice x4 N1 c4).ownBlock = some g → wd.heap.size ≤ g ∧ g < we.heap.size := fun g h => o4.lt g h
  have hall : ∀ i, i < 5 → ∀ g, (five (Value.slice x0 N1 c0) (.slice x1 N1 c1) (.slice x2 N2 c2) (.slice x3 N2 c3) (.slice x4 N1 c4) i).ownBlock = some g → five w2.heap.size wa.heap.size wb.heap.size wc.heap.size wd.heap.size i ≤ g ∧ g < five wa.heap.size wb.heap.size wc.heap.size wd.heap.size we.heap.size i := by
    intro i hi
    match i, hi with
    | 0, _ => exact q0
    | 1, _ => exact q1
    | 2, _ => exact q2
    | 3, _ => exact q3
    | 4, _ => exact q4
  have hbW : Below wb.heap.size wb W := (hc.trans ((hd.mono zc).trans ((he.mono (by omega)).trans (hW.mono (by omega)))))
  have hcW : Below wc.heap.size wc W := hd.trans ((he.mono zd).trans (hW.mono (by omega)))
  have hdW : Below wd.heap.size wd W := he.trans (hW.mono ze)
  have haW : Below wa.heap.size wa W := hb.trans (hbW.mono zb)
  refine ⟨fun i hi => ?_, fun i hi => ?_, fun i j hi hj hij => ?_, fun i hi e => ?_, hq, by omega⟩
  · match i, hi with
    | 0, _ => exact k0
    | 1, _ => exact k1
    | 2, _ => exact k2
    | 3, _ => exact k3
    | 4, _ => exact k4
  · match i, hi with
    | 0, _ => exact owns_below o0 haW
    | 1, _ => exact (owns_below o1 hbW).mono za
    | 2, _ => exact (owns_below o2 hcW).mono (by omega)
    | 3, _ => exact (owns_below o3 hdW).mono (by omega)
    | 4, _ => exact (owns_below o4 hW).mono (by omega)
  · cases ej : (five (Value.slice x0 N1 c0) (.slice x1 N1 c1) (.slice x2 N2 c2) (.slice x3 N2 c3) (.slice x4 N1 c4) j).ownBlock with
    | none => exact .inl rfl
    | some g =>
      refine .inr fun e => ?_
      have h1 := hall j hj g ej
      have h2 := hall i hi g e.symm
      match i, hi, j, hj with
      | 0, _, 0, _ => exact hij rfl
      | 0, _, 1, _ => simp only [five] at h1 h2; omega
      | 0, _, 2, _ => simp only [five] at h1 h2; omega
      | 0, _, 3, _ => simp only [five] at h1 h2; omega
      | 0, _, 4, _ => simp only [five] at h1 h2; omega
      | 1, _, 0, _ => simp only [five] at h1 h2; omega
      | 1, _, 1, _ => exact hij rfl
      | 1, _, 2, _ => simp only [five] at h1 h2; omega
      | 1, _, 3, _ => simp only [five] at h1 h2; omega
      | 1, _, 4, _ => simp only [five] at h1 h2; omega
      | 2, _, 0, _ => simp only [five] at h1 h2; omega
      | 2, _, 1, _ => simp only [five] at h1 h2; omega
      | 2, _, 2, _ => exact hij rfl
      | 2, _, 3, _ => simp only [five] at h1 h2; omega
      | 2, _, 4, _ => simp only [five] at h1 h2; omega
      | 3, _, 0, _ => simp only [five] at h1 h2; omega
      | 3, _, 1, _ => simp only [five] at h1 h2; omega
      | 3, _, 2, _ => simp only [five] at h1 h2; omega
      | 3, _, 3, _ => exact hij rfl
      | 3, _, 4, _ => simp only [five] at h1 h2; omega
      | 4, _, 0, _ => simp only [five] at h1 h2; omega
      | 4, _, 1, _ => simp only [five] at h1 h2; omega
      | 4, _, 2, _ => simp only [five] at h1 h2; omega
      | 4, _, 3, _ => simp only [five] at h1 h2; omega
      | 4, _, 4, _ => exact hij rfl
  · have h1 := hall i hi _ e
    match i, hi with
    | 0, _ => simp only [five] at h1; omega
    | 1, _ => simp only [five] at h1; omega
    | 2, _ => simp only [five] at h1; omega
    | 3, _ => simp only [five] at h1; omega
    | 4, _ => simp only [five] at h1; omega

end Go.Proofs.Ytfnbclehlikbkaa
