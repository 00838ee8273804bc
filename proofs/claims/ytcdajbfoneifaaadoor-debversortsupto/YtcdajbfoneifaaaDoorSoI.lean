import Derived.Test.YtcdajbfoneifaaaDoorSoD
import Derived.Test.YtcdajbfoneifaaaDoorSoE
import Derived.Test.YtcdajbfoneifaaaDoorSoG
import Derived.Test.YtcdajbfoneifaaaDoorSoH
namespace Go.Proofs.YtcdajbfoneifaaaDoor
open Go.RowKit

theorem sym_all (w0 : World) (b o n cp V : Nat) (pv : Value) (c : Nat → Nat → Int) (S : Nat → Nat → Prop) (hO : Ord c S V) (hC : Cm w0 b pv c V) (hn : n < 70368744177664) : ∀ N, Sym w0 b o n cp V pv S N
  | 0 => fun X M Z x m z f w eX eM eZ hN hx hm hz hV hL hR hLR hS => by omega
  | N + 1 => fun X M Z x m z f w eX eM eZ hN hx hm hz hV hL hR hLR hS => by
    subst eX; subst eM; subst eZ
    by_cases h0 : m = x + 1
    · exact sym_left w0 b o n cp V pv c S hO hC hn x m z f w hx hm hz hV hL hR hLR hS h0
    · by_cases h1 : z = m + 1
      · exact sym_right w0 b o n cp V pv c S hO hC hn x m z f w hx hm hz hV hL hR hLR hS h0 h1
      · by_cases h2 : (x + z) / 2 < m
        · exact sym_mainA w0 b o n cp V pv c S hO hC hn x m z f w hx hm hz hV hL hR hLR hS N (sym_all w0 b o n cp V pv c S hO hC hn N) hN h0 h1 _ rfl h2
        · exact sym_mainB w0 b o n cp V pv c S hO hC hn x m z f w hx hm hz hV hL hR hLR hS N (sym_all w0 b o n cp V pv c S hO hC hn N) hN h0 h1 _ rfl (by omega)

/-- ALL PARTS OF LENGTH B ARE DONE. -/
def Tiles (S : Nat → Nat → Prop) (f : Nat → Nat) (B n : Nat) : Prop := ∀ t, Ok S f (t * B) (min (t * B + B) n)
/-- WITHIN THE FIRST PASS: s parts of 20 are done, what follows stands as it came. -/
structure Ph (S : Nat → Nat → Prop) (f : Nat → Nat) (n s : Nat) : Prop where
  done : ∀ t, t < s → Ok S f (t * 20) (t * 20 + 20)
  rest : ∀ k, 20 * s ≤ k → k < n → f k = k
theorem Ph.step {S : Nat → Nat → Prop} {f g : Nat → Nat} {n s : Nat} (h : Ph S f n s) (hp : Pm f g (20 * s) (20 * s + 20)) (hs : Srt S g (20 * s) (20 * s + 20)) (hb : 20 * s + 20 ≤ n) : Ph S g n (s + 1) := by
  refine ⟨fun t ht => ?_, fun k h1 h2 => ?_⟩
  · by_cases e : t = s
    · subst e
      rw [Nat.mul_comm t 20]
      exact Ok.of_pm hs hp (fun k h1 h2 => by rw [h.rest k h1 (by omega)]; exact ⟨h1, h2⟩)
    · exact (h.done t (by omega)).same (fun k h1 h2 => hp.out k (by omega))
  · rw [hp.out k (by omega)]
    exact h.rest k (by omega) h2
theorem Ph.last {S : Nat → Nat → Prop} {f g : Nat → Nat} {n s : Nat} (h : Ph S f n s) (hp : Pm f g (20 * s) n) (hs : Srt S g (20 * s) n) (hb : 20 * s ≤ n) (hn : n < 20 * s + 20) : Tiles S g 20 n := fun t => by
  by_cases e : t < s
  · rw [Nat.min_eq_left (by omega)]
    exact (h.done t e).same (fun k h1 h2 => hp.out k (by omega))
  · by_cases e2 : t = s
    · subst e2
      rw [Nat.min_eq_right (by omega), Nat.mul_comm t 20]
      exact Ok.of_pm hs hp (fun k h1 h2 => by rw [h.rest k h1 (by omega)]; exact ⟨h1, h2⟩)
    · exact Ok.nil _ _ _ _ (by omega)
/-- WITHIN A LATER PASS: s parts of 2 B are done, what follows is in parts of B. -/
structure Pass (S : Nat → Nat → Prop) (f : Nat → Nat) (B n s : Nat) : Prop where
  done : ∀ t, t < s → Ok S f (t * (2 * B)) (t * (2 * B) + 2 * B)
  left : ∀ t, 2 * s ≤ t → Ok S f (t * B) (min (t * B + B) n)
theorem Pass.start {S : Nat → Nat → Prop} {f : Nat → Nat} {B n : Nat} (h : Tiles S f B n) : Pass S f B n 0 := ⟨fun _ ht => absurd ht (Nat.not_lt_zero _), fun t _ => h t⟩
theorem dbl (s B : Nat) : s * (2 * B) = 2 * s * B := by rw [Nat.mul_left_comm, Nat.mul_assoc]
theorem Pass.here {S : Nat → Nat → Prop} {f : Nat → Nat} {B n s a : Nat} (h : Pass S f B n s) (ha : a = s * (2 * B)) : Ok S f a (min (a + B) n) ∧ Ok S f (a + B) (min (a + B + B) n) := by
  have h1 := h.left (2 * s) (Nat.le_refl _)
  have h2 := h.left (2 * s + 1) (by omega)
  rw [Nat.succ_mul] at h2
  rw [← dbl, ← ha] at h1 h2
  exact ⟨h1, h2⟩
theorem Pass.lss {S : Nat → Nat → Prop} {f : Nat → Nat} {B n s a z : Nat} (h : Pass S f B n s) (ha : a = s * (2 * B)) (hB : a + B < z) (hz : z ≤ n) (hz2 : z ≤ a + 2 * B) (hz3 : z = n ∨ z = a + 2 * B) : Srt S f a (a + B) ∧ Srt S f (a + B) z ∧ Lss (· < ·) f a (a + B) (a + B) z := by
  obtain ⟨h1, h2⟩ := h.here ha
  rw [Nat.min_eq_left (by omega)] at h1
  have e : min (a + B + B) n = z := by omega
  rw [e] at h2
  exact ⟨h1.srt, h2.srt, fun i j i1 i2 j1 j2 => Nat.lt_of_lt_of_le (h1.own i i1 i2).2 (h2.own j j1 j2).1⟩
theorem Pass.own {S : Nat → Nat → Prop} {f : Nat → Nat} {B n s a z : Nat} (h : Pass S f B n s) (ha : a = s * (2 * B)) (hz : z ≤ n) (hz3 : z = n ∨ z = a + 2 * B) : ∀ k, a ≤ k → k < z → k < a + 2 * B → a ≤ f k ∧ f k < z := fun k k1 k2 k3 => by
  obtain ⟨h1, h2⟩ := h.here ha
  by_cases e : k < a + B
  · have := h1.own k k1 (by omega)
    omega
  · have := h2.own k (by omega) (by omega)
    omega
theorem Pass.step {S : Nat → Nat → Prop} {f g : Nat → Nat} {B n s a : Nat} (h : Pass S f B n s) (ha : a = s * (2 * B)) (hp : Pm f g a (a + 2 * B)) (hs : Srt S g a (a + 2 * B)) (hb : a + 2 * B ≤ n) : Pass S g B n (s + 1) := by
  refine ⟨fun t ht => ?_, fun t ht => ?_⟩
  · by_cases e : t = s
    · subst e
      rw [← ha]
      exact Ok.of_pm hs hp (fun k k1 k2 => h.own ha hb (Or.inr rfl) k k1 k2 (by omega))
    · have hm : (t + 1) * (2 * B) ≤ s * (2 * B) := Nat.mul_le_mul_right _ (by omega)
      rw [Nat.succ_mul] at hm
      exact (h.done t (by omega)).same (fun k k1 k2 => hp.out k (by omega))
  · have hm : (2 * s + 2) * B ≤ t * B := Nat.mul_le_mul_right _ (by omega)
    have e1 := dbl s B
    rw [Nat.add_mul] at hm
    exact (h.left t (by omega)).same (fun k k1 k2 => hp.out k (by omega))
theorem Pass.last {S : Nat → Nat → Prop} {f g : Nat → Nat} {B n s a : Nat} (h : Pass S f B n s) (ha : a = s * (2 * B)) (han : a ≤ n) (hb : n < a + 2 * B) (hp : Pm f g a n) (hs : Srt S g a n) : Tiles S g (2 * B) n := fun t => by
  by_cases e : t < s
  · have hm : (t + 1) * (2 * B) ≤ s * (2 * B) := Nat.mul_le_mul_right _ (by omega)
    rw [Nat.succ_mul] at hm
    rw [Nat.min_eq_left (by omega)]
    exact (h.done t (by omega)).same (fun k k1 k2 => hp.out k (by omega))
  · by_cases e2 : t = s
    · subst e2
      rw [← ha, Nat.min_eq_right (by omega)]
      exact Ok.of_pm hs hp (fun k k1 k2 => h.own ha (Nat.le_refl _) (Or.inl rfl) k k1 k2 (by omega))
    · have hm : (s + 1) * (2 * B) ≤ t * (2 * B) := Nat.mul_le_mul_right _ (by omega)
      rw [Nat.succ_mul] at hm
      exact Ok.nil _ _ _ _ (by omega)
theorem Pass.short {S : Nat → Nat → Prop} {f : Nat → Nat} {B n s a : Nat} (h : Pass S f B n s) (ha : a = s * (2 * B)) (han : a ≤ n) (hb : n ≤ a + B) (hB : 0 < B) : Tiles S f (2 * B) n := by
  have h1 := (h.here ha).1
  rw [Nat.min_eq_right hb] at h1
  exact h.last ha han (by omega) (Pm.refl _ _ _) h1.srt
theorem Tiles.all {S : Nat → Nat → Prop} {f : Nat → Nat} {B n : Nat} (h : Tiles S f B n) (hb : n ≤ B) : Srt S f 0 n := by
  have h1 := h 0
  rw [Nat.zero_mul, Nat.zero_add, Nat.min_eq_right hb] at h1
  exact h1.srt
end Go.Proofs.YtcdajbfoneifaaaDoor
