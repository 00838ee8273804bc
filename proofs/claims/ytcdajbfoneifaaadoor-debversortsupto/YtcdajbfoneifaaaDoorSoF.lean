import Derived.Test.YtcdajbfoneifaaaDoorSoC
import Derived.Deep.CutRange
namespace Go.Proofs.YtcdajbfoneifaaaDoor
open Go.RowKit

theorem rotate_at (w0 : World) (b o n cp : Nat) (X M E : Int) (x m e : Nat) (fv : Value) (f : Nat → Nat) (w : World) (eX : X = x) (eM : M = m) (eE : E = e) (hn : n < 70368744177664) (hx : x < m) (hm : m < e) (he : e ≤ n) (hS : Sw w0 b o n f w) :
    Calls Tryd.prog 53 #[.slice (some ⟨b, o, none⟩) n cp, .int .i64 X, .int .i64 M, .int .i64 E, fv] w fun r w' => r = .returned (.tuple #[]) ∧ Sw w0 b o n (rot f x m e) w' := by
  subst eX; subst eM; subst eE
  exact rotate_any w0 b o n cp x m e fv f w hn hx hm he hS
/-- WHAT symMerge DOES TO RANGES OF AT MOST N. -/
def Sym (w0 : World) (b o n cp V : Nat) (pv : Value) (S : Nat → Nat → Prop) (N : Nat) : Prop :=
  ∀ (X M Z : Int) (x m z : Nat) (f : Nat → Nat) (w : World), X = x → M = m → Z = z → z - x ≤ N → x < m → m < z → z ≤ n → (∀ k, k < n → f k < V) → Srt S f x m → Srt S f m z → Lss (· < ·) f x m m z → Sw w0 b o n f w →
    Calls Tryd.prog 37 #[.slice (some ⟨b, o, none⟩) n cp, .int .i64 X, .int .i64 M, .int .i64 Z, .func (.func 16) #[] #[pv]] w fun e w' => e = .returned (.tuple #[]) ∧ ∃ g, Sw w0 b o n g w' ∧ Pm f g x z ∧ Srt S g x z
theorem vals_pm {f g : Nat → Nat} {a b n V : Nat} (h : Pm f g a b) (hb : b ≤ n) (hV : ∀ k, k < n → f k < V) : ∀ k, k < n → g k < V := fun k hk => by
  by_cases e : a ≤ k ∧ k < b
  · exact h.all (P := fun v => v < V) (fun k _ h2 => hV k (by omega)) k e.1 e.2
  · rw [h.out k (by omega)]; exact hV k hk
theorem Lss.pmL {S : Nat → Nat → Prop} {f g : Nat → Nat} {a m b : Nat} (h : Lss S f a m m b) (hp : Pm f g a m) : Lss S g a m m b := fun i j h1 h2 h3 h4 => by
  rw [hp.out j (Or.inr h3)]
  exact hp.all (P := fun v => S v (f j)) (fun k g1 g2 => h k j g1 g2 h3 h4) i h1 h2
theorem Lss.pmR {S : Nat → Nat → Prop} {f g : Nat → Nat} {a m b : Nat} (h : Lss S f a m m b) (hp : Pm f g m b) : Lss S g a m m b := fun i j h1 h2 h3 h4 => by
  rw [hp.out i (Or.inl h2)]
  exact hp.all (P := fun v => S (f i) v) (fun k g1 g2 => h i k h1 h2 g1 g2) j h3 h4
end Go.Proofs.YtcdajbfoneifaaaDoor
