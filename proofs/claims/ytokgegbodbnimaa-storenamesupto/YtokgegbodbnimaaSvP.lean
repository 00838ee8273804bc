import Derived.Test.YtokgegbodbnimaaSvA
import Derived.Test.YtokgegbodbnimaaRows
import Derived.Deep.Strs
import Derived.WalkKit
import Derived.ProofKit
import Derived.OpenShut
import Derived.ChangeOld
import Derived.SizedLaws
import Derived.ChangeSlices
import Derived.WideShapes
namespace Go.Proofs.Ytokgegbodbnimaa
open Go.ChangeShapes Go.WideShapes Go.ChangeAt Go.RowKit

theorem own : ownKnob Try.prog.godebug = none := by kernel_rfl
theorem laidOut : laidOutB Try.prog = true := by kernel_rfl
theorem plain_a {w : World} {a : Addr} {v : Value} (h : w.cell? a = some v) : a = ⟨a.block, a.off, none⟩ ∧ a.block < w.heap.size := by
  have hs := World.cell?_spot h
  have hb := World.block_lt_of_cell? _ _ h
  obtain ⟨b, o, sp⟩ := a
  have e : sp = none := hs
  subst e
  exact ⟨rfl, hb⟩
theorem add_zero' (a : Addr) : a.add 0 = a := by unfold Addr.add; simp
theorem add_plain' (b o i : Nat) : (⟨b, o, none⟩ : Addr).add i = ⟨b, o + i, none⟩ := by unfold Addr.add; split <;> simp_all
theorem mem_all {H : Type} {e : TypeId} {n : Nat} {d : DataW H} : ∀ l : List (DataW H), d ∈ l → n ∈ d.weights Try.prog e → n ∈ DataW.weightsAll Try.prog e l
  | [], h, _ => by cases h
  | x :: r, h, hn => by
    rw [DataW.weightsAll, List.mem_append]
    rcases List.mem_cons.1 h with rfl | h
    · exact .inl hn
    · exact .inr (mem_all r h hn)
/-- A SLICE THAT CAME IN, OPENED. -/
theorem open_vals {H : Type} {enc : TypeId × Value → H} {w : World} {base : Nat} {spare : Nat → Bool} {held : Bool} {fuel : Nat} {v : Value} {x : DataW H × List MemPlace} {t e : TypeId}
    (ht : Try.prog.underlying t = some (.slice e)) (hc : Try.prog.cellsOf e = 1) (h : DataW.trod enc Try.prog w base spare held fuel t [v] = some x) :
    ∃ (n c m : Nat) (pa : Option Addr) (V : Nat → Value) (D : Nat → DataW H), v = .slice pa n c ∧ Rv w pa n V ∧ (∀ i, i < n → ∃ p, DataW.trod enc Try.prog w base spare held m e [V i] = some (D i, p)) ∧
      (0 < n → ∃ z, n ≤ z ∧ z * Try.prog.bytesOf e ∈ x.1.weights Try.prog t) ∧ ∀ i, i < n → ∀ k, k ∈ (D i).weights Try.prog e → k ∈ x.1.weights Try.prog t := by
  rcases Go.Deep.open_slice1 ht hc h with ⟨h1, rfl⟩ | ⟨a, len, cap, m, n, V, D, Pl, h1, hb, hl, hm, hmm, rfl, hx⟩
  · obtain rfl : v = .slice none 0 0 := by simpa using h1
    exact ⟨0, 0, 0, none, fun _ => .slice none 0 0, fun _ => .nil, rfl, fun h => absurd h (Nat.not_lt_zero _), fun i hi => absurd hi (Nat.not_lt_zero _), fun h => absurd h (Nat.not_lt_zero _), fun i hi => absurd hi (Nat.not_lt_zero _)⟩
  · obtain rfl : v = .slice (some a) len cap := by simpa using h1
    have hlm : len ≤ m := by rw [hmm]; split <;> omega
    refine ⟨len, cap, n, some a, V, D, rfl, fun h0 => ?_, fun i hi => ⟨Pl i, (hx i (by omega)).2⟩, fun h0 => ⟨((List.range len).map D).length + ((List.range (m - len)).map fun j => D (len + j)).length, ?_, ?_⟩, fun i hi k hk => ?_⟩
    · have h4 := (hx 0 (by omega)).1
      rw [add_zero'] at h4
      obtain ⟨e1, e2⟩ := plain_a h4
      refine ⟨a.block, a.off, by rw [← e1], e2, fun i hi => ?_⟩
      have h5 := (hx i (by omega)).1
      rw [e1, add_plain'] at h5
      exact h5
    · simp
    · unfold DataW.weights
      rw [ht]
      exact List.mem_cons_self
    · unfold DataW.weights
      rw [ht]
      refine List.mem_cons_of_mem _ (List.mem_append_left _ (mem_all _ ?_ hk))
      exact List.mem_map.2 ⟨i, List.mem_range.2 hi, rfl⟩
end Go.Proofs.Ytokgegbodbnimaa
