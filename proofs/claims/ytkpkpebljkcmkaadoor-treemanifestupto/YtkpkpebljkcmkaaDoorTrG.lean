import Derived.Test.YtkpkpebljkcmkaaDoorTrF
namespace Go.Proofs.YtkpkpebljkcmkaaDoor
open Go.RowKit

/-- The number that is told. -/
def nv (l : List UInt8) : Int := if cn l = true then (vl 0 l : Int) else 0
theorem nv_no {l : List UInt8} (h : ¬ cn l = true) (most : Nat) : nv l = 0 ∧ nb most l = false := by
  refine ⟨by unfold nv; rw [if_neg h], ?_⟩
  rw [Bool.not_eq_true] at h
  unfold nb
  rw [h]
  rfl
theorem nv_yes {l : List UInt8} (h : cn l = true) (most : Nat) : nv l = (vl 0 l : Int) ∧ nb most l = decide (vl 0 l ≤ most) := by
  refine ⟨by unfold nv; rw [if_pos h], ?_⟩
  unfold nb
  rw [h]
  rfl
theorem take_snoc (s : ByteArray) (k : Nat) (hk : k < s.size) : s.data.toList.take (k + 1) = s.data.toList.take k ++ [s[k]] := by
  rw [List.take_succ_eq_append_getElem (by rw [size_list]; exact hk)]
  rfl
theorem vl_snoc (s : ByteArray) (k : Nat) (hk : k < s.size) : vl 0 (s.data.toList.take (k + 1)) = vl 0 (s.data.toList.take k) * 10 + (s[k].toNat - 48) := by
  rw [take_snoc s k hk, vl_app]
  rfl
theorem all_snoc (s : ByteArray) (k : Nat) (hk : k < s.size) (h : (s.data.toList.take k).all dgt = true) (hd : 48 ≤ s[k].toNat ∧ s[k].toNat ≤ 57) : (s.data.toList.take (k + 1)).all dgt = true := by
  rw [take_snoc s k hk, List.all_append, h]
  simp only [List.all_cons, List.all_nil, Bool.and_true, Bool.true_and]
  exact (dgt_iff _).2 hd
theorem all_at (s : ByteArray) (k : Nat) (hk : k < s.size) (h : ¬ (48 ≤ s[k].toNat ∧ s[k].toNat ≤ 57)) : ¬ cn s.data.toList = true := by
  intro e
  have := List.all_eq_true.1 ((cn_iff _).1 e).2.2.2 s[k] (List.getElem_mem (l := s.data.toList) (by rw [size_list]; exact hk))
  exact h ((dgt_iff _).1 this)
theorem head_at (s : ByteArray) (h : 0 < s.size) : s.data.toList.head? = some s[0] := by
  rw [List.head?_eq_getElem?, List.getElem?_eq_getElem (by rw [size_list]; exact h)]
  rfl
theorem vl_lim (l : List UInt8) (k : Nat) (h : (l.take k).all dgt = true) (hl : k ≤ 15) : vl 0 (l.take k) < 1000000000000000 := by
  have := vl_lt (l.take k) 0 h
  have hp : 10 ^ (l.take k).length ≤ 10 ^ 15 := Nat.pow_le_pow_right (by decide) (by rw [List.length_take]; omega)
  omega
end Go.Proofs.YtkpkpebljkcmkaaDoor
