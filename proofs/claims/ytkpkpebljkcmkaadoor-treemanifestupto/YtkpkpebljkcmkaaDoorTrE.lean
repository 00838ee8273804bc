import Derived.Test.YtkpkpebljkcmkaaDoorTrD
namespace Go.Proofs.YtkpkpebljkcmkaaDoor
open Go.RowKit

theorem results_tmp4 {fn : Func} {t u v x : Tmp} (h : fn.results = #[.tmp t, .tmp u, .tmp v, .tmp x]) (tmps : Array Value) (P : Program) (w : World) :
    (results fn tmps).run P w = .ok (.tuple #[tmps.getD t undef, tmps.getD u undef, tmps.getD v undef, tmps.getD x undef]) w := by
  simp [results, h]
theorem hp_take (c d : UInt8) (l : List UInt8) : Lib.hasPrefix l [c, d] = decide (l.take 2 = [c, d]) := by
  unfold Lib.hasPrefix
  match l with
  | [] => simp [List.isPrefixOf]
  | [x] => simp [List.isPrefixOf]
  | x :: y :: r =>
    simp [List.isPrefixOf, eq_comm]
    rfl
theorem trim_take (c d : UInt8) (l : List UInt8) (h : l.take 2 = [c, d]) : Lib.trimPrefix l [c, d] = l.drop 2 := by
  unfold Lib.trimPrefix
  rw [hp_take, if_pos (by simp [h])]
  rfl
theorem prs_tree (s : ByteArray) (h : s.data.toList.take 2 = [116, 47]) (hk : okP (ba (s.data.toList.drop 2)) = true) : prs s = (ba (s.data.toList.drop 2), 0, 0, 1) := by
  unfold prs
  rw [if_pos ⟨h, hk⟩]
theorem prs_rest (s : ByteArray) (h : ¬ (s.data.toList.take 2 = [116, 47] ∧ okP (ba (s.data.toList.drop 2)) = true)) : prs s = (⟨#[]⟩, psA s.data.toList, psB s.data.toList, if psO s.data.toList = true then 2 else 0) := by
  unfold prs psA psB psO
  rw [if_neg h]
  cases pst s.data.toList with
  | none => rfl
  | some p => rfl
theorem ba_le (s : ByteArray) (k : Nat) : (ba (s.data.toList.drop k)).size ≤ s.size := by
  rw [ba_size, List.length_drop, size_list]
  omega
theorem psO_no {l : List UInt8} (h : psO l = false) : psA l = 0 ∧ psB l = 0 := by
  unfold psO at h
  unfold psA psB
  cases e : pst l with
  | none => exact ⟨rfl, rfl⟩
  | some p => rw [e] at h; cases h

end Go.Proofs.YtkpkpebljkcmkaaDoor
