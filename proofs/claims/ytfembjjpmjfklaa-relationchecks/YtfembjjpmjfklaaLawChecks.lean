import Derived.Test.YtfembjjpmjfklaaChkAt
import Derived.Deep.RegionWith
namespace Go.Proofs.Ytfembjjpmjfklaa
open Go.RowKit

theorem num2_any (n : Int) (w : World) :
    Calls Try.prog 4 #[.int .i64 n] w fun x w' => x = .returned (.int .i64 n) ∧ w' = w := by
  go_enter Try.func4, Try.ntmps4
  go_wp2
  go_ret
  exact ⟨rfl, rfl⟩

theorem keep3 {b : Nat} {W W' : World} {v0 v1 v2 : Value} (hb : Below W.heap.size W W') (hq : b < W.heap.size) (k0 : W.cell? ⟨b, 0, none⟩ = some v0) (k1 : W.cell? ⟨b, 1, none⟩ = some v1) (k2 : W.cell? ⟨b, 2, none⟩ = some v2) :
    W'.cell? ⟨b, 0, none⟩ = some v0 ∧ W'.cell? ⟨b, 1, none⟩ = some v1 ∧ W'.cell? ⟨b, 2, none⟩ = some v2 ∧ b < W'.heap.size :=
  ⟨(hb.cell (p := ⟨b, 0, none⟩) hq).trans k0, (hb.cell (p := ⟨b, 1, none⟩) hq).trans k1, (hb.cell (p := ⟨b, 2, none⟩) hq).trans k2, Nat.lt_of_lt_of_le hq hb.size⟩

theorem new3 (w : World) (v0 v1 v2 : Value) (t : TypeId) : ∃ W, w.alloc (.cells #[v0, v1, v2] t) = W ∧ W.cell? ⟨w.heap.size, 0, none⟩ = some v0 ∧ W.cell? ⟨w.heap.size, 1, none⟩ = some v1 ∧ W.cell? ⟨w.heap.size, 2, none⟩ = some v2 ∧ w.heap.size < W.heap.size ∧ Below w.heap.size w W := by
  refine ⟨_, rfl, ?_, ?_, ?_, by simp, (Below.refl w.heap.size w).alloc (Nat.le_refl _) _⟩
  all_goals go_simp

set_option maxHeartbeats 2000000 in
theorem relationChecks_walk (s n : ByteArray) (op : Int) (v : ByteArray) (hs : s.size ≤ maxLen) (hn : n.size ≤ maxLen) (hv : v.size ≤ maxLen) (w : World) :
    Calls Try.prog 3 #[.string s, .agg #[.string n, .int .i64 op, .string v]] w fun x w' => x = .returned (.bool true) ∧ Below w.heap.size w w' := by
  have c1 := hide (fun w => CheckName_any s w hs)
  have c2 := hide (fun w => rCheckName_any s w hs)
  have c3 := hide (fun w => CheckA_any n op v hn hv w)
  have c4 := hide (fun w => rCheckA_any n op v hn hv w)
  clear hs hn hv
  go_enter Try.func3, Try.ntmps3
  go_wp2_with fail
  obtain ⟨W, hW, k0, k1, k2, q4, hB⟩ := new3 w (.string n) (.int .i64 op) (.string v) 23
  rw [hW]
  clear hW
  have hB4 := hide hB
  clear hB
  go_region_with (first | (go_at_call 4; refine (num2_any _ _).mono ?_; rintro x w' ⟨rfl, rfl⟩) | (go_at_call 5; refine (unhide c1 _).mono ?_; rintro x w' ⟨rfl, rfl⟩) | (go_at_call 6; refine (unhide c2 _).mono ?_; rintro x w' ⟨rfl, rfl⟩) | (go_at_call 7; refine (unhide c3 _).mono ?_; rintro x w5 ⟨rfl, hb5⟩; obtain ⟨g0, g1, g2, g3⟩ := keep3 hb5 (by simpa using q4) (by simpa using k0) (by simpa using k1) (by simpa using k2); have hb5' := hide hb5; clear hb5) | (go_at_call 8; refine (unhide c4 _).mono ?_; rintro x w6 ⟨rfl, hb6⟩; have hb6' := hide hb6; clear hb6))
  all_goals go_wp2
  all_goals go_ret
  all_goals exact ⟨rfl, ((unhide hB4).drew.trans ((unhide hb5').mono (by simp; omega))).trans ((unhide hb6').mono (by omega))⟩

end Go.Proofs.Ytfembjjpmjfklaa
