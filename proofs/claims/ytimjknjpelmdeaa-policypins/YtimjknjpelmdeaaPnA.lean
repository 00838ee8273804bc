import Derived.Test.YtimjknjpelmdeaaChkAt
import Derived.Deep.RegionWith
namespace Go.Proofs.Ytimjknjpelmdeaa
open Go.RowKit

theorem num8_any (n : Int) (w : World) :
    Calls Try.prog 4 #[.int .i64 n] w fun x w' => x = .returned (.int .i64 n) ∧ w' = w := by
  go_enter Try.func4, Try.ntmps4
  go_wp2
  go_ret
  exact ⟨rfl, rfl⟩

theorem atomOf_any (n : ByteArray) (op : Int) (v : ByteArray) (pr : Int) (w : World) :
    Calls Try.prog 7 #[.agg #[.string n, .int .i64 op, .string v, .int .i64 pr]] w fun x w' => x = .returned (.agg #[.string n, .int .i64 op, .string v]) ∧ Below w.heap.size w w' := by
  go_enter Try.func7, Try.ntmps7
  go_wp2
  exact bodyPost_ret (v := .agg #[.string n, .int .i64 op, .string v]) (by simp [results, Try.results7, go_sem]) rfl ⟨rfl, ((Below.refl _ _).alloc (Nat.le_refl _) _).alloc (by simp) _⟩

def star : ByteArray := ⟨#[42]⟩
def anyN : ByteArray := ⟨#[97, 110, 121]⟩
def pinN (n : ByteArray) : ByteArray := if n = star then anyN else n
theorem pinN_size (n : ByteArray) (h : n.size ≤ maxLen) : (pinN n).size ≤ maxLen := by
  unfold pinN
  split
  · decide
  · exact h
def ckPin (n : ByteArray) (op : Int) (v : ByteArray) (pr : Int) : Int := if ckAtom (pinN n) op v ≠ 0 ∨ pr < -10000 ∨ pr > 10000 then 80 else 0

theorem new4 (w : World) (v0 v1 v2 v3 : Value) (t : TypeId) : ∃ W, w.alloc (.cells #[v0, v1, v2, v3] t) = W ∧ W.cell? ⟨w.heap.size, 0, none⟩ = some v0 ∧ W.cell? ⟨w.heap.size, 1, none⟩ = some v1 ∧ W.cell? ⟨w.heap.size, 2, none⟩ = some v2 ∧ W.cell? ⟨w.heap.size, 3, none⟩ = some v3 ∧ w.heap.size < W.heap.size ∧ Below w.heap.size w W := by
  refine ⟨_, rfl, ?_, ?_, ?_, ?_, by simp, (Below.refl w.heap.size w).alloc (Nat.le_refl _) _⟩
  all_goals go_simp

theorem keep4 {b : Nat} {W W' : World} {v0 v1 v2 v3 : Value} (hb : Below W.heap.size W W') (hq : b < W.heap.size) (k0 : W.cell? ⟨b, 0, none⟩ = some v0) (k1 : W.cell? ⟨b, 1, none⟩ = some v1) (k2 : W.cell? ⟨b, 2, none⟩ = some v2) (k3 : W.cell? ⟨b, 3, none⟩ = some v3) :
    W'.cell? ⟨b, 0, none⟩ = some v0 ∧ W'.cell? ⟨b, 1, none⟩ = some v1 ∧ W'.cell? ⟨b, 2, none⟩ = some v2 ∧ W'.cell? ⟨b, 3, none⟩ = some v3 ∧ b < W'.heap.size :=
  ⟨(hb.cell (p := ⟨b, 0, none⟩) hq).trans k0, (hb.cell (p := ⟨b, 1, none⟩) hq).trans k1, (hb.cell (p := ⟨b, 2, none⟩) hq).trans k2, (hb.cell (p := ⟨b, 3, none⟩) hq).trans k3, Nat.lt_of_lt_of_le hq hb.size⟩

theorem star_of {n : ByteArray} (h : n.toList = [42]) : n = star := by
  rw [Lib.toList_data] at h
  obtain ⟨⟨l⟩⟩ := n
  simp at h
  subst h
  rfl
theorem pinN_yes {n : ByteArray} (h : n.toList = [42]) : pinN n = ⟨#[97, 110, 121]⟩ := by
  rw [pinN, if_pos (star_of h)]; rfl
theorem pinN_no {n : ByteArray} (h : ¬ n.toList = [42]) : pinN n = n := by
  rw [pinN, if_neg]
  rintro rfl
  exact h (by rw [Lib.toList_data]; rfl)

set_option maxHeartbeats 2000000 in
theorem rCheckPin_any (n : ByteArray) (op : Int) (v : ByteArray) (pr : Int) (hn : n.size ≤ maxLen) (hv : v.size ≤ maxLen) (w : World) :
    Calls Try.prog 6 #[.agg #[.string n, .int .i64 op, .string v, .int .i64 pr]] w fun x w' => x = .returned (.int .i64 (ckPin n op v pr)) ∧ Below w.heap.size w w' := by
  have c1 := hide (fun m (hm : m.size ≤ maxLen) w => rCheckA_any m op v hm hv w)
  have HN := hide hn
  clear hn hv
  obtain ⟨R, hR⟩ : ∃ R, R = ckPin n op v pr := ⟨_, rfl⟩
  rw [← hR]
  have hp := hide (show R = if ckAtom (pinN n) op v ≠ 0 ∨ pr < -10000 ∨ pr > 10000 then 80 else 0 from hR)
  clear hR
  have HB := hide ((Below.refl w.heap.size w).alloc (Nat.le_refl _) (.cells #[.string n, .int .i64 op, .string v, .int .i64 pr] 23))
  go_enter Try.func6, Try.ntmps6
  go_wp2_with (go_at_call 9; refine (unhide c1 _ (by first | exact unhide HN | decide) _).mono ?_; rintro x w6 ⟨rfl, hb6⟩; have k3 : w6.cell? ⟨w.heap.size, 3, none⟩ = some (.int .i64 pr) := (hb6.cell (p := ⟨w.heap.size, 3, none⟩) (by simp)).trans (by go_simp); have hb6' := hide ((unhide HB).trans (hb6.mono (by simp))); clear hb6)
  all_goals go_ret
  all_goals refine ⟨ret_i64 ?_, unhide hb6'⟩
  all_goals rw [unhide hp]
  all_goals (first | rw [pinN_yes (by simpa using ‹(n.toList == [42]) = true›)] | rw [pinN_no (by simpa using ‹(n.toList == [42]) = false›)])
  all_goals (split <;> first | rfl | (exfalso; omega))

set_option maxHeartbeats 2000000 in
theorem CheckPin_any (n : ByteArray) (op : Int) (v : ByteArray) (pr : Int) (hn : n.size ≤ maxLen) (hv : v.size ≤ maxLen) (w : World) :
    Calls Try.prog 5 #[.agg #[.string n, .int .i64 op, .string v, .int .i64 pr]] w fun x w' => x = .returned (.int .i64 (ckPin n op v pr)) ∧ Below w.heap.size w w' := by
  have c1 := hide (fun m (hm : m.size ≤ maxLen) w => CheckA_any m op v hm hv w)
  have c2 := hide (fun w => atomOf_any n op v pr w)
  have HN := hide hn
  clear hn hv
  obtain ⟨R, hR⟩ : ∃ R, R = ckPin n op v pr := ⟨_, rfl⟩
  rw [← hR]
  have hp := hide (show R = if ckAtom (pinN n) op v ≠ 0 ∨ pr < -10000 ∨ pr > 10000 then 80 else 0 from hR)
  clear hR
  have HB := hide ((Below.refl w.heap.size w).alloc (Nat.le_refl _) (.cells #[.string n, .int .i64 op, .string v, .int .i64 pr] 23))
  go_enter Try.func5, Try.ntmps5
  go_wp2_with (first | (go_at_call 7; refine (unhide c2 _).mono ?_; rintro x w1 ⟨rfl, hb1⟩; have k0 : w1.cell? ⟨w.heap.size, 0, none⟩ = some (.string n) := (hb1.cell (p := ⟨w.heap.size, 0, none⟩) (by simp)).trans (by go_simp); have k3 : w1.cell? ⟨w.heap.size, 3, none⟩ = some (.int .i64 pr) := (hb1.cell (p := ⟨w.heap.size, 3, none⟩) (by simp)).trans (by go_simp); have hz1 : w.heap.size < w1.heap.size := (by have := hb1.size; simp at this; omega); have hb1' := hide ((unhide HB).trans (hb1.mono (by simp))); clear hb1) | (go_at_call 8; refine (unhide c1 _ (by first | exact unhide HN | decide) _).mono ?_; rintro x w6 ⟨rfl, hb6⟩; have k6 : w6.cell? ⟨w.heap.size, 3, none⟩ = some (.int .i64 pr) := (hb6.cell (p := ⟨w.heap.size, 3, none⟩) (by simp; omega)).trans ((Below.refl w1.heap.size w1 |>.alloc (Nat.le_refl _) _).cell (p := ⟨w.heap.size, 3, none⟩) hz1 |>.trans k3); have hb6' := hide (((unhide hb1').alloc (by omega) _).trans (hb6.mono (by simp; omega))); clear hb6 k0 k3))
  all_goals go_ret
  all_goals refine ⟨ret_i64 ?_, unhide hb6'⟩
  all_goals rw [unhide hp]
  all_goals (first | rw [pinN_yes (by simpa using ‹(n.toList == [42]) = true›)] | rw [pinN_no (by simpa using ‹(n.toList == [42]) = false›)])
  all_goals (split <;> first | rfl | (exfalso; omega))

set_option maxHeartbeats 2000000 in
theorem policyPins_walk (n : ByteArray) (op : Int) (v : ByteArray) (pr : Int) (hn : n.size ≤ maxLen) (hv : v.size ≤ maxLen) (w : World) :
    Calls Try.prog 3 #[.agg #[.string n, .int .i64 op, .string v, .int .i64 pr]] w fun x w' => x = .returned (.bool true) ∧ Below w.heap.size w w' := by
  have c1 := hide (fun w => CheckPin_any n op v pr hn hv w)
  have c2 := hide (fun w => rCheckPin_any n op v pr hn hv w)
  clear hn hv
  go_enter Try.func3, Try.ntmps3
  go_wp2_with fail
  obtain ⟨W, hW, k0, k1, k2, k3, q4, hB⟩ := new4 w (.string n) (.int .i64 op) (.string v) (.int .i64 pr) 23
  rw [hW]
  clear hW
  have hB4 := hide hB
  clear hB
  go_region_with (first | (go_at_call 4; refine (num8_any _ _).mono ?_; rintro x w' ⟨rfl, rfl⟩) | (go_at_call 5; refine (unhide c1 _).mono ?_; rintro x w5 ⟨rfl, hb5⟩; obtain ⟨g0, g1, g2, g3, g4⟩ := keep4 hb5 (by simpa using q4) (by simpa using k0) (by simpa using k1) (by simpa using k2) (by simpa using k3); have hb5' := hide hb5; clear hb5) | (go_at_call 6; refine (unhide c2 _).mono ?_; rintro x w6 ⟨rfl, hb6⟩; have hb6' := hide hb6; clear hb6))
  all_goals go_wp2
  all_goals go_ret
  all_goals exact ⟨rfl, ((unhide hB4).drew.trans ((unhide hb5').mono (by simp; omega))).trans ((unhide hb6').mono (by omega))⟩

end Go.Proofs.Ytimjknjpelmdeaa
