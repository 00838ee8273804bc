import Derived.Test.YtfnbclehlikbkaaRef4
import Derived.Deep.RegionWith
namespace Go.Proofs.Ytfnbclehlikbkaa
open Go.RowKit

theorem eqv_refl (v : Ver) : eqv v v = true := by
  unfold eqv; simp

theorem keep5 {b : Nat} {W W' : World} {v0 v1 v2 v3 v4 : Value} (hb : Below W.heap.size W W') (hq : b < W.heap.size) (k0 : W.cell? ⟨b, 0, none⟩ = some v0) (k1 : W.cell? ⟨b, 1, none⟩ = some v1) (k2 : W.cell? ⟨b, 2, none⟩ = some v2) (k3 : W.cell? ⟨b, 3, none⟩ = some v3) (k4 : W.cell? ⟨b, 4, none⟩ = some v4) :
    W'.cell? ⟨b, 0, none⟩ = some v0 ∧ W'.cell? ⟨b, 1, none⟩ = some v1 ∧ W'.cell? ⟨b, 2, none⟩ = some v2 ∧ W'.cell? ⟨b, 3, none⟩ = some v3 ∧ W'.cell? ⟨b, 4, none⟩ = some v4 ∧ b < W'.heap.size :=
  ⟨(hb.cell (p := ⟨b, 0, none⟩) hq).trans k0, (hb.cell (p := ⟨b, 1, none⟩) hq).trans k1, (hb.cell (p := ⟨b, 2, none⟩) hq).trans k2, (hb.cell (p := ⟨b, 3, none⟩) hq).trans k3, (hb.cell (p := ⟨b, 4, none⟩) hq).trans k4, Nat.lt_of_lt_of_le hq hb.size⟩

theorem num_any (n : Int) (w : World) :
    Calls Try.prog 11 #[.int .i64 n] w fun x w' => x = .returned (.int .i64 n) ∧ w' = w := by
  go_enter Try.func11, Try.ntmps11
  go_wp2
  go_ret
  exact ⟨rfl, rfl⟩

set_option maxHeartbeats 4000000 in
theorem debverParses_walk (s e u r : ByteArray) (c d : Bool) (hs : s.size ≤ maxLen) (hsum : e.size + u.size + r.size + 2 ≤ 9223372036854775807) (w : World) :
    Calls Try.prog 4 #[.string s, .agg #[.string e, .string u, .string r, .bool c, .bool d]] w fun x w' => x = .returned (.bool true) ∧ Below w.heap.size w w' := by
  rcases hp : parse s with ⟨⟨E, U, R, C, D⟩, n⟩
  rcases ht : text e u r c d with ⟨t, m⟩
  have c1 := hide (fun w => Parse_any s hs E U R C D n hp w)
  have c2 := hide (fun w => rParse_any s hs E U R C D n hp w)
  have c3 := hide (fun w => Text_any e u r c d hsum t m ht w)
  have c4 := hide (fun w => rText_any e u r c d hsum t m ht w)
  have c5 := hide (fun w => Check_any e u r c d hsum t m ht w)
  have c6 := hide (fun w => rCheck_any e u r c d hsum t m ht w)
  have ce : ∀ w, (binOp .neq 29 (.agg #[.string E, .string U, .string R, .bool C, .bool D]) (.agg #[.string E, .string U, .string R, .bool C, .bool D])).run Try.prog w = .ok (.bool false) w := by
    intro w
    rw [cmp_neq, eqv_refl]; rfl
  clear hp ht hs hsum
  go_enter Try.func4, Try.ntmps4
  go_wp2_with fail
  refine (unhide c1 _).mono ?_
  rintro x w1 ⟨rfl, hb1⟩
  have hz1 := hb1.size
  have hb1' := hide hb1
  obtain ⟨hc1, hf1⟩ := bcell hb1
  clear hb1
  simp at hz1
  go_wp2_with fail
  refine (unhide c2 _).mono ?_
  rintro x w2 ⟨rfl, hb2⟩
  have hz2 := hb2.size
  have hb2' := hide hb2
  obtain ⟨hc2, hf2⟩ := bcell hb2
  clear hb2
  simp at hz2
  have q1 : w.heap.size < w1.heap.size := by omega
  have q1' : w.heap.size < w1.heap.size + 1 := by omega
  have q2 : w.heap.size < w2.heap.size := by omega
  have q2' : w1.heap.size < w2.heap.size := by omega
  go_wp2_with (go_at_call 11; refine (num_any _ _).mono ?_; rintro x w' ⟨rfl, rfl⟩)
  refine (unhide c3 _).mono ?_
  rintro x w3 ⟨rfl, hb3⟩
  have hz3 := hb3.size
  have hb3' := hide hb3
  obtain ⟨hc3, hf3⟩ := bcell hb3
  clear hb3
  simp at hz3
  have q3 : w.heap.size < w2.heap.size + 1 := by omega
  go_wp2_with fail
  refine (unhide c4 _).mono ?_
  rintro x w4 ⟨rfl, hb4⟩
  have hz4 := hb4.size
  have hB : Below w.heap.size w w4 := ((((((((Below.refl _ w).alloc (Nat.le_refl _) _).trans ((unhide hb1').mono (by simp))).alloc (by omega) _).trans ((unhide hb2').mono (by simp; omega))).alloc (by omega) _).trans ((unhide hb3').mono (by simp; omega))).trans (hb4.mono (by omega)))
  have hB4 := hide hB
  have k0 : w4.cell? ⟨w.heap.size, 0, none⟩ = some (.string e) := by rw [(bcell hb4).1 _ _ (by omega)]; go_simp
  have k1 : w4.cell? ⟨w.heap.size, 1, none⟩ = some (.string u) := by rw [(bcell hb4).1 _ _ (by omega)]; go_simp
  have k2 : w4.cell? ⟨w.heap.size, 2, none⟩ = some (.string r) := by rw [(bcell hb4).1 _ _ (by omega)]; go_simp
  have k3 : w4.cell? ⟨w.heap.size, 3, none⟩ = some (.bool c) := by rw [(bcell hb4).1 _ _ (by omega)]; go_simp
  have k4 : w4.cell? ⟨w.heap.size, 4, none⟩ = some (.bool d) := by rw [(bcell hb4).1 _ _ (by omega)]; go_simp
  have q4 : w.heap.size < w4.heap.size := by omega
  clear hb4 hB hc1 hf1 hc2 hf2 hc3 hf3 hb1' hb2' hb3' q1 q1' q2 q2' q3 hz1 hz2 hz3 hz4 c1 c2 c3 c4 ce
  go_wp2_with fail
  go_region_with (first | (go_at_call 11; refine (num_any _ _).mono ?_; rintro x w' ⟨rfl, rfl⟩) | (go_at_call 14; refine (unhide c5 _).mono ?_; rintro x w5 ⟨rfl, hb5⟩; obtain ⟨g0, g1, g2, g3, g4, g5⟩ := keep5 hb5 (by simpa using q4) (by simpa using k0) (by simpa using k1) (by simpa using k2) (by simpa using k3) (by simpa using k4); have hb5' := hide hb5; clear hb5) | (go_at_call 15; refine (unhide c6 _).mono ?_; rintro x w6 ⟨rfl, hb6⟩; have hb6' := hide hb6; clear hb6))
  all_goals go_wp2
  all_goals go_ret
  all_goals exact ⟨rfl, ((unhide hB4).drew.trans ((unhide hb5').mono (by simp; omega))).trans ((unhide hb6').mono (by omega))⟩

end Go.Proofs.Ytfnbclehlikbkaa
