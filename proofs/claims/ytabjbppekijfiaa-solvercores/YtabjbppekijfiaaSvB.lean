import Derived.Test.YtabjbppekijfiaaSvA
namespace Go.Proofs.Ytabjbppekijfiaa
open Go.RowKit

theorem ret_b {a b : Bool} (h : a = b) : Ending.returned (.bool a) = .returned (.bool b) := by rw [h]
theorem ret_i {a b : Int} (h : a = b) : Ending.returned (.int .i64 a) = .returned (.int .i64 b) := by rw [h]
theorem num_any (n : Int) (w : World) : Calls Try.prog 25 #[.int .i64 n] w fun x w' => x = .returned (.int .i64 n) ∧ w' = w := by
  go_enter Try.func25, Try.ntmps25
  go_wp2
  go_ret
  exact ⟨rfl, rfl⟩
/-- MAY THERE BE SO MANY VARIABLES? A LITERAL OF THEM? -/
def okN (n : Int) : Bool := decide (0 ≤ n) && decide (n ≤ 131071)
def okL (n l : Int) : Bool := decide (l ≠ 0) && decide (l ≤ n) && decide (-n ≤ l)
theorem okN_iff (n : Int) : okN n = true ↔ 0 ≤ n ∧ n ≤ 131071 := by simp [okN]
theorem okL_iff (n l : Int) : okL n l = true ↔ l ≠ 0 ∧ l ≤ n ∧ -n ≤ l := by simp [okL, and_assoc]
theorem b_eq {a b : Bool} (h : a = true ↔ b = true) : a = b := by cases a <;> cases b <;> simp_all
/-- ALL OF SOME. -/
def bAll (m : Nat) (p : Nat → Bool) : Bool := (List.range m).all p
theorem bAll_iff (m : Nat) (p : Nat → Bool) : bAll m p = true ↔ ∀ k, k < m → p k = true := by simp [bAll]
theorem bAll_no {m : Nat} {p : Nat → Bool} {k : Nat} (hk : k < m) (h : p k = false) : bAll m p = false := by
  cases e : bAll m p with
  | false => rfl
  | true => rw [(bAll_iff m p).1 e k hk] at h; cases h
theorem bAll_congr {m : Nat} {p q : Nat → Bool} (h : ∀ k, k < m → p k = q k) : bAll m p = bAll m q := b_eq (by
  rw [bAll_iff, bAll_iff]
  exact ⟨fun a k hk => by rw [← h k hk]; exact a k hk, fun a k hk => by rw [h k hk]; exact a k hk⟩)
theorem isNumber_any (n : Int) (w : World) : Calls Try.prog 36 #[.int .i64 n] w fun x w' => x = .returned (.bool (okN n)) ∧ w' = w := by
  go_enter Try.func36, Try.ntmps36
  go_wp2
  all_goals go_ret
  all_goals refine ⟨ret_b ?_, rfl⟩
  all_goals (apply b_eq; rw [okN_iff]; simp; try omega)
theorem variable_any (l : Int) (h1 : -131071 ≤ l) (h2 : l ≤ 131071) (w : World) : Calls Try.prog 49 #[.int .i64 l] w fun x w' => x = .returned (.int .i64 ((l.natAbs : Int) - 1)) ∧ w' = w := by
  go_enter Try.func49, Try.ntmps49
  go_wp2
  all_goals go_ret
  all_goals exact ⟨ret_i (by omega), rfl⟩
theorem right_any (n l : Int) (hn : okN n = true) (w : World) : Calls Try.prog 64 #[.int .i64 n, .int .i64 l] w fun x w' => x = .returned (.bool (okL n l)) ∧ w' = w := by
  rw [okN_iff] at hn
  obtain ⟨h0, h1⟩ := hn
  go_enter Try.func64, Try.ntmps64
  go_wp2
  all_goals go_ret
  all_goals refine ⟨ret_b ?_, rfl⟩
  all_goals (apply b_eq; rw [okL_iff]; simp; try omega)
set_option maxHeartbeats 2000000 in
theorem isClause_any (n : Int) (hn : okN n = true) (m : Nat) (f : Nat → Int) (pa : Option Addr) (c : Nat) (w : World) (hm : m ≤ 140737488355328) (h : Ri w pa m f) :
    Calls Try.prog 38 #[.int .i64 n, .slice pa m c] w fun x w' => x = .returned (.bool (bAll m fun k => okL n (f k))) ∧ w' = w := by
  rw [okN_iff] at hn
  obtain ⟨h0, h1⟩ := hn
  have HR := hide h
  clear h
  go_enter Try.func38, Try.ntmps38
  go_wp2
  go_loop [6, 9] (fun _ i => ∃ k : Nat, k ≤ m ∧ i = .int .i64 k ∧ Hid (∀ j, j < k → okL n (f j) = true)) (fun _ i => m - (intOf i).toNat)
  case atStart => exact ⟨0, Nat.zero_le _, rfl, hide fun j h => absurd h (Nat.not_lt_zero _)⟩
  case round =>
    obtain ⟨k, hk, rfl, HA⟩ := hrel
    by_cases hlt : k < m
    · obtain ⟨b, o, rfl, hbw, hc⟩ := (unhide HR).at hlt
      unfold iv at hc
      cases hy : okL n (f k) with
      | true =>
        have HA2 := hide (show ∀ j, j < k + 1 → okL n (f j) = true from fun j hj => by
          by_cases e : j = k
          · subst e; exact hy
          · exact unhide HA j (by omega))
        have HZ := (okL_iff _ _).1 hy
        clear hy
        generalize f k = l at *
        obtain ⟨z0, z2, z3⟩ := HZ
        have z1 : (l == 0) = false := by simpa using z0
        go_wp2
        all_goals first | (exfalso; simp_all; done) | skip
        go_round
        case rel => exact ⟨k + 1, by omega, by go_num, HA2⟩
        case measure => simp [intOf]; omega
      | false =>
        have HY := hide hy
        have HZ : ¬ (f k ≠ 0 ∧ f k ≤ n ∧ -n ≤ f k) := fun e => by rw [(okL_iff _ _).2 e] at hy; cases hy
        clear hy
        have HB := hide (show (bAll m fun k => okL n (f k)) = false from bAll_no hlt (unhide HY))
        clear HY
        generalize f k = l at *
        go_wp2
        all_goals first | (exfalso; omega) | skip
        all_goals go_ret
        all_goals exact ⟨ret_b (unhide HB).symm, rfl⟩
    · have HB := hide (show (bAll m fun k => okL n (f k)) = true from (bAll_iff _ _).2 fun j hj => unhide HA j (by omega))
      go_wp2
      go_ret
      exact ⟨ret_b (unhide HB).symm, rfl⟩
set_option maxHeartbeats 2000000 in
theorem areLiterals_any (n : Int) (hn : okN n = true) (N : Nat) (ln : Nat → Nat) (L : Nat → Nat → Int) (pa : Option Addr) (c : Nat) (w : World) (hN : N ≤ 140737488355328) (hm : ∀ k, k < N → ln k ≤ 140737488355328) (h : Rr w pa N ln L) :
    Calls Try.prog 37 #[.int .i64 n, .slice pa N c] w fun x w' => x = .returned (.bool (bAll N fun k => bAll (ln k) fun j => okL n (L k j))) ∧ w' = w := by
  have HR := hide h
  have c1 := hide (fun k (hk : k < N) pa c w (h : Ri w pa (ln k) (L k)) => isClause_any n hn (ln k) (L k) pa c w (hm k hk) h)
  clear h hm hn
  go_enter Try.func37, Try.ntmps37
  go_wp2
  go_loop [6, 9] (fun _ i => ∃ k : Nat, k ≤ N ∧ i = .int .i64 k ∧ Hid (∀ j, j < k → (bAll (ln j) fun i => okL n (L j i)) = true)) (fun _ i => N - (intOf i).toNat)
  case atStart => exact ⟨0, Nat.zero_le _, rfl, hide fun j h => absurd h (Nat.not_lt_zero _)⟩
  case round =>
    obtain ⟨k, hk, rfl, HA⟩ := hrel
    by_cases hlt : k < N
    · obtain ⟨b, o, ca, cc, rfl, hc, hri⟩ := (unhide HR).at hlt
      have c2 := hide (unhide c1 k hlt ca cc w hri)
      clear hri
      have HL := hide (show k < N from hlt)
      cases hy : (bAll (ln k) fun i => okL n (L k i)) with
      | true =>
        have HA2 := hide (show ∀ j, j < k + 1 → (bAll (ln j) fun i => okL n (L j i)) = true from fun j hj => by
          by_cases e : j = k
          · subst e; exact hy
          · exact unhide HA j (by omega))
        rw [hy] at c2
        clear hy
        generalize ln k = l at *
        go_wp2_with (go_at_call 38; refine (unhide c2).mono ?_; rintro x w2 ⟨rfl, rfl⟩)
        go_round
        case rel => exact ⟨k + 1, by omega, by go_num, HA2⟩
        case measure => simp [intOf]; omega
      | false =>
        have HB := hide (show (bAll N fun k => bAll (ln k) fun j => okL n (L k j)) = false from bAll_no hlt hy)
        rw [hy] at c2
        clear hy
        go_wp2_with (go_at_call 38; refine (unhide c2).mono ?_; rintro x w2 ⟨rfl, rfl⟩)
        go_ret
        exact ⟨ret_b (unhide HB).symm, rfl⟩
    · have HB := hide (show (bAll N fun k => bAll (ln k) fun j => okL n (L k j)) = true from (bAll_iff _ _).2 fun j hj => unhide HA j (by omega))
      go_wp2
      go_ret
      exact ⟨ret_b (unhide HB).symm, rfl⟩
end Go.Proofs.Ytabjbppekijfiaa
