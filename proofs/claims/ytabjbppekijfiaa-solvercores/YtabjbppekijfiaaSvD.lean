import Derived.Test.YtabjbppekijfiaaSvC
namespace Go.Proofs.Ytabjbppekijfiaa
open Go.RowKit

def lits (n : Int) (N : Nat) (ln : Nat → Nat) (L : Nat → Nat → Int) : Bool := bAll N fun k => bAll (ln k) fun j => okL n (L k j)
theorem lits_at {n : Int} {N : Nat} {ln : Nat → Nat} {L : Nat → Nat → Int} (h : lits n N ln L = true) : ∀ k, k < N → ∀ j, j < ln k → okL n (L k j) = true := fun k hk j hj => (bAll_iff _ _).1 ((bAll_iff _ _).1 h k hk) j hj
/-- WHAT Holds ANSWERS. -/
def hdA (n : Int) (vn N : Nat) (ln : Nat → Nat) (L : Nat → Nat → Int) (v : Nat → Bool) : Int := if okN n = true ∧ (vn : Int) = n ∧ lits n N ln L = true then firstN N (fun k => clT v (ln k) (L k)) else 0
def hdE (n : Int) (vn N : Nat) (ln : Nat → Nat) (L : Nat → Nat → Int) : Int := if okN n = true ∧ (vn : Int) = n then (if lits n N ln L = true then 0 else 90) else 1
set_option maxHeartbeats 2000000 in
theorem Holds_any (n : Int) (vn N : Nat) (ln : Nat → Nat) (L : Nat → Nat → Int) (v : Nat → Bool) (pa va : Option Addr) (c vc : Nat) (w : World) (hvn : vn ≤ 140737488355328) (hN : N ≤ 140737488355328) (hm : ∀ k, k < N → ln k ≤ 140737488355328) (h : Rr w pa N ln L) (hv : Rt w va vn v) :
    Calls Try.prog 23 #[.int .i64 n, .slice pa N c, .slice va vn vc] w fun x w' => x = .returned (.tuple #[.int .i64 (hdA n vn N ln L v), .int .i64 (hdE n vn N ln L)]) ∧ Below w.heap.size w w' := by
  have c1 := hide (isNumber_any n)
  by_cases h1 : okN n = true
  · rw [h1] at c1
    by_cases h2 : (vn : Int) = n
    · subst h2
      have c2 := hide (areLiterals_any vn h1 N ln L pa c w hN hm h)
      have h3 := (okN_iff _).1 h1
      cases hl : lits vn N ln L with
      | true =>
        rw [show (bAll N fun k => bAll (ln k) fun j => okL vn (L k j)) = true from hl] at c2
        have c3 := hide (firstNotTrue_any vn (by omega) N ln L v pa va c vc w hN hm h hv (lits_at hl))
        have eA : hdA vn vn N ln L v = firstN N (fun k => clT v (ln k) (L k)) := if_pos ⟨h1, rfl, hl⟩
        have eE : hdE vn vn N ln L = 0 := by unfold hdE; rw [if_pos ⟨h1, rfl⟩, if_pos hl]
        rw [eA, eE]
        clear eA eE hl h hv hm h1 h3
        go_enter Try.func23, Try.ntmps23
        go_wp2_with (first | (go_at_call 36; refine (unhide c1 _).mono ?_; rintro x w2 ⟨rfl, rfl⟩) | (go_at_call 37; refine (unhide c2).mono ?_; rintro x w2 ⟨rfl, rfl⟩) | (go_at_call 40; refine (unhide c3).mono ?_; rintro x w3 ⟨rfl, hb⟩))
        go_ret2
        exact ⟨rfl, hb⟩
      | false =>
        rw [show (bAll N fun k => bAll (ln k) fun j => okL vn (L k j)) = false from hl] at c2
        have eA : hdA vn vn N ln L v = 0 := if_neg (by rw [hl]; simp)
        have eE : hdE vn vn N ln L = 90 := by unfold hdE; rw [if_pos ⟨h1, rfl⟩, if_neg (by rw [hl]; simp)]
        rw [eA, eE]
        clear eA eE hl h hv hm h1 h3
        go_enter Try.func23, Try.ntmps23
        go_wp2_with (first | (go_at_call 36; refine (unhide c1 _).mono ?_; rintro x w2 ⟨rfl, rfl⟩) | (go_at_call 37; refine (unhide c2).mono ?_; rintro x w2 ⟨rfl, rfl⟩))
        go_ret2
        exact ⟨rfl, Below.refl _ _⟩
    · have eA : hdA n vn N ln L v = 0 := if_neg fun e => h2 e.2.1
      have eE : hdE n vn N ln L = 1 := if_neg fun e => h2 e.2
      rw [eA, eE]
      clear eA eE h hv hm h1
      have h3 : ((vn : Int) != n) = true := by simp [h2]
      go_enter Try.func23, Try.ntmps23
      go_wp2_with (go_at_call 36; refine (unhide c1 _).mono ?_; rintro x w2 ⟨rfl, rfl⟩)
      go_ret2
      exact ⟨rfl, Below.refl _ _⟩
  · have h1' : okN n = false := by simpa using h1
    rw [h1'] at c1
    have eA : hdA n vn N ln L v = 0 := if_neg fun e => h1 e.1
    have eE : hdE n vn N ln L = 1 := if_neg fun e => h1 e.1
    rw [eA, eE]
    clear eA eE h hv hm h1 h1'
    go_enter Try.func23, Try.ntmps23
    go_wp2_with (go_at_call 36; refine (unhide c1 _).mono ?_; rintro x w2 ⟨rfl, rfl⟩)
    go_ret2
    exact ⟨rfl, Below.refl _ _⟩
set_option maxHeartbeats 2000000 in
theorem literals_any (n : Int) (hn : okN n = true) (m : Nat) (f : Nat → Int) (pa : Option Addr) (c : Nat) (w : World) (hm : m ≤ 140737488355328) (h : Ri w pa m f) :
    Calls Try.prog 50 #[.int .i64 n, .slice pa m c] w fun x w' => x = .returned (.bool (bAll m fun k => okL n (f k))) ∧ w' = w := by
  have HR := hide h
  have c1 := hide (fun l w => right_any n l hn w)
  clear h hn
  go_enter Try.func50, Try.ntmps50
  go_wp2
  go_loop [5] (fun i => ∃ k : Nat, k ≤ m ∧ i = .int .i64 k ∧ Hid (∀ j, j < k → okL n (f j) = true)) (fun i => m - (intOf i).toNat)
  case atStart => exact ⟨0, Nat.zero_le _, rfl, hide fun j h => absurd h (Nat.not_lt_zero _)⟩
  case round =>
    obtain ⟨k, hk, rfl, HA⟩ := hrel
    by_cases hlt : k < m
    · obtain ⟨b, o, rfl, hbw, hc⟩ := (unhide HR).at hlt
      unfold iv at hc
      have c2 := hide (unhide c1 (f k))
      cases hy : okL n (f k) with
      | true =>
        have HA2 := hide (show ∀ j, j < k + 1 → okL n (f j) = true from fun j hj => by
          by_cases e : j = k
          · subst e; exact hy
          · exact unhide HA j (by omega))
        rw [hy] at c2
        clear hy
        generalize f k = l at *
        go_wp2_with (go_at_call 64; refine (unhide c2 _).mono ?_; rintro x w2 ⟨rfl, rfl⟩)
        go_round
        case rel => exact ⟨k + 1, by omega, by go_num, HA2⟩
        case measure => simp [intOf]; omega
      | false =>
        have HB := hide (show (bAll m fun k => okL n (f k)) = false from bAll_no hlt hy)
        rw [hy] at c2
        clear hy
        generalize f k = l at *
        go_wp2_with (go_at_call 64; refine (unhide c2 _).mono ?_; rintro x w2 ⟨rfl, rfl⟩)
        go_ret
        exact ⟨ret_b (unhide HB).symm, rfl⟩
    · have HB := hide (show (bAll m fun k => okL n (f k)) = true from (bAll_iff _ _).2 fun j hj => unhide HA j (by omega))
      go_wp2
      go_ret
      exact ⟨ret_b (unhide HB).symm, rfl⟩
set_option maxHeartbeats 2000000 in
theorem refused_any (n : Int) (N : Nat) (ln : Nat → Nat) (L : Nat → Nat → Int) (m : Nat) (f : Nat → Int) (B : Int) (hB : 0 ≤ B ∧ B ≤ 1152921504606846976) (pa qa : Option Addr) (c qc : Nat) (w : World) (hN : N ≤ 140737488355328) (hm : ∀ k, k < N → ln k ≤ 140737488355328) (hmm : m ≤ 140737488355328) (h : Rr w pa N ln L) (hq : Ri w qa m f) :
    Calls Try.prog 41 #[.int .i64 n, .slice pa N c, .slice qa m qc, .int .i64 B] w fun x w' => x = .returned (.int .i64 (if okN n = true then (if lits n N ln L = true ∧ (bAll m fun k => okL n (f k)) = true then 0 else 90) else 1)) ∧ w' = w := by
  obtain ⟨hb0, hb1⟩ := hB
  by_cases h1 : okN n = true
  · rw [if_pos h1]
    have c1 := hide (fun k (hk : k < N) pa c w (h : Ri w pa (ln k) (L k)) => literals_any n h1 (ln k) (L k) pa c w (hm k hk) h)
    have c2 := hide (literals_any n h1 m f qa qc w hmm hq)
    have HR := hide h
    obtain ⟨h2, h3⟩ := (okN_iff _).1 h1
    clear h hm h1 hq
    obtain ⟨R, hR⟩ : ∃ R, R = (if lits n N ln L = true ∧ (bAll m fun k => okL n (f k)) = true then (0 : Int) else 90) := ⟨_, rfl⟩
    rw [← hR]
    have HRR := hide hR
    clear hR
    go_enter Try.func41, Try.ntmps41
    go_wp2
    all_goals first | (exfalso; omega) | skip
    go_loop [9, 10] (fun i _ => ∃ k : Nat, k ≤ N ∧ i = .int .i64 k ∧ Hid (∀ j, j < k → (bAll (ln j) fun i => okL n (L j i)) = true)) (fun i _ => N - (intOf i).toNat)
    case atStart => exact ⟨0, Nat.zero_le _, rfl, hide fun j h => absurd h (Nat.not_lt_zero _)⟩
    case round =>
      obtain ⟨k, hk, rfl, HA⟩ := hrel
      by_cases hlt : k < N
      · obtain ⟨b, o, ca, cc, rfl, hc, hri⟩ := (unhide HR).at hlt
        have c3 := hide (unhide c1 k hlt ca cc w hri)
        clear hri
        cases hy : (bAll (ln k) fun i => okL n (L k i)) with
        | true =>
          have HA2 := hide (show ∀ j, j < k + 1 → (bAll (ln j) fun i => okL n (L j i)) = true from fun j hj => by
            by_cases e : j = k
            · subst e; exact hy
            · exact unhide HA j (by omega))
          rw [hy] at c3
          clear hy
          generalize ln k = l at *
          go_wp2_with (go_at_call 50; refine (unhide c3).mono ?_; rintro x w2 ⟨rfl, rfl⟩)
          go_round
          case rel => exact ⟨k + 1, by omega, by go_num, HA2⟩
          case measure => simp [intOf]; omega
        | false =>
          have HB : Hid (R = 90) := by
            rw [unhide HRR]
            exact if_neg fun e => by rw [show lits n N ln L = false from bAll_no (p := fun k => bAll (ln k) fun j => okL n (L k j)) hlt hy] at e; simp at e
          rw [hy] at c3
          clear hy
          generalize ln k = l at *
          go_wp2_with (go_at_call 50; refine (unhide c3).mono ?_; rintro x w2 ⟨rfl, rfl⟩)
          go_ret
          exact ⟨ret_i (unhide HB).symm, rfl⟩
      · have HL : lits n N ln L = true := (bAll_iff _ _).2 fun j hj => unhide HA j (by omega)
        cases hy : (bAll m fun k => okL n (f k)) with
        | true =>
          have HB : Hid (R = 0) := by rw [unhide HRR]; exact if_pos ⟨HL, hy⟩
          rw [hy] at c2
          clear hy HL
          go_wp2_with (go_at_call 50; refine (unhide c2).mono ?_; rintro x w2 ⟨rfl, rfl⟩)
          go_ret
          exact ⟨ret_i (unhide HB).symm, rfl⟩
        | false =>
          have HB : Hid (R = 90) := by rw [unhide HRR]; exact if_neg fun e => by rw [hy] at e; simp at e
          rw [hy] at c2
          clear hy HL
          go_wp2_with (go_at_call 50; refine (unhide c2).mono ?_; rintro x w2 ⟨rfl, rfl⟩)
          go_ret
          exact ⟨ret_i (unhide HB).symm, rfl⟩
  · rw [if_neg h1]
    have h2 : ¬ (0 ≤ n ∧ n ≤ 131071) := fun e => h1 ((okN_iff _).2 e)
    clear h hm h1 hq
    by_cases h3 : n < 0
    · go_enter Try.func41, Try.ntmps41
      go_wp2
      go_ret
      exact ⟨rfl, rfl⟩
    · have h4 : n > 131071 := by omega
      go_enter Try.func41, Try.ntmps41
      go_wp2
      go_ret
      exact ⟨rfl, rfl⟩
set_option maxHeartbeats 2000000 in
theorem rholds_any (n : Nat) (hn : n ≤ 131071) (m : Nat) (f : Nat → Int) (v : Nat → Bool) (pa va : Option Addr) (c vc : Nat) (w : World) (hm : m ≤ 140737488355328) (h : Ri w pa m f) (hv : Rt w va n v) (ho : ∀ j, j < m → okL n (f j) = true) :
    Calls Try.prog 42 #[.slice pa m c, .slice va n vc] w fun x w' => x = .returned (.bool (clT v m f)) ∧ Below w.heap.size w w' := by
  have HR := hide h
  have HV := hide hv
  have HO := hide ho
  clear h hv ho
  go_enter Try.func42, Try.ntmps42
  go_wp2
  go_loopw [5] (fun i wr => ∃ k d : Nat, k ≤ m ∧ i = .int .i64 k ∧ wr = w.drewN d ∧ Hid (∀ j, j < k → says v (f j) = false)) (fun i _ => m - (intOf i).toNat)
  case atStart => exact ⟨0, 0, Nat.zero_le _, rfl, rfl, hide fun j h => absurd h (Nat.not_lt_zero _)⟩
  case round =>
    obtain ⟨k, d, hk, rfl, rfl, HA⟩ := hrel
    by_cases hlt : k < m
    · obtain ⟨b, o, rfl, hb, hc⟩ := ((unhide HR).later (bl_drewN w d)).at hlt
      unfold iv at hc
      have hl := (okL_iff _ _).1 (unhide HO k hlt)
      obtain ⟨b3, o3, hva, hb3, hc3⟩ := ((unhide HV).later (bl_drewN w d)).at (k := (f k).natAbs - 1) (by omega)
      subst hva
      unfold bv at hc3
      obtain ⟨z1, z2, z3⟩ := hl
      have hsy : says v (f k) = (v ((f k).natAbs - 1) == decide (0 < f k)) := rfl
      have HYE2 := hide (fun h => clT_yes (v := v) (f := f) hlt h)
      have HA3 := hide (fun (h : says v (f k) = false) => show ∀ j, j < k + 1 → says v (f j) = false from fun j hj => by
        by_cases e : j = k
        · subst e; exact h
        · exact unhide HA j (by omega))
      rw [hsy] at HYE2 HA3
      clear hsy
      generalize v ((f k).natAbs - 1) = vb at *
      by_cases hpos : 0 < f k
      · obtain ⟨q, hq⟩ : ∃ q : Nat, f k = (q : Int) + 1 := ⟨(f k).natAbs - 1, by omega⟩
        have e1 : (f k).natAbs - 1 = q := by omega
        have e0 : (decide (0 < f k)) = true := by simpa using hpos
        rw [e1] at hc3
        rw [e0] at HYE2 HA3
        rw [hq] at hc
        have i2 : q < n := by omega
        have HQ := hide hq
        clear e1 e0 hq hpos z1 z2 z3
        cases vb
        · have HE := hide (unhide HA3 rfl)
          go_wp2
          go_roundw
          case rel => exact ⟨k + 1, _, by omega, by go_num, rfl, HE⟩
          case measure => simp [intOf]; omega
        · have HE := hide (unhide HYE2 rfl)
          go_wp2
          go_ret
          exact ⟨ret_b (unhide HE).symm, bl_drewN _ _⟩
      · obtain ⟨q, hq⟩ : ∃ q : Nat, f k = -((q : Int) + 1) := ⟨(f k).natAbs - 1, by omega⟩
        have e1 : (f k).natAbs - 1 = q := by omega
        have e0 : (decide (0 < f k)) = false := by simpa using hpos
        rw [e1] at hc3
        rw [e0] at HYE2 HA3
        rw [hq] at hc
        have i2 : q < n := by omega
        have HQ := hide hq
        clear e1 e0 hq hpos z1 z2 z3
        cases vb
        · have HE := hide (unhide HYE2 rfl)
          go_wp2
          go_ret
          exact ⟨ret_b (unhide HE).symm, bl_drewN _ _⟩
        · have HE := hide (unhide HA3 rfl)
          go_wp2
          go_roundw
          case rel => exact ⟨k + 1, _, by omega, by go_num, rfl, HE⟩
          case measure => simp [intOf]; omega
    · have HE := hide (clT_no (v := v) (m := m) (f := f) fun j hj => unhide HA j (by omega))
      go_wp2
      go_ret
      exact ⟨ret_b (unhide HE).symm, bl_drewN _ _⟩
end Go.Proofs.Ytabjbppekijfiaa
