import Derived.Test.YtjflnpcpnoccjaaGrC
namespace Go.Proofs.Ytjflnpcpnoccjaa
open Go.RowKit

/-- IS IT A NODE? IS THE GRAPH RIGHT? -/
def nd (N : Nat) (x : Int) : Bool := decide (0 ≤ x) && decide (x < (N : Int))
theorem nd_iff (N : Nat) (x : Int) : nd N x = true ↔ 0 ≤ x ∧ x < (N : Int) := by simp [nd]
def rgt (N : Nat) (ln : Nat → Nat) (L : Nat → Nat → Int) : Bool := bAll N fun u => bAll (ln u) fun i => nd N (L u i)
theorem rgt_at {N : Nat} {ln : Nat → Nat} {L : Nat → Nat → Int} (h : rgt N ln L = true) {u i : Nat} (hu : u < N) (hi : i < ln u) : ∃ v : Nat, v < N ∧ L u i = (v : Int) := by
  have := (bAll_iff _ _).1 ((bAll_iff _ _).1 h u hu) i hi
  rw [nd_iff] at this
  exact ⟨(L u i).toNat, by omega, by omega⟩
/-- DOES IT STAND THERE? -/
def ebB (n : Nat) (f : Nat → Int) (v : Int) : Bool := !bAll n fun i => !(f i == v)
theorem ebB_iff (n : Nat) (f : Nat → Int) (v : Int) : ebB n f v = true ↔ ∃ i, i < n ∧ f i = v := by
  unfold ebB
  cases h : bAll n fun i => !(f i == v) with
  | true =>
    rw [bAll_iff] at h
    constructor
    · intro h2; cases h2
    · rintro ⟨i, hi, e⟩
      have := h i hi
      simp [e] at this
  | false =>
    refine ⟨fun _ => ?_, fun _ => rfl⟩
    apply Classical.byContradiction
    intro h2
    have : (bAll n fun i => !(f i == v)) = true := (bAll_iff _ _).2 fun k hk => by
      cases e : f k == v with
      | false => rfl
      | true => exact absurd ⟨k, hk, by simpa using e⟩ h2
    rw [this] at h
    cases h
theorem ebB_no {n : Nat} {f : Nat → Int} {v : Int} (h : ∀ i, i < n → f i ≠ v) : ebB n f v = false := by
  cases e : ebB n f v with
  | false => rfl
  | true =>
    obtain ⟨i, hi, q⟩ := (ebB_iff _ _ _).1 e
    exact absurd q (h i hi)
set_option maxHeartbeats 2000000 in
theorem areNodes_any (N q : Nat) (f : Nat → Int) (na pa : Option Addr) (nc c : Nat) (w : World) (_hN : N ≤ 140737488355328) (hq : q ≤ 140737488355328) (h : Ri w pa q f) :
    Calls Try.prog 44 #[.slice na N nc, .slice pa q c] w fun x w' => x = .returned (.bool (bAll q fun k => nd N (f k))) ∧ w' = w := by
  have HR := hide h
  clear h
  go_enter Try.func44, Try.ntmps44
  go_wp2
  go_loop [6, 9] (fun _ i => ∃ k : Nat, k ≤ q ∧ i = .int .i64 k ∧ Hid (∀ j, j < k → nd N (f j) = true)) (fun _ i => q - (intOf i).toNat)
  case atStart => exact ⟨0, Nat.zero_le _, rfl, hide fun j h => absurd h (Nat.not_lt_zero _)⟩
  case round =>
    obtain ⟨k, hk, rfl, HA⟩ := hrel
    by_cases hlt : k < q
    · obtain ⟨b, o, rfl, hbw, hc⟩ := (unhide HR).at hlt
      unfold iv at hc
      cases hy : nd N (f k) with
      | true =>
        have HA2 := hide (show ∀ j, j < k + 1 → nd N (f j) = true from fun j hj => by
          by_cases e : j = k
          · subst e; exact hy
          · exact unhide HA j (by omega))
        have HZ := (nd_iff _ _).1 hy
        clear hy
        generalize f k = l at *
        obtain ⟨z0, z2⟩ := HZ
        go_wp2
        all_goals first | (exfalso; omega) | skip
        go_round
        case rel => exact ⟨k + 1, by omega, by go_num, HA2⟩
        case measure => simp [intOf]; omega
      | false =>
        have HY := hide hy
        have HZ : ¬ (0 ≤ f k ∧ f k < (N : Int)) := fun e => by rw [(nd_iff _ _).2 e] at hy; cases hy
        clear hy
        have HB := hide (show (bAll q fun k => nd N (f k)) = false from bAll_no hlt (unhide HY))
        clear HY
        generalize f k = l at *
        go_wp2
        all_goals first | (exfalso; omega) | skip
        all_goals go_ret
        all_goals exact ⟨ret_b (unhide HB).symm, rfl⟩
    · have HB := hide (show (bAll q fun k => nd N (f k)) = true from (bAll_iff _ _).2 fun j hj => unhide HA j (by omega))
      go_wp2
      go_ret
      exact ⟨ret_b (unhide HB).symm, rfl⟩
set_option maxHeartbeats 2000000 in
theorem isRight_any (N : Nat) (ln : Nat → Nat) (L : Nat → Nat → Int) (pa : Option Addr) (c : Nat) (w : World) (hN : N ≤ 140737488355328) (hm : ∀ k, k < N → ln k ≤ 140737488355328) (h : Rr w pa N ln L) :
    Calls Try.prog 43 #[.slice pa N c] w fun x w' => x = .returned (.bool (rgt N ln L)) ∧ w' = w := by
  have HR := hide h
  have c1 := hide (fun k (hk : k < N) na nc pa c w (h : Ri w pa (ln k) (L k)) => areNodes_any N (ln k) (L k) na pa nc c w hN (hm k hk) h)
  clear h hm
  go_enter Try.func43, Try.ntmps43
  go_wp2
  go_loop [4, 7] (fun _ i => ∃ k : Nat, k ≤ N ∧ i = .int .i64 k ∧ Hid (∀ j, j < k → (bAll (ln j) fun i => nd N (L j i)) = true)) (fun _ i => N - (intOf i).toNat)
  case atStart => exact ⟨0, Nat.zero_le _, rfl, hide fun j h => absurd h (Nat.not_lt_zero _)⟩
  case round =>
    obtain ⟨k, hk, rfl, HA⟩ := hrel
    by_cases hlt : k < N
    · obtain ⟨b, o, ca, cc, rfl, hc, hri⟩ := (unhide HR).at hlt
      have c2 := hide (fun na nc => unhide c1 k hlt na nc ca cc w hri)
      clear hri
      have HL := hide (show k < N from hlt)
      cases hy : (bAll (ln k) fun i => nd N (L k i)) with
      | true =>
        have HA2 := hide (show ∀ j, j < k + 1 → (bAll (ln j) fun i => nd N (L j i)) = true from fun j hj => by
          by_cases e : j = k
          · subst e; exact hy
          · exact unhide HA j (by omega))
        rw [hy] at c2
        clear hy
        generalize ln k = l at *
        go_wp2_with (go_at_call 44; refine (unhide c2 _ _).mono ?_; rintro x w2 ⟨rfl, rfl⟩)
        go_round
        case rel => exact ⟨k + 1, by omega, by go_num, HA2⟩
        case measure => simp [intOf]; omega
      | false =>
        have HB := hide (show rgt N ln L = false from bAll_no hlt hy)
        rw [hy] at c2
        clear hy
        go_wp2_with (go_at_call 44; refine (unhide c2 _ _).mono ?_; rintro x w2 ⟨rfl, rfl⟩)
        go_ret
        exact ⟨ret_b (unhide HB).symm, rfl⟩
    · have HB := hide (show rgt N ln L = true from (bAll_iff _ _).2 fun j hj => unhide HA j (by omega))
      go_wp2
      go_ret
      exact ⟨ret_b (unhide HB).symm, rfl⟩
set_option maxHeartbeats 2000000 in
theorem index_any (n : Nat) (f : Nat → Int) (v : Int) (pa : Option Addr) (c : Nat) (w : World) (hn : n ≤ 140737488355328) (h : Ri w pa n f) :
    Calls Try.prog 62 #[.slice pa n c, .int .i64 v] w fun x w' => (∃ r : Int, x = .returned (.int .i64 r) ∧ decide (0 ≤ r) = ebB n f v) ∧ w' = w := by
  have HR := hide h
  clear h
  go_enter Try.func62, Try.ntmps62
  go_wp2
  go_loop [5, 8] (fun _ i => ∃ k : Nat, k ≤ n ∧ i = .int .i64 k ∧ Hid (∀ j, j < k → f j ≠ v)) (fun _ i => n - (intOf i).toNat)
  case atStart => exact ⟨0, Nat.zero_le _, rfl, hide fun j h => absurd h (Nat.not_lt_zero _)⟩
  case round =>
    obtain ⟨k, hk, rfl, HA⟩ := hrel
    by_cases hlt : k < n
    · obtain ⟨b, o, rfl, hbw, hc⟩ := (unhide HR).at hlt
      unfold iv at hc
      by_cases hy : f k = v
      · have HB := hide (show ebB n f v = true from (ebB_iff _ _ _).2 ⟨k, hlt, hy⟩)
        have hz : (v == f k) = true := by simp [hy]
        have HY := hide hy
        clear hy
        generalize f k = l at *
        go_wp2
        go_ret
        exact ⟨⟨_, rfl, by rw [unhide HB]; simp⟩, rfl⟩
      · have HA2 := hide (show ∀ j, j < k + 1 → f j ≠ v from fun j hj => by
          by_cases e : j = k
          · subst e; exact hy
          · exact unhide HA j (by omega))
        have hz : (v == f k) = false := by
          cases e : (v == f k) with
          | false => rfl
          | true => exact absurd (by simpa using e : v = f k).symm hy
        clear hy
        generalize f k = l at *
        go_wp2
        go_round
        case rel => exact ⟨k + 1, by omega, by go_num, HA2⟩
        case measure => simp [intOf]; omega
    · have HB := hide (show ebB n f v = false from ebB_no fun i hi => unhide HA i (by omega))
      go_wp2
      go_ret
      exact ⟨⟨_, rfl, by rw [unhide HB]; rfl⟩, rfl⟩
theorem contains_any (n : Nat) (f : Nat → Int) (v : Int) (pa : Option Addr) (c : Nat) (w : World) (hn : n ≤ 140737488355328) (h : Ri w pa n f) :
    Calls Try.prog 49 #[.slice pa n c, .int .i64 v] w fun x w' => x = .returned (.bool (ebB n f v)) ∧ w' = w := by
  have c1 := hide (index_any n f v pa c w hn h)
  clear h
  go_enter Try.func49, Try.ntmps49
  go_wp2_with (go_at_call 62; refine (unhide c1).mono ?_; rintro x w2 ⟨⟨r, rfl, hr⟩, hw2⟩; rw [hw2]; clear hw2 w2; have HR := hide hr; clear hr)
  go_ret
  exact ⟨ret_b (unhide HR), rfl⟩
set_option maxHeartbeats 2000000 in
theorem redge_any (N : Nat) (ln : Nat → Nat) (L : Nat → Nat → Int) (u : Nat) (v : Int) (pa : Option Addr) (c : Nat) (w : World) (hu : u < N) (_hN : N ≤ 140737488355328) (hm : ln u ≤ 140737488355328) (h : Rr w pa N ln L) :
    Calls Try.prog 52 #[.slice pa N c, .int .i64 (u : Int), .int .i64 v] w fun x w' => x = .returned (.bool (ebB (ln u) (L u) v)) ∧ w' = w := by
  obtain ⟨b, o, ca, cc, rfl, hcu, hri⟩ := h.at hu
  have HR := hide hri
  have hu2 : (u : Int) < (N : Int) := by omega
  clear h hri
  generalize hg : ln u = n at *
  generalize L u = f at *
  clear hg
  go_enter Try.func52, Try.ntmps52
  go_wp2
  go_loop [7] (fun i => ∃ k : Nat, k ≤ n ∧ i = .int .i64 k ∧ Hid (∀ j, j < k → f j ≠ v)) (fun i => n - (intOf i).toNat)
  case atStart => exact ⟨0, Nat.zero_le _, rfl, hide fun j h => absurd h (Nat.not_lt_zero _)⟩
  case round =>
    obtain ⟨k, hk, rfl, HA⟩ := hrel
    by_cases hlt : k < n
    · obtain ⟨b2, o2, rfl, hbw, hc⟩ := (unhide HR).at hlt
      unfold iv at hc
      by_cases hy : f k = v
      · have HB := hide (show ebB n f v = true from (ebB_iff _ _ _).2 ⟨k, hlt, hy⟩)
        have hz : (f k == v) = true := by simp [hy]
        clear hy
        generalize f k = l at *
        go_wp2
        go_ret
        exact ⟨ret_b (unhide HB).symm, rfl⟩
      · have HA2 := hide (show ∀ j, j < k + 1 → f j ≠ v from fun j hj => by
          by_cases e : j = k
          · subst e; exact hy
          · exact unhide HA j (by omega))
        have hz : (f k == v) = false := by simpa using hy
        clear hy
        generalize f k = l at *
        go_wp2
        go_round
        case rel => exact ⟨k + 1, by omega, by go_num, HA2⟩
        case measure => simp [intOf]; omega
    · have HB := hide (show ebB n f v = false from ebB_no fun i hi => unhide HA i (by omega))
      go_wp2
      go_ret
      exact ⟨ret_b (unhide HB).symm, rfl⟩
set_option maxHeartbeats 2000000 in
theorem rRight_any (N : Nat) (ln : Nat → Nat) (L : Nat → Nat → Int) (pa : Option Addr) (c : Nat) (w : World) (hN : N ≤ 140737488355328) (hm : ∀ k, k < N → ln k ≤ 140737488355328) (h : Rr w pa N ln L) :
    Calls Try.prog 46 #[.slice pa N c] w fun x w' => x = .returned (.bool (rgt N ln L)) ∧ w' = w := by
  have HR := hide h
  have HM := hide hm
  clear h hm
  go_enter Try.func46, Try.ntmps46
  go_wp2
  go_loop [3, 4] (fun i _ => ∃ k : Nat, k ≤ N ∧ i = .int .i64 k ∧ Hid (∀ j, j < k → (bAll (ln j) fun i => nd N (L j i)) = true)) (fun i _ => N - (intOf i).toNat)
  case atStart => exact ⟨0, Nat.zero_le _, rfl, hide fun j h => absurd h (Nat.not_lt_zero _)⟩
  case round =>
    obtain ⟨k, hk, rfl, HA⟩ := hrel
    by_cases hlt : k < N
    · obtain ⟨b, o, ca, cc, rfl, hc, hri⟩ := (unhide HR).at hlt
      have hm := unhide HM k hlt
      have HRI := hide hri
      clear hri
      go_wp2
      go_loop [4] (fun i => ∃ t : Nat, t ≤ ln k ∧ i = .int .i64 t ∧ Hid (∀ j, j < t → nd N (L k j) = true)) (fun i => ln k - (intOf i).toNat)
      case atStart => exact ⟨0, Nat.zero_le _, rfl, hide fun j h => absurd h (Nat.not_lt_zero _)⟩
      case round =>
        obtain ⟨t, ht, rfl, HT⟩ := hrel
        by_cases hl2 : t < ln k
        · obtain ⟨b2, o2, rfl, hbw, hc2⟩ := (unhide HRI).at hl2
          unfold iv at hc2
          cases hy : nd N (L k t) with
          | true =>
            have HT2 := hide (show ∀ j, j < t + 1 → nd N (L k j) = true from fun j hj => by
              by_cases e : j = t
              · subst e; exact hy
              · exact unhide HT j (by omega))
            have HZ := (nd_iff _ _).1 hy
            clear hy
            generalize L k t = l at *
            obtain ⟨z0, z2⟩ := HZ
            go_wp2
            all_goals first | (exfalso; omega) | skip
            go_round
            case rel => exact ⟨t + 1, by omega, by go_num, HT2⟩
            case measure => simp [intOf]; omega
          | false =>
            have HZ : ¬ (0 ≤ L k t ∧ L k t < (N : Int)) := fun e => by rw [(nd_iff _ _).2 e] at hy; cases hy
            have HB := hide (show rgt N ln L = false from bAll_no hlt (bAll_no hl2 hy))
            clear hy
            generalize L k t = l at *
            go_wp2
            all_goals first | (exfalso; omega) | skip
            all_goals go_ret
            all_goals exact ⟨ret_b (unhide HB).symm, rfl⟩
        · have HA2 := hide (show ∀ j, j < k + 1 → (bAll (ln j) fun i => nd N (L j i)) = true from fun j hj => by
            by_cases e : j = k
            · subst e; exact (bAll_iff _ _).2 fun i hi => unhide HT i (by omega)
            · exact unhide HA j (by omega))
          go_wp2
          go_round
          case rel => exact ⟨k + 1, by omega, by go_num, HA2⟩
          case measure => simp [intOf]; omega
    · have HB := hide (show rgt N ln L = true from (bAll_iff _ _).2 fun j hj => unhide HA j (by omega))
      go_wp2
      go_ret
      exact ⟨ret_b (unhide HB).symm, rfl⟩
end Go.Proofs.Ytjflnpcpnoccjaa
