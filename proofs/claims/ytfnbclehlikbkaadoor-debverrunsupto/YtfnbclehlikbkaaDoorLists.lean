import Derived.Test.YtfnbclehlikbkaaDoorWds
namespace Go.Proofs.YtfnbclehlikbkaaDoor
open Go.RowKit

/-- A SLICE THAT HOLDS THE FIRST N RUNS OF A PART. -/
def Sg (W : World) (v : Value) (s : ByteArray) (N : Nat) : Prop :=
  (v = .slice none 0 0 ∧ N = 0) ∨ ∃ g cap, v = .slice (some ⟨g, 0, none⟩) N cap ∧ g < W.heap.size ∧ ∀ i, i < N → W.cell? ⟨g, i, none⟩ = some (.string (runOf s i))

theorem Sg.later {W W' : World} {v : Value} {s : ByteArray} {N : Nat} (h : Sg W v s N) (hb : Below W.heap.size W W') : Sg W' v s N := by
  rcases h with h | ⟨g, cap, h1, h2, h3⟩
  · exact .inl h
  · exact .inr ⟨g, cap, h1, Nat.lt_of_lt_of_le h2 hb.size, fun i hi => (hb.cell (p := ⟨g, i, none⟩) h2).trans (h3 i hi)⟩

theorem Sg.of_owns {W : World} {base : Nat} {v : Value} {s : ByteArray} {N : Nat} (h : W.ownsRow base 9 1 v N (segL s N)) : Sg W v s N := by
  rcases h.2 with ⟨h0, h1⟩ | ⟨g, cap, cur, h0, hb, hg, _⟩
  · exact .inl ⟨h0, h1⟩
  · subst h0
    refine .inr ⟨g, cap, rfl, (Array.getElem?_eq_some_iff.1 hg).1, fun i hi => ?_⟩
    have := h.cells (g := g) rfl i (.string (runOf s i)) (by simp [segL, hi])
    by_cases e : i = 0
    · subst e; simpa [Addr.add] using this
    · simpa [Addr.add, e] using this

theorem runOf_past (s : ByteArray) (N i : Nat) (h : ia s N = s.size) (hi : N ≤ i) : runOf s i = nob :=
  ba_empty (runOf_end s i (ia_stays s N h i hi))

set_option maxHeartbeats 1000000 in
theorem at_any (v : Value) (s : ByteArray) (N : Nat) (hN : N ≤ 2097153) (hend : ia s N = s.size) (i : Nat) (w : World) (h : Sg w v s N) :
    Calls Tryd.prog 46 #[v, .int .i64 i] w fun e w' => e = .returned (.string (runOf s i)) ∧ w' = w := by
  rcases h with ⟨rfl, rfl⟩ | ⟨g, cap, rfl, hg, hc⟩
  · have HF := hide (runOf_past s 0 i hend (Nat.zero_le _))
    go_enter Tryd.func46, Tryd.ntmps46
    go_wp2
    go_ret
    exact ⟨ret_str' (unhide HF).symm, rfl⟩
  · by_cases hi : i < N
    · have hci := hc i hi
      clear hc
      go_enter Tryd.func46, Tryd.ntmps46
      go_wp2
      go_ret
      exact ⟨rfl, rfl⟩
    · have HF := hide (runOf_past s N i hend (by omega))
      clear hc
      go_enter Tryd.func46, Tryd.ntmps46
      go_wp2
      go_ret
      exact ⟨ret_str' (unhide HF).symm, rfl⟩

theorem odd_mod : ∀ k, odd k = decide (k % 2 = 1)
  | 0 => rfl
  | 1 => rfl
  | k + 2 => by
    have e : odd (k + 2) = !!odd k := rfl
    rw [e, odd_mod k, Bool.not_not]
    congr 1
    rw [Nat.add_mod_right]

theorem runOf_small (s : ByteArray) (hs : s.size ≤ 1048576) (i : Nat) : (runOf s i).size ≤ maxLen := Nat.le_trans (runOf_size s i) (by unfold maxLen; omega)

set_option maxHeartbeats 2000000 in
theorem lists_any (s t : ByteArray) (hs : s.size ≤ 1048576) (ht : t.size ≤ 1048576) (v u : Value) (N M : Nat) (hN : N ≤ 2097153) (hM : M ≤ 2097153) (eN : ia s N = s.size) (eM : ia t M = t.size) (w : World) (h1 : Sg w v s N) (h2 : Sg w u t M) :
    Calls Tryd.prog 24 #[v, u] w fun e w' => e = .returned (.int .i64 (ordPart s t)) ∧ w' = w := by
  have c1 := hide (fun i => at_any v s N hN eN i w h1)
  have c2 := hide (fun i => at_any u t M hM eM i w h2)
  have c3 := hide (fun i w => words_any (runOf s i) (runOf t i) (runOf_small s hs i) (runOf_small t ht i) w)
  have c4 := hide (fun i w => sums_any (runOf s i) (runOf t i) (runOf_small s hs i) (runOf_small t ht i) w)
  have hv : ∃ a c, v = .slice a N c := by
    rcases h1 with ⟨rfl, rfl⟩ | ⟨g, cap, rfl, _, _⟩
    · exact ⟨_, _, rfl⟩
    · exact ⟨_, _, rfl⟩
  have hu : ∃ a c, u = .slice a M c := by
    rcases h2 with ⟨rfl, rfl⟩ | ⟨g, cap, rfl, _, _⟩
    · exact ⟨_, _, rfl⟩
    · exact ⟨_, _, rfl⟩
  clear h1 h2
  obtain ⟨va, vc, rfl⟩ := hv
  obtain ⟨ua, uc, rfl⟩ := hu
  have hdone := hide (fun (k : Nat) (h : sq (cp s t) k = 0) (g1 : N ≤ k) (g2 : M ≤ k) => ordPart_done s t k (ia_stays s N eN k g1) (ia_stays t M eM k g2) h)
  have hstop := hide (fun (k : Nat) (h : sq (cp s t) k = 0) (x : Int) (hx : cp s t k = x) (hn : x ≠ 0) => show ordPart s t = x by
    have e : sq (cp s t) (k + 1) = x := by show (if sq (cp s t) k = 0 then _ else _) = _; rw [if_pos h, hx]
    rw [ordPart_stop s t (k + 1) (by rw [e]; exact hn), e])
  clear eN eM hs ht
  go_enter Tryd.func24, Tryd.ntmps24
  go_wp2
  go_loop [5, 6] (fun i _ => ∃ k : Nat, k ≤ max N M ∧ i = .int .i64 k ∧ Hid (sq (cp s t) k = 0)) (fun i _ => max N M - (intOf i).toNat)
  case atStart => exact ⟨0, Nat.zero_le _, rfl, rfl⟩
  case round =>
    obtain ⟨k, hk, rfl, hz⟩ := hrel
    have key : k < N ∨ (¬ k < N ∧ k < M) ∨ (¬ k < N ∧ ¬ k < M) := by omega
    rcases key with h1 | ⟨h1, h2⟩ | ⟨h1, h2⟩
    · have hm : k < max N M := by omega
      cases ho : odd k
      · have hp : (((k : Int) % 2) == 0) = true := by
          rw [odd_mod] at ho
          have : ¬ k % 2 = 1 := by simpa using ho
          simp
          omega
        have HC := hide (show cp s t k = ordWord (runOf s k) (runOf t k) by unfold cp; rw [ho]; rfl)
        clear ho
        by_cases hq : ordWord (runOf s k) (runOf t k) = 0
        · have hq2 : (ordWord (runOf s k) (runOf t k) != 0) = false := by simp [hq]
          have HX := hide (sq_miss (cp s t) k (unhide hz) ((unhide HC).trans hq))
          clear hq
          go_wp2_with fail
          refine (unhide c1 k).mono ?_
          rintro e w' ⟨rfl, rfl⟩
          go_wp2_with fail
          refine (unhide c2 k).mono ?_
          rintro e w' ⟨rfl, rfl⟩
          go_wp2_with fail
          refine (unhide c3 k _).mono ?_
          rintro e w' ⟨rfl, rfl⟩
          go_wp2_with fail
          go_round
          case rel => exact ⟨k + 1, by omega, by go_num, HX⟩
          case measure => simp [intOf]; omega
        · have hq2 : (ordWord (runOf s k) (runOf t k) != 0) = true := by simpa using hq
          have HX := hide (unhide hstop k (unhide hz) _ (unhide HC) hq)
          clear hq
          go_wp2_with fail
          refine (unhide c1 k).mono ?_
          rintro e w' ⟨rfl, rfl⟩
          go_wp2_with fail
          refine (unhide c2 k).mono ?_
          rintro e w' ⟨rfl, rfl⟩
          go_wp2_with fail
          refine (unhide c3 k _).mono ?_
          rintro e w' ⟨rfl, rfl⟩
          go_wp2_with fail
          go_ret
          exact ⟨ret_int64 (unhide HX).symm, rfl⟩
      · have hp : (((k : Int) % 2) == 0) = false := by
          rw [odd_mod] at ho
          have : k % 2 = 1 := by simpa using ho
          simp
          omega
        have HC := hide (show cp s t k = ordNum (runOf s k) (runOf t k) by unfold cp; rw [ho]; rfl)
        clear ho
        by_cases hq : ordNum (runOf s k) (runOf t k) = 0
        · have hq2 : (ordNum (runOf s k) (runOf t k) != 0) = false := by simp [hq]
          have HX := hide (sq_miss (cp s t) k (unhide hz) ((unhide HC).trans hq))
          clear hq
          go_wp2_with fail
          refine (unhide c1 k).mono ?_
          rintro e w' ⟨rfl, rfl⟩
          go_wp2_with fail
          refine (unhide c2 k).mono ?_
          rintro e w' ⟨rfl, rfl⟩
          go_wp2_with fail
          refine (unhide c4 k _).mono ?_
          rintro e w' ⟨rfl, rfl⟩
          go_wp2_with fail
          go_round
          case rel => exact ⟨k + 1, by omega, by go_num, HX⟩
          case measure => simp [intOf]; omega
        · have hq2 : (ordNum (runOf s k) (runOf t k) != 0) = true := by simpa using hq
          have HX := hide (unhide hstop k (unhide hz) _ (unhide HC) hq)
          clear hq
          go_wp2_with fail
          refine (unhide c1 k).mono ?_
          rintro e w' ⟨rfl, rfl⟩
          go_wp2_with fail
          refine (unhide c2 k).mono ?_
          rintro e w' ⟨rfl, rfl⟩
          go_wp2_with fail
          refine (unhide c4 k _).mono ?_
          rintro e w' ⟨rfl, rfl⟩
          go_wp2_with fail
          go_ret
          exact ⟨ret_int64 (unhide HX).symm, rfl⟩
    · have hm : k < max N M := by omega
      cases ho : odd k
      · have hp : (((k : Int) % 2) == 0) = true := by
          rw [odd_mod] at ho
          have : ¬ k % 2 = 1 := by simpa using ho
          simp
          omega
        have HC := hide (show cp s t k = ordWord (runOf s k) (runOf t k) by unfold cp; rw [ho]; rfl)
        clear ho
        by_cases hq : ordWord (runOf s k) (runOf t k) = 0
        · have hq2 : (ordWord (runOf s k) (runOf t k) != 0) = false := by simp [hq]
          have HX := hide (sq_miss (cp s t) k (unhide hz) ((unhide HC).trans hq))
          clear hq
          go_wp2_with fail
          refine (unhide c1 k).mono ?_
          rintro e w' ⟨rfl, rfl⟩
          go_wp2_with fail
          refine (unhide c2 k).mono ?_
          rintro e w' ⟨rfl, rfl⟩
          go_wp2_with fail
          refine (unhide c3 k _).mono ?_
          rintro e w' ⟨rfl, rfl⟩
          go_wp2_with fail
          go_round
          case rel => exact ⟨k + 1, by omega, by go_num, HX⟩
          case measure => simp [intOf]; omega
        · have hq2 : (ordWord (runOf s k) (runOf t k) != 0) = true := by simpa using hq
          have HX := hide (unhide hstop k (unhide hz) _ (unhide HC) hq)
          clear hq
          go_wp2_with fail
          refine (unhide c1 k).mono ?_
          rintro e w' ⟨rfl, rfl⟩
          go_wp2_with fail
          refine (unhide c2 k).mono ?_
          rintro e w' ⟨rfl, rfl⟩
          go_wp2_with fail
          refine (unhide c3 k _).mono ?_
          rintro e w' ⟨rfl, rfl⟩
          go_wp2_with fail
          go_ret
          exact ⟨ret_int64 (unhide HX).symm, rfl⟩
      · have hp : (((k : Int) % 2) == 0) = false := by
          rw [odd_mod] at ho
          have : k % 2 = 1 := by simpa using ho
          simp
          omega
        have HC := hide (show cp s t k = ordNum (runOf s k) (runOf t k) by unfold cp; rw [ho]; rfl)
        clear ho
        by_cases hq : ordNum (runOf s k) (runOf t k) = 0
        · have hq2 : (ordNum (runOf s k) (runOf t k) != 0) = false := by simp [hq]
          have HX := hide (sq_miss (cp s t) k (unhide hz) ((unhide HC).trans hq))
          clear hq
          go_wp2_with fail
          refine (unhide c1 k).mono ?_
          rintro e w' ⟨rfl, rfl⟩
          go_wp2_with fail
          refine (unhide c2 k).mono ?_
          rintro e w' ⟨rfl, rfl⟩
          go_wp2_with fail
          refine (unhide c4 k _).mono ?_
          rintro e w' ⟨rfl, rfl⟩
          go_wp2_with fail
          go_round
          case rel => exact ⟨k + 1, by omega, by go_num, HX⟩
          case measure => simp [intOf]; omega
        · have hq2 : (ordNum (runOf s k) (runOf t k) != 0) = true := by simpa using hq
          have HX := hide (unhide hstop k (unhide hz) _ (unhide HC) hq)
          clear hq
          go_wp2_with fail
          refine (unhide c1 k).mono ?_
          rintro e w' ⟨rfl, rfl⟩
          go_wp2_with fail
          refine (unhide c2 k).mono ?_
          rintro e w' ⟨rfl, rfl⟩
          go_wp2_with fail
          refine (unhide c4 k _).mono ?_
          rintro e w' ⟨rfl, rfl⟩
          go_wp2_with fail
          go_ret
          exact ⟨ret_int64 (unhide HX).symm, rfl⟩
    · have HX := hide (unhide hdone k (unhide hz) (by omega) (by omega))
      go_wp2
      go_ret
      exact ⟨ret_int64 (unhide HX).symm, rfl⟩

end Go.Proofs.YtfnbclehlikbkaaDoor
