import Derived.Test.YtfnbclehlikbkaaSegsP
import Derived.Test.YtfnbclehlikbkaaRef
namespace Go.Proofs.Ytfnbclehlikbkaa
open Go.RowKit

theorem odd_mod : ∀ k, odd k = decide (k % 2 = 1)
  | 0 => rfl
  | 1 => rfl
  | k + 2 => by
    have e : odd (k + 2) = !!odd k := rfl
    rw [e, odd_mod k, Bool.not_not]
    congr 1
    rw [Nat.add_mod_right]

def firstOne : Value → Nat
  | .slice _ 0 _ => 1
  | _ => 0

theorem ia_pos_step (s : ByteArray) (n : Nat) (hn : 0 < n) (h : ia s n < s.size) : ia s n < ia s (n + 1) := by
  cases n with
  | zero => omega
  | succ m =>
    have hc := endAt_char s (odd m) (s.size - ia s m) (ia s m) (ia s (m + 1)) (Nat.le_refl _) rfl h
    have hd : (isDig (s[ia s (m + 1)].toNat : Int) == odd (m + 1)) = true := by
      show (isDig (s[ia s (m + 1)].toNat : Int) == !odd m) = true
      revert hc
      cases isDig (s[ia s (m + 1)].toNat : Int) <;> cases odd m <;> decide
    have e : ia s (m + 2) = endAt s (ia s (m + 1)) (odd (m + 1)) := rfl
    rw [← endAt_step s _ _ h hd] at e
    have := endAt_ge s (ia s (m + 1) + 1) (odd (m + 1))
    show ia s (m + 1) < ia s (m + 2)
    omega

theorem meas_seg (s : ByteArray) (N : Nat) (a a' : Option Addr) (c c' : Nat) (h : ia s N < s.size) :
    2 * (s.size - (intOf (.int .i64 (ia s (N + 1)))).toNat) + firstOne (.slice a' (N + 1) c') < 2 * (s.size - (intOf (.int .i64 (ia s N))).toNat) + firstOne (.slice a N c) := by
  simp only [intOf, Int.toNat_natCast]
  have h1 := ia_mono s N
  have h2 := ia_le s (N + 1)
  cases N with
  | zero =>
    show _ + 0 < _ + 1
    omega
  | succ m =>
    have := ia_pos_step s (m + 1) (by omega) h
    show _ + 0 < _ + 0
    omega

theorem segL_succ (s : ByteArray) (N : Nat) : segL s (N + 1) = segL s N ++ [.string (runOf s N)] := by
  unfold segL; rw [List.range_succ, List.map_append]; rfl

set_option maxHeartbeats 2000000 in
theorem rSegments_any (s : ByteArray) (hs : s.size ≤ 1048584) (w : World) :
    Calls Try.prog 5 #[.string s] w fun x W' => ∃ (v : Value) (N : Nat), x = .returned v ∧ ia s N = s.size ∧ (∀ M, M < N → ia s M < s.size) ∧ N ≤ 2 * s.size + 1 ∧ W'.ownsRow w.heap.size 9 1 v N (segL s N) ∧ Below w.heap.size w W' := by
  obtain ⟨i0, hi, hz0, hz1, hz2⟩ := info_parts info9
  go_enter Try.func5, Try.ntmps5
  go_wp2
  go_loopw [3, 4, 5] (fun ov iv _ wr => ∃ (N : Nat) (a : Option Addr) (c : Nat), iv = .int .i64 (ia s N) ∧ ov = .slice a N c ∧ wr.ownsRow w.heap.size 9 1 (.slice a N c) N (segL s N) ∧ Hid (∀ M, M < N → ia s M < s.size) ∧ Below w.heap.size w wr) (fun ov iv _ _ => 2 * (s.size - (intOf iv).toNat) + firstOne ov)
  case atStart => exact ⟨0, none, 0, rfl, rfl, World.ownsRow_nil _ _ _ _, hide (fun M h => absurd h (Nat.not_lt_zero _)), Below.refl _ _⟩
  case round =>
    obtain ⟨N, a, c, rfl, rfl, hown, HM, hB⟩ := hrel
    have hle := ia_le s N
    by_cases hlt : ia s N < s.size
    · have hNb : N ≤ 2 * s.size := by
        by_cases h : 2 * s.size < N
        · have h3 := unhide HM (2 * s.size) h
          have h4 := ia_done s (2 * s.size) (Nat.le_refl _)
          omega
        · omega
      have hbz := hB.size
      have HB := hide hB
      have HO := hide hown
      have HL := hide hlt
      have hp : (((N : Int) % 2) == 1) = odd N := by
        rw [odd_mod, Bool.eq_iff_iff]
        simp
        omega
      have hrun := hide (show s.extract (ia s N) (endAt s (ia s N) (odd N)) = runOf s N from rfl)
      have hnext := hide (show endAt s (ia s N) (odd N) = ia s (N + 1) from rfl)
      have hge := endAt_ge s (ia s N) (odd N)
      have hel := endAt_le s (ia s N) (odd N) hle
      have hE := hide (fun k (h : k < s.size) => endAt_step s k (odd N) h)
      have hE2 := hide (fun k (h : k < s.size) => endAt_stop s k (odd N) h)
      have hE3 := hide (fun k (h : s.size ≤ k) => endAt_end s k (odd N) h)
      clear hB hown
      generalize hj : ia s N = j at *
      generalize odd N = b at *
      go_wp2_with fail
      go_loop [4] (fun kv => ∃ k : Nat, j ≤ k ∧ k ≤ s.size ∧ kv = .int .i64 k ∧ Hid (endAt s k b = endAt s j b)) (fun kv => s.size - (intOf kv).toNat)
      case atStart => exact ⟨j, Nat.le_refl _, hle, rfl, hide rfl⟩
      case round =>
        obtain ⟨k, hjk, hk, rfl, hz⟩ := hrel
        have fin : ∀ (he : endAt s k b = k), k = endAt s j b := fun he => by rw [← unhide hz, he]
        by_cases hks : k < s.size
        · cases hq : (isDig (s[k].toNat : Int) == b)
          · have hkk := hide (fin (unhide hE2 k hks hq))
            clear fin
            have hown := unhide HO
            have HX := hide (show s.extract j k = runOf s N by rw [unhide hkk]; exact unhide hrun)
            have hsx : N + 1 ≤ 2097169 := by omega
            go_wp2_with (first
              | (at_builtin; go_must (refine wpList_append_own _ rfl _ _ 22 rfl w.heap.size 9 i0 (.string ⟨#[]⟩) 1 16 Try.underlying22 hi hz0 hz1 hz2 rfl (by decide) _ _ _ rfl (hown.alloc _) ⟨_, 0, none⟩ 1 1 [.string (s.extract j k)] rfl rfl (cell_one_new _ _ _) (by simp [Value.oneCell']) (by unfold maxLen; omega) (by omega) (by simp; omega) ?_); intro v' w1 hown' hgrow _; obtain ⟨g', cap', rfl⟩ := ownsRow_succ hown'; have HO' := hide hown'; have HG := hide (((unhide HB).alloc hbz _).grown hgrow (by simp; omega) (fun j e => ((unhide HO).lt j e).1)); clear hown' hgrow hown)
              | (go_at_call 16; refine (rdigit_any _ _).mono ?_; rintro e w' ⟨rfl, rfl⟩))
            go_roundw
            case rel => exact ⟨N + 1, _, _, by rw [← unhide hnext, ← unhide hkk], rfl, by rw [segL_succ, ← unhide HX]; exact unhide HO', hide (fun M hM => by
              by_cases e : M = N
              · rw [e, hj]; exact unhide HL
              · exact unhide HM M (by omega)), unhide HG⟩
            case measure =>
              have := meas_seg s N a (some ⟨g', 0, none⟩) c cap' (by rw [hj]; exact unhide HL)
              rw [hj, ← unhide hnext, ← unhide hkk] at this
              exact this
          · have hst := hide (unhide hE k hks hq)
            clear fin
            go_wp2_with (go_at_call 16; refine (rdigit_any _ _).mono ?_; rintro e w' ⟨rfl, rfl⟩)
            go_round
            case rel => exact ⟨k + 1, by omega, by omega, by go_num, hide ((unhide hst).trans (unhide hz))⟩
            case measure => simp [intOf]; omega
        · have hkk := hide (fin (unhide hE3 k (by omega)))
          clear fin
          have hown := unhide HO
          have HX := hide (show s.extract j k = runOf s N by rw [unhide hkk]; exact unhide hrun)
          have hsx : N + 1 ≤ 2097169 := by omega
          go_wp2_with (first
            | (at_builtin; go_must (refine wpList_append_own _ rfl _ _ 22 rfl w.heap.size 9 i0 (.string ⟨#[]⟩) 1 16 Try.underlying22 hi hz0 hz1 hz2 rfl (by decide) _ _ _ rfl (hown.alloc _) ⟨_, 0, none⟩ 1 1 [.string (s.extract j k)] rfl rfl (cell_one_new _ _ _) (by simp [Value.oneCell']) (by unfold maxLen; omega) (by omega) (by simp; omega) ?_); intro v' w1 hown' hgrow _; obtain ⟨g', cap', rfl⟩ := ownsRow_succ hown'; have HO' := hide hown'; have HG := hide (((unhide HB).alloc hbz _).grown hgrow (by simp; omega) (fun j e => ((unhide HO).lt j e).1)); clear hown' hgrow hown))
          go_roundw
          case rel => exact ⟨N + 1, _, _, by rw [← unhide hnext, ← unhide hkk], rfl, by rw [segL_succ, ← unhide HX]; exact unhide HO', hide (fun M hM => by
            by_cases e : M = N
            · rw [e, hj]; exact unhide HL
            · exact unhide HM M (by omega)), unhide HG⟩
          case measure =>
            have := meas_seg s N a (some ⟨g', 0, none⟩) c cap' (by rw [hj]; exact unhide HL)
            rw [hj, ← unhide hnext, ← unhide hkk] at this
            exact this
    · have HB := hide hB
      have HO := hide hown
      clear hB hown
      go_wp2
      go_ret
      have hNb : N ≤ 2 * s.size + 1 := by
        by_cases h : 2 * s.size < N
        · have h3 := unhide HM (2 * s.size) h
          have h4 := ia_done s (2 * s.size) (Nat.le_refl _)
          omega
        · omega
      exact ⟨_, N, rfl, by omega, unhide HM, hNb, unhide HO, unhide HB⟩

end Go.Proofs.Ytfnbclehlikbkaa
