import Derived.Test.YtfembjjpmjfklaaDoorRelW
namespace Go.Proofs.YtfembjjpmjfklaaDoor
open Go.RowKit

theorem opOf_at (s : ByteArray) (k : Nat) (h1 : 1 ≤ k) (h5 : k ≤ 5) (hs : sg k = s) : opOf s = ((k : Int), true) := by
  subst hs
  match k, h1, h5 with
  | 1, _, _ => rfl
  | 2, _, _ => rfl
  | 3, _, _ => rfl
  | 4, _, _ => rfl
  | 5, _, _ => rfl
theorem opOf_no (s : ByteArray) (h : ∀ j, 1 ≤ j → j < 6 → sg j ≠ s) : opOf s = (0, false) := by
  unfold opOf
  rw [if_neg (fun e => h 1 (by omega) (by omega) e.symm), if_neg (fun e => h 2 (by omega) (by omega) e.symm), if_neg (fun e => h 3 (by omega) (by omega) e.symm), if_neg (fun e => h 4 (by omega) (by omega) e.symm), if_neg (fun e => h 5 (by omega) (by omega) e.symm)]

theorem ba_beq2 {a b : ByteArray} : (a.toList == b.toList) = true ↔ a = b := by
  constructor
  · intro h
    have h1 := eq_of_beq h
    rw [Lib.toList_data, Lib.toList_data] at h1
    apply ByteArray.ext
    apply Array.ext'
    exact h1
  · rintro rfl
    simp

set_option maxHeartbeats 2000000 in
theorem operator_any (s : ByteArray) (w : World) (hg : Glob w) :
    Calls Tryd.prog 88 #[.string s] w fun e w' => e = .returned (.tuple #[.int .i64 (opOf s).1, .bool (opOf s).2]) ∧ Below w.heap.size w w' := by
  have HG := hide hg.sg
  clear hg
  go_enter Tryd.func88, Tryd.ntmps88
  go_wp2_with fail
  go_loop [4] (fun i => ∃ k : Nat, 1 ≤ k ∧ k ≤ 6 ∧ i = .int .i64 k ∧ Hid (∀ j, 1 ≤ j → j < k → sg j ≠ s)) (fun i => 6 - (intOf i).toNat)
  case atStart => exact ⟨1, by omega, by omega, rfl, hide (fun j h1 h2 => absurd h1 (by omega))⟩
  case round =>
    obtain ⟨k, hk1, hk, rfl, HA⟩ := hrel
    by_cases hlt : k < 6
    · have hc := unhide HG k hlt
      have HE := hide (show (((sg k).toList == s.toList) = true ↔ sg k = s) from ba_beq2)
      have HO := hide (fun h : sg k = s => opOf_at s k hk1 (by omega) h)
      have hkle : (k : Int) ≤ 5 := by omega
      generalize hq : sg k = q at *
      cases hb : (q.toList == s.toList)
      · go_wp2
        go_round
        case rel =>
          refine ⟨k + 1, by omega, by omega, by go_num, hide (fun j h1 h2 => ?_)⟩
          by_cases hj : j < k
          · exact unhide HA j h1 hj
          · obtain rfl : j = k := by omega
            intro e
            rw [hq] at e
            have := (unhide HE).2 e
            rw [hb] at this
            cases this
        case measure => simp [intOf]; omega
      · go_wp2
        go_ret2
        rw [unhide HO ((unhide HE).1 hb)]
        exact ⟨rfl, Below.refl _ _⟩
    · obtain rfl : k = 6 := by omega
      have HN := hide (opOf_no s (unhide HA))
      go_wp2
      go_ret2
      rw [unhide HN]
      exact ⟨rfl, Below.refl _ _⟩

end Go.Proofs.YtfembjjpmjfklaaDoor
