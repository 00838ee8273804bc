import Derived.Test.YtiibobjbcgbknaaDoorStP
import Derived.Test.YtiibobjbcgbknaaDoorShelfS
import Derived.Below
import Derived.WalkKit
import Derived.Deep.RegionHeld3
import Derived.Sort.BigQuietIn
import Derived.Handy
namespace Go.Proofs.YtiibobjbcgbknaaDoor
open Go.RowKit

theorem hide {p : Prop} (h : p) : Hid p := h
theorem unhide {p : Prop} (h : Hid p) : p := h
theorem bl_t {w w1 w2 : World} (h : Below w.heap.size w w1) (h2 : Below w1.heap.size w1 w2) : Below w.heap.size w w2 := h.trans (h2.mono h.size)
theorem bl_drewN (w : World) (n : Nat) : Below w.heap.size w (w.drewN n) := (Below.refl _ w).trans ⟨rfl, rfl, rfl, Nat.le_refl _, fun _ _ => rfl⟩
theorem ret_bool {a b : Bool} (h : a = b) : Ending.returned (.bool a) = .returned (.bool b) := by rw [h]
theorem ret_int {k : IntKind} {a b : Int} (h : a = b) : Ending.returned (.int k a) = .returned (.int k b) := by rw [h]

/-- WHAT THE GLOBALS HOLD. -/
structure Glob (w : World) : Prop where
  big : 2 < w.heap.size
  mx : ∃ m, w.cell? ⟨0, 0, none⟩ = some (.int .i64 m)
theorem Glob.later {w w' : World} (h : Glob w) {n : Nat} (hn : 2 < n) (hb : Below n w w') : Glob w' := by
  have hbig := h.big
  obtain ⟨m, hm⟩ := h.mx
  exact ⟨Nat.lt_of_lt_of_le h.big hb.size, m, (hb.cell (p := ⟨0, 0, none⟩) (by show 0 < n; omega)).trans hm⟩

theorem cCut (s : Bs) (c : UInt8) (w : World) (hs : s.length < 4294967281) (hG : Glob w) :
    Calls Tryd.prog 71 #[.string (ba s), .string ⟨#[c]⟩] w fun e w' => e = .returned (.tuple #[.string (ba (bef c s)), .string (ba (aft c s)), .bool (decide (c ∈ s))]) ∧ Below w.heap.size w w' := by
  obtain ⟨m, hm⟩ := hG.mx
  refine (Any.strings_Cut Tryd.lays145 (ba s) ⟨#[c]⟩ m w (by rw [ba_size]; exact hs) hm).mono ?_
  rintro e w' ⟨rfl, n, rfl⟩
  refine ⟨?_, bl_drewN w n⟩
  have h := cut1 c s
  show Ending.returned (.tuple #[.string ⟨(Lib.cut s [c]).1.toArray⟩, .string ⟨(Lib.cut s [c]).2.1.toArray⟩, .bool (Lib.cut s [c]).2.2]) = _
  rw [h]
  rfl
theorem asc2 : ∀ (j : Nat) b, (⟨#[32, 9]⟩ : ByteArray).data.toList[j]? = some b → b.toNat < 128 := fun j b h => by
  have hm := List.mem_of_getElem? h
  have h2 : ∀ b ∈ ([32, 9] : Bs), b.toNat < 128 := by decide
  exact h2 b hm
theorem cTrim (s : Bs) (w : World) (hs : s.length ≤ 9223372036854775807) :
    Calls Tryd.prog 63 #[.string (ba s), .string ⟨#[32, 9]⟩] w fun e w' => e = .returned (.string (ba (Lib.trimS s bl2))) ∧ Below w.heap.size w w' :=
  Any.strings_Trim_laid Tryd.lays160 (by kernel_rfl) (ba s) ⟨#[32, 9]⟩ w (by rw [ba_size]; exact hs) (by decide) asc2
theorem cTrimR (s : Bs) (w : World) (hs : s.length ≤ 9223372036854775807) :
    Calls Tryd.prog 64 #[.string (ba s), .string ⟨#[32, 9]⟩] w fun e w' => e = .returned (.string (ba (Lib.trimRightS s bl2))) ∧ Below w.heap.size w w' :=
  Any.strings_TrimRight_laid Tryd.lays162 (by kernel_rfl) (ba s) ⟨#[32, 9]⟩ w (by rw [ba_size]; exact hs) (by decide) asc2

theorem u8_int (b : UInt8) : 0 ≤ (b.toNat : Int) ∧ (b.toNat : Int) < 256 := by have := b.toNat_lt; omega

set_option maxHeartbeats 1000000 in
theorem isOdd_any (b : UInt8) (w : World) :
    Calls Tryd.prog 89 #[.int .u8 b.toNat] w fun e w' => e = .returned (.bool (oddB b)) ∧ w' = w := by
  have HO := hide (show oddB b = ((decide (b.toNat < 32) && (decide (b.toNat ≠ 9) && decide (b.toNat ≠ 10))) || decide (b.toNat = 127)) from rfl)
  go_enter Tryd.func89, Tryd.ntmps89
  go_wp2
  all_goals
    go_ret
    refine ⟨ret_bool ?_, rfl⟩
    rw [unhide HO]
    simp_all
    try (first | omega | (rw [Bool.eq_iff_iff]; simp; omega))

theorem get_list (s : ByteArray) (k : Nat) (h : k < s.size) : s.data.toList[k]'(by simpa using h) = s[k] := rfl

set_option maxHeartbeats 2000000 in
theorem hasOdd_any (s : ByteArray) (w : World) (hs : s.size ≤ 9223372036854775807) :
    Calls Tryd.prog 72 #[.string s] w fun e w' => e = .returned (.bool (oddL s.data.toList)) ∧ w' = w := by
  go_enter Tryd.func72, Tryd.ntmps72
  go_wp2
  go_loop [6] (fun i => ∃ k : Nat, k ≤ s.size ∧ i = .int .i64 k ∧ Hid (∀ j (hj : j < s.size), j < k → oddB s[j] = false)) (fun i => s.size - (intOf i).toNat)
  case atStart => exact ⟨0, Nat.zero_le _, rfl, hide (fun j _ h => absurd h (Nat.not_lt_zero _))⟩
  case round =>
    obtain ⟨k, hk, rfl, HZ⟩ := hrel
    by_cases hlt : k < s.size
    · cases ho : oddB s[k]
      · have HO := hide ho
        have HZ2 := hide (show ∀ j (hj : j < s.size), j < k + 1 → oddB s[j] = false from fun j hj hjk => by
          by_cases e : j < k
          · exact unhide HZ j hj e
          · obtain rfl : j = k := by omega
            exact unhide HO)
        have c1 := hide (fun w => by have := isOdd_any s[k] w; rw [ho] at this; exact this)
        clear ho HZ
        go_wp2_with (go_at_call 89; refine (unhide c1 _).mono ?_; rintro e w' ⟨rfl, rfl⟩)
        go_round
        case rel => exact ⟨k + 1, by omega, by go_num, HZ2⟩
        case measure => simp [intOf]; omega
      · have HF := hide (show oddL s.data.toList = true by
          unfold oddL
          rw [List.any_eq_true]
          exact ⟨s[k], List.getElem_mem (l := s.data.toList) (by simpa using hlt), ho⟩)
        have c1 := hide (fun w => by have := isOdd_any s[k] w; rw [ho] at this; exact this)
        clear ho HZ
        go_wp2_with (go_at_call 89; refine (unhide c1 _).mono ?_; rintro e w' ⟨rfl, rfl⟩)
        go_ret
        exact ⟨ret_bool (unhide HF).symm, rfl⟩
    · have HF := hide (show oddL s.data.toList = false by
        unfold oddL
        rw [List.any_eq_false]
        intro b hb
        obtain ⟨i, hi, rfl⟩ := List.getElem_of_mem hb
        have := unhide HZ i (by simpa using hi) (by simp at hi; omega)
        rw [show s.data.toList[i] = s[i]'(by simpa using hi) from rfl, this]
        simp)
      clear HZ
      go_wp2
      go_ret
      exact ⟨ret_bool (unhide HF).symm, rfl⟩

end Go.Proofs.YtiibobjbcgbknaaDoor
