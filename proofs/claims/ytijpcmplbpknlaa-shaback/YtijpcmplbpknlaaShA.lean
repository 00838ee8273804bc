import Derived.Test.YtijpcmplbpknlaaProg
import Derived.Below
import Derived.WalkKit
import Derived.WalkSpells
import Derived.WalkLawsBesides
import Derived.Handy
import Derived.Deep.WholeRow
namespace Go.Proofs.Ytijpcmplbpknlaa
open Go.RowKit

theorem hide {p : Prop} (h : p) : Hid p := h
theorem unhide {p : Prop} (h : Hid p) : p := h
abbrev Bs := List UInt8
def ba (l : Bs) : ByteArray := ⟨l.toArray⟩

/-- WHAT A DIGIT STANDS FOR; 16: IT IS NONE. -/
def hv (n : Nat) : Nat := if 48 ≤ n ∧ n ≤ 57 then n - 48 else if 97 ≤ n ∧ n ≤ 102 then n - 87 else 16
theorem hv_le (n : Nat) : hv n ≤ 16 := by unfold hv; split <;> (try split) <;> omega

def hlf (n : Nat) : Nat := if hv n = 16 then 0 else hv n
def isH (n : Nat) : Bool := decide (hv n ≠ 16)
theorem ret_pair {a b : Int} {c d : Bool} (h1 : a = b) (h2 : c = d) : Ending.returned (.tuple #[.int .u8 a, .bool c]) = .returned (.tuple #[.int .u8 b, .bool d]) := by rw [h1, h2]
theorem ret_u8 {a b : Int} (h : a = b) : Ending.returned (.int .u8 a) = .returned (.int .u8 b) := by rw [h]

set_option maxHeartbeats 1000000 in
theorem half_any (n : Nat) (hn : n < 256) (w : World) :
    Calls Try.prog 10 #[.int .u8 n] w fun e w' => e = .returned (.tuple #[.int .u8 (hlf n : Nat), .bool (isH n)]) ∧ w' = w := by
  by_cases h1 : 48 ≤ n ∧ n ≤ 57
  · have a1 : (48 : Int) ≤ n := by omega
    have a2 : (n : Int) ≤ 57 := by omega
    have HV := hide (show hv n = n - 48 by unfold hv; rw [if_pos h1])
    go_enter Try.func10, Try.ntmps10
    go_wp2
    go_ret2
    refine ⟨ret_pair ?_ ?_, rfl⟩
    · unfold hlf
      rw [unhide HV, if_neg (by omega)]
      omega
    · unfold isH
      rw [unhide HV]; simp; omega
  · by_cases h2 : 97 ≤ n ∧ n ≤ 102
    · have a1 : (97 : Int) ≤ n := by omega
      have a2 : (n : Int) ≤ 102 := by omega
      have a3 : ¬ (n : Int) ≤ 57 := by omega
      have a4 : (48 : Int) ≤ n := by omega
      have HV := hide (show hv n = n - 87 by unfold hv; rw [if_neg h1, if_pos h2])
      go_enter Try.func10, Try.ntmps10
      go_wp2
      go_ret2
      refine ⟨ret_pair ?_ ?_, rfl⟩
      · unfold hlf
        rw [unhide HV, if_neg (by omega)]
        omega
      · unfold isH
        rw [unhide HV]; simp; omega
    · have HV := hide (show hv n = 16 by unfold hv; rw [if_neg h1, if_neg h2])
      have a1 : ¬ ((48 : Int) ≤ n ∧ (n : Int) ≤ 57) := by omega
      have a2 : ¬ ((97 : Int) ≤ n ∧ (n : Int) ≤ 102) := by omega
      go_enter Try.func10, Try.ntmps10
      go_wp2
      all_goals first | (exfalso; omega) | skip
      all_goals go_ret2
      all_goals exact ⟨ret_pair (by unfold hlf; rw [unhide HV]; rfl) (by unfold isH; rw [unhide HV]; rfl), rfl⟩

end Go.Proofs.Ytijpcmplbpknlaa
