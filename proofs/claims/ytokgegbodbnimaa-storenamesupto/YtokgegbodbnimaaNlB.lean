import Derived.Test.YtokgegbodbnimaaNlA
import Derived.Deep.LoopGhost
namespace Go.Proofs.Ytokgegbodbnimaa
open Go.RowKit

/-- A NEW STORE, AS IT LIES. -/
def st0 (c : Int) : Array Value := #[.map none, .int .i64 0, .map none, .int .i64 0, .slice none 0 0, .int .i64 c, .int .i64 0, .bool false, .bool false, .int .i64 0]
theorem isCapacity_any (c : Int) (w : World) : Calls Try.prog 49 #[.int .i64 c] w fun x w' => x = .returned (.bool (decide (0 ≤ c ∧ c ≤ 1073741824))) ∧ w' = w := by
  by_cases h1 : c ≥ 0
  · by_cases h2 : c ≤ 1073741824
    · rw [decide_eq_true (show 0 ≤ c ∧ c ≤ 1073741824 from ⟨h1, h2⟩)]
      go_enter Try.func49, Try.ntmps49
      go_wp2_with fail
      go_ret
      exact ⟨by simp, rfl⟩
    · rw [decide_eq_false (show ¬ (0 ≤ c ∧ c ≤ 1073741824) from fun q => h2 q.2)]
      go_enter Try.func49, Try.ntmps49
      go_wp2_with fail
      go_ret
      exact ⟨by simp, rfl⟩
  · rw [decide_eq_false (show ¬ (0 ≤ c ∧ c ≤ 1073741824) from fun q => h1 q.1)]
    go_enter Try.func49, Try.ntmps49
    go_wp2_with fail
    go_ret
    exact ⟨rfl, rfl⟩
set_option maxRecDepth 100000 in
set_option maxHeartbeats 2000000 in
theorem Load_new (c : Int) (hc : 0 ≤ c ∧ c ≤ 1073741824) (w : World) : Calls Try.prog 37 #[.slice none 0 0, .int .i64 c] w fun x w' => x = .returned (.tuple #[.pointer (some ⟨w.heap.size, 0, none⟩), .int .i64 0]) ∧ w' = w.alloc (.cells (st0 c) 75) := by
  have hd := decide_eq_true hc
  go_enter Try.func37, Try.ntmps37
  go_wp2_with (first | (go_at_call 49; refine (isCapacity_any c _).mono ?_; rintro x w ⟨rfl, rfl⟩; rw [hd]))
  go_loopg [7, 8, 17] 0 (fun _ _ _ i wr => i = .int .i64 0 ∧ wr = w.alloc (.cells (st0 c) 75))
  case atStart => exact ⟨rfl, rfl⟩
  case round =>
    obtain ⟨rfl, rfl⟩ := hrel
    go_wp2_with fail
    go_ret2
    exact ⟨rfl, rfl⟩
theorem New_any (c : Int) (hc : 0 ≤ c ∧ c ≤ 1073741824) (w : World) : Calls Try.prog 10 #[.int .i64 c] w fun x w' => x = .returned (.tuple #[.pointer (some ⟨w.heap.size, 0, none⟩), .int .i64 0]) ∧ w' = w.alloc (.cells (st0 c) 75) := by
  go_enter Try.func10, Try.ntmps10
  go_wp2_with (first | (go_at_call 37; refine (Load_new c hc _).mono ?_; rintro x w1 ⟨rfl, rfl⟩))
  go_ret2
  exact ⟨rfl, rfl⟩
end Go.Proofs.Ytokgegbodbnimaa
