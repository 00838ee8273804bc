import Derived.Test.YtabjbppekijfiaaLwA
import Derived.Test.YtabjbppekijfiaaLwB
import Derived.Test.YtabjbppekijfiaaLwC
namespace Go.Proofs.Ytabjbppekijfiaa
open Go.RowKit

set_option maxRecDepth 100000 in
set_option maxHeartbeats 1000000 in
/-- The same answers. -/
theorem found_any (v S : Int) (n : Nat) (f : Nat → Bool) (pa qa : Option Addr) (c d : Nat) (w : World) (hn : n ≤ 140737488355328) (h1 : Rt w pa n f) (h2 : Rt w qa n f) :
    Calls Try.prog 20 #[.agg #[.int .i64 v, .slice pa n c, .int .i64 S], .agg #[.int .i64 v, .slice qa n d, .int .i64 S]] w fun x w' => x = .returned (.bool true) ∧ Below w.heap.size w w' := by
  obtain ⟨W, hW⟩ : ∃ W, W = (w.alloc (.cells #[.int .i64 v, .slice pa n c, .int .i64 S] 29)).alloc (.cells #[.int .i64 v, .slice qa n d, .int .i64 S] 29) := ⟨_, rfl⟩
  have hb : Below w.heap.size w W := by rw [hW]; exact (((Below.refl _ _).alloc (Nat.le_refl _) _).alloc (by simp) _)
  have HB := hide hb
  have cB := hide (bools_any n f pa qa c d W hn (h1.later hb) (h2.later hb))
  clear hb h1 h2
  rw [hW] at cB HB
  clear hW
  go_enter Try.func20, Try.ntmps20
  go_wp2_with (go_at_call 17; refine (unhide cB).mono ?_; rintro x w2 ⟨rfl, hw2⟩; have HB2 := hide (bl_t (unhide HB) hw2); clear hw2)
  go_ret
  exact ⟨rfl, unhide HB2⟩
end Go.Proofs.Ytabjbppekijfiaa
