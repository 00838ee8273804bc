import Derived.Test.YtjnbnndocinicaaGreatDoorUmE
namespace Go.Proofs.YtjnbnndocinicaaGreatDoor
open Go.RowKit Go.Maps Go.Shelf

set_option maxHeartbeats 1000000 in
theorem satisfiers_any (v d1 d2 : Value) (an : Nm) (op : Int) (bd : ByteArray) (w : World) :
    Calls Tryz.prog 49 #[.agg #[v, d1, d2], .agg #[.string an, .int .i64 op, .string bd]] w fun e w' => e = .returned (.func (.func 74) #[] #[.pointer (some ⟨w.heap.size, 0, none⟩), .pointer (some ⟨w.heap.size + 1, 0, none⟩)]) ∧ w'.heap[w.heap.size]? = some (.cells #[v, d1, d2] 44 (0, 0)) ∧ w'.heap[w.heap.size + 1]? = some (.cells #[.string an, .int .i64 op, .string bd] 55 (0, 0)) ∧ RowKit.Below w.heap.size w w' := by
  have hb1 := (Below.refl w.heap.size w).alloc (Nat.le_refl _) (.cells #[v, d1, d2] 44)
  have hb2 := hb1.alloc (by simp) (.cells #[.string an, .int .i64 op, .string bd] 55)
  have h1 : ((w.alloc (.cells #[v, d1, d2] 44)).alloc (.cells #[.string an, .int .i64 op, .string bd] 55)).heap[w.heap.size]? = some (.cells #[v, d1, d2] 44 (0, 0)) := (Below.heap_alloc _ _ _ (by simp)).trans (World.alloc_heap_new w _)
  have h2 : ((w.alloc (.cells #[v, d1, d2] 44)).alloc (.cells #[.string an, .int .i64 op, .string bd] 55)).heap[w.heap.size + 1]? = some (.cells #[.string an, .int .i64 op, .string bd] 55 (0, 0)) := by
    have := World.alloc_heap_new (w.alloc (.cells #[v, d1, d2] 44)) (.cells #[.string an, .int .i64 op, .string bd] 55)
    rwa [World.size_alloc] at this
  have HR := hide (And.intro h1 (And.intro h2 hb2))
  clear h1 h2 hb1 hb2
  go_enter Tryz.func49, Tryz.ntmps49
  go_wp2
  go_ret
  exact ⟨rfl, unhide HR⟩

/-- THE CELLS OF A WISH. -/
abbrev wc (kd : Int) (an : Nm) (op : Int) (bd : ByteArray) : Array Value := #[.int .i64 kd, .string an, .int .i64 op, .string bd]
end Go.Proofs.YtjnbnndocinicaaGreatDoor
