import Derived.Test.YtjflnpcpnoccjaaHeC
namespace Go.Proofs.Ytjflnpcpnoccjaa
open Go.RowKit

/-- THE GRAPH THAT IS ASKED ABOUT BETWEEN. -/
def lnA : Nat → Nat
  | 0 => 1
  | 1 => 2
  | _ => 0
def LA : Nat → Nat → Int
  | 0, _ => 1
  | 1, 0 => 0
  | _, _ => 2
theorem rgtA : rgt 3 lnA LA = true := by decide
theorem ri_nil {W : World} {x : Nat} {f : Nat → Int} : Ri W (some ⟨x, 0, none⟩) 0 f := fun h => absurd h (Nat.lt_irrefl _)
theorem ri_pair {W : World} {x : Nat} {u v : Int} (h : W.heap[x]? = some (.cells #[.int .i64 u, .int .i64 v] 3 (0, 0))) : Ri W (some ⟨x, 0, none⟩) 2 (fun i => if i = 0 then u else v) := fun _ => ⟨x, 0, rfl, blk_lt h, fun i hi => by
  rw [Nat.zero_add, (cell_blk h i).1]
  match i, hi with
  | 0, _ => rfl
  | 1, _ => rfl⟩
set_option maxHeartbeats 2000000 in
theorem another_any (w : World) : Calls Try.prog 14 #[] w fun x w' => ∃ B, x = .returned (.slice (some ⟨B, 0, none⟩) 3 3) ∧ Rr w' (some ⟨B, 0, none⟩) 3 lnA LA ∧ Below w.heap.size w w' := by
  go_enter Try.func14, Try.ntmps14
  go_wp2
  go_ret
  refine ⟨_, rfl, ?_, ?_⟩
  · have b1 := heap_new w (.cells #[.int .i64 1] 3)
    have b2 := heap_new (w.alloc (.cells #[.int .i64 1] 3)) (.cells #[.int .i64 0, .int .i64 2] 3)
    have b3 := heap_new ((w.alloc (.cells #[.int .i64 1] 3)).alloc (.cells #[.int .i64 0, .int .i64 2] 3)) (.cells #[] 3)
    have b4 := heap_new (((w.alloc (.cells #[.int .i64 1] 3)).alloc (.cells #[.int .i64 0, .int .i64 2] 3)).alloc (.cells #[] 3)) (.cells #[.slice (some ⟨w.heap.size, 0, none⟩) 1 1, .slice (some ⟨w.heap.size + 1, 0, none⟩) 2 2, .slice (some ⟨w.heap.size + 1 + 1, 0, none⟩) 0 0] 23)
    simp only [World.size_alloc] at b2 b3 b4
    refine ⟨fun k => match k with | 0 => some ⟨w.heap.size, 0, none⟩ | 1 => some ⟨w.heap.size + 1, 0, none⟩ | _ => some ⟨w.heap.size + 1 + 1, 0, none⟩, fun k => match k with | 0 => 1 | 1 => 2 | _ => 0, fun _ => ⟨_, 0, rfl, blk_lt b4, fun i hi => ?_⟩, fun k hk => ?_⟩
    · rw [Nat.zero_add, (cell_blk b4 i).1]
      match i, hi with
      | 0, _ => rfl
      | 1, _ => rfl
      | 2, _ => rfl
    · match k, hk with
      | 0, _ => exact Ri.later (Ri.later (Ri.later (ri_one (z := 1) b1) (al _ _)) (al _ _)) (al _ _)
      | 1, _ =>
        have h2 := Rv.congr (ri_pair b2) (G := iv (LA 1)) fun j hj => by
          match j, hj with
          | 0, _ => rfl
          | 1, _ => rfl
        exact Rv.later (Rv.later h2 (al _ _)) (al _ _)
      | 2, _ => exact ri_nil
  · exact bl_t (bl_t (bl_t (al _ _) (al _ _)) (al _ _)) (al _ _)
end Go.Proofs.Ytjflnpcpnoccjaa
