import Derived.Test.YtbbhokciileogaaDoorPthY
namespace Go.Proofs.YtbbhokciileogaaDoor
open Go.RowKit

theorem num_any (n : Int) (w : World) :
    Calls Tryd.prog 6 #[.int .i64 n] w fun x w' => x = .returned (.int .i64 n) ∧ w' = w := by
  go_enter Tryd.func6, Tryd.ntmps6
  go_wp2
  go_ret
  exact ⟨rfl, rfl⟩

set_option maxHeartbeats 4000000 in
theorem controlPaths_walk (s : ByteArray) (w : World) (hs : s.size ≤ 9223372036854775807) (hg : Glob w) :
    Calls Tryd.prog 3 #[.string s] w fun e w' => e = .returned (.bool true) ∧ Below w.heap.size w w' := by
  have HG := hide hg
  have c1 := hide (fun w hg => Split_any s w hs hg)
  have c2 := hide (fun w => rSplit_any s w hs)
  have c3 := hide (fun w hg => CheckPath_any s w hs hg)
  have c4 := hide (fun w => rCheckPath_any s w hs)
  generalize spl s = p at *
  obtain ⟨a, b, e0⟩ := p
  simp only at c1 c2 c3 c4
  clear hg
  go_enter Tryd.func3, Tryd.ntmps3
  go_wp2_with fail
  refine (unhide c1 _ (unhide HG)).mono ?_
  rintro e w1 ⟨rfl, hb1⟩
  have HB1 := hide hb1
  clear hb1
  go_wp2_with fail
  refine (unhide c2 _).mono ?_
  rintro e w2 ⟨rfl, hb2⟩
  have HB2 := hide (bl_t (unhide HB1) hb2)
  clear hb2
  go_wp2_with fail
  refine (num_any _ _).mono ?_
  rintro e w' ⟨rfl, rfl⟩
  go_wp2_with fail
  refine (unhide c3 _ ((unhide HG).later (unhide HB2))).mono ?_
  rintro e w3 ⟨rfl, hb3⟩
  have HB3 := hide (bl_t (unhide HB2) hb3)
  clear hb3
  go_wp2_with fail
  refine (num_any _ _).mono ?_
  rintro e w' ⟨rfl, rfl⟩
  go_wp2_with fail
  refine (unhide c4 _).mono ?_
  rintro e w4 ⟨rfl, hb4⟩
  have HB4 := hide (bl_t (unhide HB3) hb4)
  clear hb4
  go_wp2_with fail
  go_ret
  exact ⟨rfl, unhide HB4⟩

end Go.Proofs.YtbbhokciileogaaDoor
