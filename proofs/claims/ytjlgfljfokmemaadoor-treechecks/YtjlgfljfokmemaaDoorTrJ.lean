import Derived.Test.YtjlgfljfokmemaaDoorTrI
namespace Go.Proofs.YtjlgfljfokmemaaDoor
open Go.RowKit

theorem num_any (n : Int) (w : World) :
    Calls Tryd.prog 9 #[.int .i64 n] w fun x w' => x = .returned (.int .i64 n) ∧ w' = w := by
  go_enter Tryd.func9, Tryd.ntmps9
  go_wp2
  go_ret
  exact ⟨rfl, rfl⟩

set_option maxHeartbeats 4000000 in
theorem treeNames_walk (s n : ByteArray) (a b : Int) (w : World) (hs : s.size ≤ 9223372036854775807) (hn : n.size ≤ 281474976710656) (hg : Glob w) :
    Calls Tryd.prog 3 #[.string s, .int .i64 a, .int .i64 b, .string n] w fun e w' => e = .returned (.bool true) ∧ Below w.heap.size w w' := by
  have HG := hide hg
  have c1 := hide (fun w hg => Name_any s w hs hg)
  have c2 := hide (fun w => rName_any s w hs)
  have c3 := hide (fun w hg => Staged_any a b w hg)
  have c4 := hide (fun w => rStaged_any a b w)
  have c5 := hide (fun w hg => CheckPath_any s w hs hg)
  have c6 := hide (fun w => rCheckPath_any s w hs)
  have c7 := hide (fun w hg => Parse_any n w hn hg)
  have c8 := hide (fun w => rParse_any n w (by omega))
  generalize nmT s = x at *
  generalize chk s = y at *
  generalize stS a b = u at *
  generalize stE a b = v at *
  generalize prs n = p at *
  obtain ⟨p1, p2, p3, p4⟩ := p
  simp only at c7 c8
  clear hg
  go_enter Tryd.func3, Tryd.ntmps3
  go_wp2_with fail
  refine (unhide c1 _ (unhide HG)).mono ?_
  rintro e w1 ⟨rfl, hb1⟩
  have HB1 := hide hb1
  clear hb1
  go_wp2_with fail
  refine (unhide c2 _).mono ?_
  rintro e w2 ⟨rfl, rfl⟩
  go_wp2_with fail
  refine (unhide c3 _ ((unhide HG).later (unhide HB1))).mono ?_
  rintro e w3 ⟨rfl, hb3⟩
  have HB3 := hide (bl_t (unhide HB1) hb3)
  clear hb3
  go_wp2_with fail
  refine (unhide c4 _).mono ?_
  rintro e w4 ⟨rfl, hb4⟩
  have HB4 := hide (bl_t (unhide HB3) hb4)
  clear hb4
  go_wp2_with fail
  refine (unhide c5 _ ((unhide HG).later (unhide HB4))).mono ?_
  rintro e w5 ⟨rfl, hb5⟩
  have HB5 := hide (bl_t (unhide HB4) hb5)
  clear hb5
  go_wp2_with fail
  refine (num_any _ _).mono ?_
  rintro e w' ⟨rfl, rfl⟩
  go_wp2_with fail
  refine (unhide c6 _).mono ?_
  rintro e w6 ⟨rfl, rfl⟩
  go_wp2_with fail
  refine (num_any _ _).mono ?_
  rintro e w' ⟨rfl, rfl⟩
  go_wp2_with fail
  refine (num_any _ _).mono ?_
  rintro e w' ⟨rfl, rfl⟩
  go_wp2_with fail
  refine (unhide c7 _ ((unhide HG).later (unhide HB5))).mono ?_
  rintro e w7 ⟨rfl, hb7⟩
  have HB7 := hide (bl_t (unhide HB5) hb7)
  clear hb7
  go_wp2_with fail
  refine (unhide c8 _).mono ?_
  rintro e w8 ⟨rfl, rfl⟩
  go_wp2_with fail
  go_ret
  exact ⟨rfl, unhide HB7⟩

end Go.Proofs.YtjlgfljfokmemaaDoor
