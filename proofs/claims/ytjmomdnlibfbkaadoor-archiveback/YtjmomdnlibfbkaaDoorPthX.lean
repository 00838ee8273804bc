import Derived.Test.YtjmomdnlibfbkaaDoorPthW
namespace Go.Proofs.YtjmomdnlibfbkaaDoor
open Go.RowKit

theorem ext_ext (s : ByteArray) (f i : Nat) : (s.extract f s.size).extract i (s.extract f s.size).size = s.extract (f + i) s.size := by
  apply ba_inj
  rw [ext_from, ext_from, ext_from, List.drop_drop]
theorem ext_size (s : ByteArray) (f : Nat) : (s.extract f s.size).size = s.size - f := by
  rw [← size_list, ext_from, List.length_drop, size_list]
theorem ext0_size (s : ByteArray) (i : Nat) (hi : i ≤ s.size) : (s.extract 0 i).size = i := by
  rw [← size_list, ext_to, List.length_take, size_list]; omega
theorem ext0_ext (s : ByteArray) (f i : Nat) : ((s.extract f s.size).extract 0 i).size = min i (s.size - f) := by
  rw [← size_list, ext_to, ext_from, List.length_take, List.length_drop, size_list]

theorem spl_short (s : ByteArray) (h : okP s = true) (hs : s.size ≤ 100) : spl s = (⟨#[]⟩, s, 0) := by
  unfold spl
  rw [if_neg (by rw [h]; simp), if_pos hs]
theorem spl_bad (s : ByteArray) (h : okP s = false) : spl s = (⟨#[]⟩, ⟨#[]⟩, 44) := by
  unfold spl
  rw [if_pos h]
theorem spl_none (s : ByteArray) (h : okP s = true) (hs : 100 < s.size) (hc : cutOf s = -1) : spl s = (⟨#[]⟩, ⟨#[]⟩, 44) := by
  unfold spl
  rw [if_neg (by rw [h]; simp), if_neg (by omega), if_pos (by omega)]
theorem spl_hit (s : ByteArray) (h : okP s = true) (hs : 100 < s.size) (i : Nat) (hc : cutOf s = i) : spl s = (s.extract 0 i, s.extract (i + 1) s.size, 0) := by
  unfold spl
  rw [if_neg (by rw [h]; simp), if_neg (by omega), if_neg (by omega), hc]
  rfl
theorem cutOf_idx (s : ByteArray) (hs : 100 < s.size) (j : Int) (hj : Lib.index (s.extract (s.size - 101) s.size).data.toList [47] = j) : cutOf s = if j = -1 then -1 else if 155 < ((s.size - 101 : Nat) : Int) + j then -1 else ((s.size - 101 : Nat) : Int) + j := by
  rw [ext_from] at hj
  unfold cutOf
  rw [if_neg (by omega), hj]

set_option maxHeartbeats 4000000 in
theorem Split_any (s : ByteArray) (w : World) (hs : s.size ≤ 9223372036854775807) (hg : Glob w) :
    Calls Tryd.prog 27 #[.string s] w fun e w' => e = .returned (.tuple #[.string (spl s).1, .string (spl s).2.1, .int .i64 (spl s).2.2]) ∧ Below w.heap.size w w' := by
  have HG := hide hg
  clear hg
  by_cases h1 : s.size ≤ 256
  · have h1' : ¬ ((256 : Int) < (s.size : Int)) := by omega
    have c1 := hide (allWithin_any s 33 126 w hs)
    have c2 := hide (fun w' (hb : Below w.heap.size w w') => hasSegments_any s w' (by omega) ((unhide HG).later hb))
    cases e1 : inR 33 126 s
    · have HF := hide (spl_bad s (by unfold okP; rw [e1]; simp))
      rw [e1] at c1
      clear c2
      go_enter Tryd.func27, Tryd.ntmps27
      go_wp2_with fail
      refine (unhide c1).mono ?_
      rintro e w1 ⟨rfl, hb1⟩
      have HB1 := hide hb1
      clear hb1
      go_wp2_with fail
      go_ret3
      rw [unhide HF]
      exact ⟨rfl, unhide HB1⟩
    · rw [e1] at c1
      cases e2 : segs s
      · have HF := hide (spl_bad s (by unfold okP; rw [e2]; simp))
        rw [e2] at c2
        go_enter Tryd.func27, Tryd.ntmps27
        go_wp2_with fail
        refine (unhide c1).mono ?_
        rintro e w1 ⟨rfl, hb1⟩
        have HB1 := hide hb1
        clear hb1
        go_wp2_with fail
        refine (unhide c2 _ (unhide HB1)).mono ?_
        rintro e w2 ⟨rfl, hb2⟩
        have HB2 := hide (bl_t (unhide HB1) hb2)
        clear hb2
        go_wp2_with fail
        go_ret3
        rw [unhide HF]
        exact ⟨rfl, unhide HB2⟩
      · have HOK := hide (show okP s = true by unfold okP; rw [e1, e2]; simpa using h1)
        rw [e2] at c2
        by_cases h3 : s.size ≤ 100
        · have HF := hide (spl_short s (unhide HOK) h3)
          have h3' : (s.size : Int) ≤ 100 := by omega
          go_enter Tryd.func27, Tryd.ntmps27
          go_wp2_with fail
          refine (unhide c1).mono ?_
          rintro e w1 ⟨rfl, hb1⟩
          have HB1 := hide hb1
          clear hb1
          go_wp2_with fail
          refine (unhide c2 _ (unhide HB1)).mono ?_
          rintro e w2 ⟨rfl, hb2⟩
          have HB2 := hide (bl_t (unhide HB1) hb2)
          clear hb2
          go_wp2_with fail
          go_ret3
          rw [unhide HF]
          exact ⟨rfl, unhide HB2⟩
        · have h3' : ¬ ((s.size : Int) ≤ 100) := by omega
          obtain ⟨f, hf⟩ : ∃ f : Nat, f = s.size - 101 := ⟨_, rfl⟩
          have hfz : (s.size : Int) - 101 = (f : Int) := by omega
          have HCI := hide (fun j => cutOf_idx s (by omega) j)
          rw [← hf] at HCI
          have c3 := hide (fun w' (hb : Below w.heap.size w w') => cCut (s.extract f s.size) 47 w' (by rw [ext_size]; omega) ((unhide HG).later hb))
          go_enter Tryd.func27, Tryd.ntmps27
          go_wp2_with fail
          refine (unhide c1).mono ?_
          rintro e w1 ⟨rfl, hb1⟩
          have HB1 := hide hb1
          clear hb1
          go_wp2_with fail
          refine (unhide c2 _ (unhide HB1)).mono ?_
          rintro e w2 ⟨rfl, hb2⟩
          have HB2 := hide (bl_t (unhide HB1) hb2)
          clear hb2
          go_wp2_with fail
          have e9 : s.size - 100 - 1 = f := by omega
          have e10 : (s.size : Int) - 100 - 1 = (f : Int) := by omega
          rw [e9, e10]
          clear e9 e10 hfz
          refine (unhide c3 _ (unhide HB2)).mono ?_
          rintro e w3 ⟨hcase, hb3⟩
          have HB3 := hide (bl_t (unhide HB2) hb3)
          clear hb3 c1 c2 c3
          rcases hcase with ⟨hix, rfl⟩ | ⟨i, hix, hi, rfl⟩
          · have HF := hide (spl_none s (unhide HOK) (by omega) (by rw [unhide HCI _ hix, if_pos rfl]))
            clear hix HCI
            go_wp2_with fail
            go_ret3
            rw [unhide HF]
            exact ⟨rfl, unhide HB3⟩
          · have HC0 := hide (show cutOf s = if 155 < (f : Int) + i then -1 else (f : Int) + i by rw [unhide HCI _ hix, if_neg (by omega)])
            have HX := hide (show (s.extract f s.size).extract (i + 1) (s.extract f s.size).size = s.extract (f + i + 1) s.size from ext_ext s f (i + 1))
            have ha : ((s.extract f s.size).extract 0 i).size = i := by rw [ext0_ext]; rw [ext_size] at hi; omega
            rw [ext_size] at hi
            rw [unhide HX]
            generalize (s.extract f s.size).extract 0 i = a at *
            obtain ⟨b, hb⟩ : ∃ b, s.extract (f + i + 1) s.size = b := ⟨_, rfl⟩
            rw [hb]
            have HBb := hide hb
            clear hix HCI HX hb
            by_cases h155 : 155 < f + i
            · have hz : (155 : Int) < (f : Int) + (a.size : Int) := by omega
              have HF := hide (spl_none s (unhide HOK) (by omega) (by rw [unhide HC0, if_pos (by omega)]))
              go_wp2_with fail
              go_ret3
              rw [unhide HF]
              exact ⟨rfl, unhide HB3⟩
            · have hz : ¬ ((155 : Int) < (f : Int) + (a.size : Int)) := by omega
              have HF := hide (spl_hit s (unhide HOK) (by omega) (f + i) (by rw [unhide HC0, if_neg (by omega)]; omega))
              clear HC0
              rw [unhide HBb] at HF
              clear HBb
              go_wp2_with fail
              go_ret3
              rw [unhide HF, hf]
              exact ⟨rfl, unhide HB3⟩
  · have h1' : (256 : Int) < (s.size : Int) := by omega
    have HF := hide (spl_bad s (by unfold okP; simp; intro h; omega))
    go_enter Tryd.func27, Tryd.ntmps27
    go_wp2_with fail
    go_ret3
    rw [unhide HF]
    exact ⟨rfl, Below.refl _ _⟩


theorem CheckPath_any (s : ByteArray) (w : World) (hs : s.size ≤ 9223372036854775807) (hg : Glob w) :
    Calls Tryd.prog 26 #[.string s] w fun e w' => e = .returned (.int .i64 (spl s).2.2) ∧ Below w.heap.size w w' := by
  have c1 := hide (Split_any s w hs hg)
  clear hg
  generalize spl s = p at *
  obtain ⟨a, b, e0⟩ := p
  simp only at c1
  go_enter Tryd.func26, Tryd.ntmps26
  go_wp2_with fail
  refine (unhide c1).mono ?_
  rintro e w1 ⟨rfl, hb1⟩
  have HB1 := hide hb1
  clear hb1
  go_wp2_with fail
  go_ret
  exact ⟨rfl, unhide HB1⟩

end Go.Proofs.YtjmomdnlibfbkaaDoor
