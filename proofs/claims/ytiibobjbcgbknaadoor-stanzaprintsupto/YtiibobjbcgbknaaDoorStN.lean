import Derived.Test.YtiibobjbcgbknaaDoorStK
import Derived.Test.YtiibobjbcgbknaaDoorStM
namespace Go.Proofs.YtiibobjbcgbknaaDoor
open Go.RowKit

set_option maxRecDepth 100000 in
set_option maxHeartbeats 2000000 in
theorem take_any (base B : Nat) (p : List Fd) (k : Nat) (s : Bs) (w : World) (hs2 : s.length ≤ 16777216) (hkd : kd s ≠ 0) (hP : Par base B w p) (hG : Glob w) (hbd : bd 16777216 p) (hk1 : 1 ≤ k) (hk2 : k ≤ 16777217) :
    Calls Tryd.prog 57 #[.pointer (some ⟨B, 0, none⟩), .int .i64 (kd s), .int .i64 k, .string (ba s)] w fun e w' => e = .returned (.int .i64 (takeP p k s).1) ∧ Par base B w' (takeP p k s).2 ∧ FB base B w w' := by
  have hsne : s ≠ [] := fun e => by subst e; exact hkd rfl
  have c1 := hide (fun w => by have := hasOdd_any (ba s) w (by rw [ba_size]; omega); rw [ba_list] at this; exact this)
  have c2 := hide (goOn_any base B p k s w hsne hs2 hP hbd)
  have c3 := hide (begin_any base B p k s w hs2 hP hG hbd hk1 hk2)
  have hbw := hP.hb
  cases ho : oddL s
  · rw [ho] at c1
    by_cases h2 : kd s = 2
    · have HF := hide (show takeP p k s = goP p k s by unfold takeP; rw [ho, h2]; rfl)
      rw [h2]
      clear ho h2 hkd hsne c3
      generalize ba s = sb at *
      go_enter Tryd.func57, Tryd.ntmps57
      go_wp2_with (first | (go_at_call 72; refine (unhide c1 _).mono ?_; rintro e w1 ⟨rfl, rfl⟩) | (go_at_call 73; refine (unhide c2).mono ?_; rintro e w2 ⟨rfl, hp2, hb2⟩; have HP2 := hide hp2; have HB2 := hide hb2; clear hp2 hb2))
      go_ret
      rw [unhide HF]
      exact ⟨rfl, unhide HP2, FB.of_below (unhide HB2) (Nat.le_refl _)⟩
    · by_cases h3 : kd s = 3
      · have HF := hide (show takeP p k s = beP p k s by unfold takeP; rw [ho, h3]; rfl)
        rw [h3]
        clear ho h2 h3 hkd hsne c2
        generalize ba s = sb at *
        go_enter Tryd.func57, Tryd.ntmps57
        go_wp2_with (first | (go_at_call 72; refine (unhide c1 _).mono ?_; rintro e w1 ⟨rfl, rfl⟩) | (go_at_call 74; refine (unhide c3).mono ?_; rintro e w2 ⟨rfl, hp2, hb2⟩; have HP2 := hide hp2; have HB2 := hide hb2; clear hp2 hb2))
        go_ret
        rw [unhide HF]
        exact ⟨rfl, unhide HP2, unhide HB2⟩
      · have HF := hide (show takeP p k s = (0, p) by unfold takeP; rw [ho, if_neg h2, if_neg h3]; rfl)
        have h1 : kd s = 1 := by
          have : kd s ≤ 3 := by
            unfold kd
            split
            · omega
            · split
              · omega
              · repeat' split
                all_goals omega
          omega
        rw [h1]
        clear ho h1 h2 h3 hkd hsne c2 c3
        generalize ba s = sb at *
        go_enter Tryd.func57, Tryd.ntmps57
        go_wp2_with (first | (go_at_call 72; refine (unhide c1 _).mono ?_; rintro e w1 ⟨rfl, rfl⟩))
        go_ret
        rw [unhide HF]
        exact ⟨rfl, hP, FB.refl _ _ _⟩
  · have HF := hide (show takeP p k s = (30, p) by unfold takeP; rw [ho]; rfl)
    rw [ho] at c1
    generalize ba s = sb at *
    generalize (kd s : Int) = z at *
    clear ho hkd hsne c2 c3
    go_enter Tryd.func57, Tryd.ntmps57
    go_wp2_with (first | (go_at_call 72; refine (unhide c1 _).mono ?_; rintro e w1 ⟨rfl, rfl⟩))
    go_ret
    rw [unhide HF]
    exact ⟨rfl, hP, FB.refl _ _ _⟩

set_option maxRecDepth 100000 in
set_option maxHeartbeats 2000000 in
/-- A PARAGRAPH IS PUT BEHIND THOSE THAT ARE THERE. -/
theorem Parse1_any (bl Bl m : Nat) (lv : Value) (cs : List Value) (k : Int) (pa : Option Addr) (pn pc : Nat) (w : World) (hB : w.heap[Bl]? = some (.cells #[lv] 24 (0, 0))) (hrow : w.ownsRow bl 39 1 lv m cs) (hm : m ≤ 16777216) (hbl : bl ≤ w.heap.size) :
    Calls Tryd.prog 36 #[.int .i64 k, .slice pa pn pc, .pointer (some ⟨Bl, 0, none⟩)] w fun e w' => e = .returned (.bool true) ∧
      ∃ w2 lv2, (w.alloc (.cells #[.slice pa pn pc] 39)).grownBy w2 lv.ownBlock ∧ w2.ownsRow bl 39 1 lv2 (m + 1) (cs ++ [.slice pa pn pc]) ∧ w2.heap[Bl]? = some (.cells #[lv] 24 (0, 0)) ∧ w' = w2.setCell ⟨Bl, 0, none⟩ lv2 := by
  obtain ⟨i0, hi, hz0, hz1, hz2⟩ := info_parts info39
  have hlt : Bl < w.heap.size := (Array.getElem?_eq_some_iff.1 hB).1
  have hne : some Bl ≠ lv.ownBlock := fun e => by
    obtain ⟨c, hc, _⟩ := ownsRow_blk hrow e.symm
    rw [hB] at hc
    cases hc
  have c0 := (cell_blk hB 0).1
  have HN := hide hne
  have HR := hide hrow
  clear hne hrow
  go_enter Tryd.func36, Tryd.ntmps36
  go_wp2_with (at_builtin; go_must (refine wpList_append_own_at _ rfl _ _ 24 rfl bl 39 i0 (.slice none 0 0) 1 24 Tryd.underlying24 hi hz0 hz1 hz2 rfl (by decide) lv m cs rfl (ownsRow_al (unhide HR) _) ⟨w.heap.size, 0, none⟩ 1 1 [.slice pa pn pc] rfl rfl (cell_one_new _ _ _) (by simp [Value.oneCell']) (by unfold maxLen; omega) (by omega) (by simp; omega) ?_); intro v2 w2 hown2 hgrow2 _ _; have HX2 := hide ((hgrow2.block Bl (by simp; omega) (unhide HN)).trans ((Below.heap_alloc w _ Bl hlt).trans hB)); have e2 := (cell_blk (unhide HX2) 0).1; have f2 := (cell_blk (unhide HX2) 0).2; have HO2 := hide hown2; have HW2 := hide hgrow2; obtain ⟨g2, cap2, cur2, rfl, -⟩ := slice_of hown2; clear hown2 hgrow2)
  go_ret
  exact ⟨rfl, w2, _, unhide HW2, unhide HO2, unhide HX2, rfl⟩

end Go.Proofs.YtiibobjbcgbknaaDoor
