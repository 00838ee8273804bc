import Derived.Test.YtohncccejlccbaaAsL
namespace Go.Proofs.Ytohncccejlccbaa
open Go.RowKit Go.Shelf

set_option maxHeartbeats 2000000 in
theorem w1_any (x : Nat) (hx : x ≤ 1114111) (w : World) :
    Calls Try.prog 27 #[.int .i32 x] w fun e w' => e = .returned (.bool (bl3 x)) ∧ w' = w := by
  obtain ⟨R, hR⟩ : ∃ R, bl3 x = R := ⟨_, rfl⟩
  rw [hR]
  go_enter Try.func27, Try.ntmps27
  go_wp2
  all_goals go_ret
  all_goals refine ⟨?_, rfl⟩
  all_goals rw [← hR]
  · obtain rfl : x = 32 := by omega
    rfl
  · obtain rfl : x = 9 := by omega
    rfl
  · show Ending.returned (.bool ((x : Int) == 32 || (x : Int) == 9 || (x : Int) == 10)) = _
    have h : ∀ k : Nat, ((x : Int) == (k : Int)) = (x == k) := fun k => by
      rw [Bool.eq_iff_iff, beq_iff_eq, beq_iff_eq]
      omega
    have h1 := h 32
    have h2 := h 9
    have h3 := h 10
    simp only [Int.cast_ofNat_Int] at h1 h2 h3
    rw [h1, h2, h3]
    rfl

def wds (ls : List Bs) : List Bs := wordsB (Lib.join ls [10]) []
set_option maxHeartbeats 2000000 in
theorem Words_any (nm : ByteArray) (av : Value) (ls : List Bs) (la : Option Addr) (lc : Nat) (w : World) (hl : ls.length ≤ 16777216) (hcap : ls.length ≤ lc) (hsz : (Lib.join ls [10]).length ≤ 268435456) (hC : Cl w la (strs ls)) :
    Calls Try.prog 9 #[.agg #[.string nm, .slice la ls.length lc, av]] w fun e w' => ∃ A, e = .returned (.slice (some ⟨A, 0, none⟩) (wds ls).length (wds ls).length) ∧ w'.ownsRow w.heap.size 9 1 (.slice (some ⟨A, 0, none⟩) (wds ls).length (wds ls).length) (wds ls).length (strs (wds ls)) ∧ Below w.heap.size w w' := by
  have BX := hide ((Below.refl w.heap.size w).alloc (Nat.le_refl _) (.cells #[.string nm, .slice la ls.length lc, av] 30))
  have cJ := hide (Joined_any nm av ls la lc (w.alloc (.cells #[.string nm, .slice la ls.length lc, av] 30)) hl hcap hsz (hC.later (unhide BX)))
  have cF := hide (fun (W : World) => (by
    have h := Try.strings_FieldsFunc_runes 27 #[] (enters_of Try.func27 (by kernel_rfl) rfl) bl3 (ba (Lib.join ls [10])) W (by rw [ba_size]; omega) (fun W' x hx hb => (w1_any x hx W').mono fun e w' hh => ⟨hh.1, 0, hh.2⟩)
    rw [fields_len, fields_vals] at h
    exact h : Calls Try.prog 26 #[.string (ba (Lib.join ls [10])), .func (.func 27) #[] #[]] W fun e w' => ∃ A, e = .returned (.slice (some ⟨A, 0, none⟩) (wds ls).length (wds ls).length) ∧ W.heap.size ≤ A ∧ w'.ownsRow W.heap.size 9 1 (.slice (some ⟨A, 0, none⟩) (wds ls).length (wds ls).length) (wds ls).length (strs (wds ls)) ∧ Below W.heap.size W w'))
  generalize ba (Lib.join ls [10]) = jl at *
  generalize wds ls = wl at *
  clear hC hsz hcap hl
  go_enter Try.func9, Try.ntmps9
  go_wp2_with (first | (go_at_call 11; refine (unhide cJ).mono ?_; rintro e w1 ⟨rfl, hb⟩; have HB1 := hide (bl_t (unhide BX) hb); clear hb) | (go_at_call 26; refine (unhide cF _).mono ?_; rintro e w2 ⟨A, rfl, hA, ho, hb⟩; have HO := hide ho; have HB2 := hide (bl_t (unhide HB1) hb); clear ho hb))
  go_ret
  exact ⟨A, rfl, (unhide HO).mono (unhide HB1).size, unhide HB2⟩

theorem rblank_any (c : UInt8) (w : World) : Calls Try.prog 28 #[.int .u8 (c.toNat : Int)] w fun e w' => e = .returned (.bool (c == 32 || c == 9)) ∧ w = w' := by
  obtain ⟨R, hR⟩ : ∃ R, (c == 32 || c == 9) = R := ⟨_, rfl⟩
  rw [hR]
  go_enter Try.func28, Try.ntmps28
  go_wp2
  all_goals go_ret
  all_goals refine ⟨?_, rfl⟩
  all_goals rw [← hR]
  · have e : c = 32 := UInt8.toNat_inj.1 (by show c.toNat = 32; omega)
    subst e
    rfl
  · show Ending.returned (.bool ((c.toNat : Int) == 32 || (c.toNat : Int) == 9)) = _
    have h : ∀ k : UInt8, ((c.toNat : Int) == (k.toNat : Int)) = (c == k) := fun k => by
      rw [Bool.eq_iff_iff, beq_iff_eq, beq_iff_eq, ← UInt8.toNat_inj]
      omega
    rw [show (32 : Int) = ((32 : UInt8).toNat : Int) from rfl, show (9 : Int) = ((9 : UInt8).toNat : Int) from rfl, h, h]

set_option maxHeartbeats 4000000 in
theorem rWords_any (nm : ByteArray) (av : Value) (ls : List Bs) (la : Option Addr) (lc : Nat) (w : World) (hl : ls.length ≤ 16777216) (hsz : (Lib.join ls [10]).length ≤ 16777216) (hC : Cl w la (strs ls)) :
    Calls Try.prog 10 #[.agg #[.string nm, .slice la ls.length lc, av]] w fun e w' => ∃ lv, e = .returned lv ∧ w'.ownsRow w.heap.size 9 1 lv (wds ls).length (strs (wds ls)) ∧ Below w.heap.size w w' := by
  obtain ⟨i9, hi9, z9a, z9b, z9c⟩ := info_parts info9
  have BX := hide ((Below.refl w.heap.size w).alloc (Nat.le_refl _) (.cells #[.string nm, .slice la ls.length lc, av] 30))
  have cJ := hide (rJoined_any nm av ls la lc (w.alloc (.cells #[.string nm, .slice la ls.length lc, av] 30)) hl (by omega) (hC.later (unhide BX)))
  unfold wds
  generalize Lib.join ls [10] = J at *
  clear hC hl
  go_enter Try.func10, Try.ntmps10
  go_wp2_with (go_at_call 12; refine (unhide cJ).mono ?_; rintro e w1 ⟨rfl, hb⟩; have HB1 := hide (bl_t (unhide BX) hb); clear hb cJ)
  go_loopw [4, 5, 6] (fun lv wv iv wr => ∃ (i : Nat) (cur : Bs) (lw : List Bs), i ≤ J.length ∧ iv = .int .i64 i ∧ wv = .string (ba cur) ∧ cur.length ≤ i ∧ lw.length ≤ i ∧ Hid (lw ++ wordsB (J.drop i) cur = wordsB J []) ∧ Hid (wr.ownsRow w.heap.size 9 1 lv lw.length (strs lw)) ∧ Hid (Below w.heap.size w wr)) (fun _ _ iv _ => J.length - (intOf iv).toNat)
  case atStart => exact ⟨0, [], [], Nat.zero_le _, rfl, rfl, Nat.zero_le _, Nat.zero_le _, hide (by simp), hide (World.ownsRow_nil _ _ _ _), HB1⟩
  case round =>
    obtain ⟨i, cur, lw, hi, rfl, rfl, hc1, hc2, HW, HO, HB⟩ := hrel
    rename World => W
    have hJs : (ba J).size = J.length := ba_size J
    by_cases hlt : i < J.length
    · have hltz : (i : Int) < (J.length : Int) := by omega
      have hz := (unhide HB).size
      have hdrop : J.drop i = J[i] :: J.drop (i + 1) := List.drop_eq_getElem_cons hlt
      have hci : (ba J)[i]'(by rw [ba_size]; exact hlt) = J[i] := rfl
      have cB0 := rblank_any ((ba J)[i]'(by rw [ba_size]; exact hlt)) W
      by_cases h1 : (J[i] == 32 || J[i] == 9) = true
      · have hisB : isB J[i] = true := by unfold isB; rw [h1]; rfl
        rw [hci, h1] at cB0
        have cB := hide (show Calls Try.prog 28 #[.int .u8 (((ba J)[i]'(by rw [ba_size]; exact hlt)).toNat : Int)] W fun e w' => e = .returned (.bool true) ∧ W = w' from cB0)
        clear cB0 hci h1
        by_cases hcur : cur = []
        · subst hcur
          have hn : (ba ([] : Bs)).toList.isEmpty = true := by rw [ba_tl]; rfl
          have HE := hide (show lw ++ wordsB (J.drop (i + 1)) [] = wordsB J [] by rw [← unhide HW, hdrop, wordsB, if_pos hisB, if_pos rfl])
          clear HW hdrop hisB
          go_wp2_with (go_at_call 28; refine (unhide cB).mono ?_; rintro e w' ⟨rfl, rfl⟩)
          go_roundw
          case rel => exact ⟨i + 1, [], lw, by omega, by go_num, rfl, Nat.zero_le _, by omega, HE, HO, HB⟩
          case measure => simp [intOf]; omega
        · have hn : (ba cur).toList.isEmpty = false := by rw [ba_tl]; cases cur with
            | nil => exact absurd rfl hcur
            | cons _ _ => rfl
          have HE := hide (show (lw ++ [cur]) ++ wordsB (J.drop (i + 1)) [] = wordsB J [] by rw [← unhide HW, hdrop, wordsB, if_pos hisB, if_neg hcur, List.append_assoc]; rfl)
          clear HW hdrop hisB
          go_wp2_with (first | (go_at_call 28; refine (unhide cB).mono ?_; rintro e w' ⟨rfl, rfl⟩) | (at_builtin; go_must (refine wpList_append_own _ rfl _ _ 27 rfl w.heap.size 9 i9 (.string ⟨#[]⟩) 1 16 Try.underlying27 hi9 z9a z9b z9c rfl (by decide) _ _ _ rfl ((unhide HO).alloc _) ⟨W.heap.size, 0, none⟩ 1 1 [.string (ba cur)] rfl rfl (cell_one_new _ _ _) (by simp [Value.oneCell']) (by unfold maxLen; omega) (by omega) (by simp; omega) ?_); intro v2 w2 hown2 hgrow2 _; have HO2 := hide hown2; have HB2 := hide (((unhide HB).alloc hz _).grown hgrow2 (by simp; omega) (fun j e => (ownsRow_blk (unhide HO) e).choose_spec.2.1)); clear hown2 hgrow2))
          go_roundw
          case rel => exact ⟨i + 1, [], lw ++ [cur], by omega, by go_num, rfl, Nat.zero_le _, by simp; omega, HE, hide (by have h := unhide HO2; simpa [strs] using h), HB2⟩
          case measure => simp [intOf]; omega
      · have h1f : (J[i] == 32 || J[i] == 9) = false := by simpa using h1
        rw [hci, h1f] at cB0
        have cB := hide (show Calls Try.prog 28 #[.int .u8 (((ba J)[i]'(by rw [ba_size]; exact hlt)).toNat : Int)] W fun e w' => e = .returned (.bool false) ∧ W = w' from cB0)
        clear cB0
        by_cases h2 : J[i] = 10
        · have hisB : isB J[i] = true := by unfold isB; rw [h2]; rfl
          have h10 : (((ba J)[i]'(by rw [ba_size]; exact hlt)).toNat : Int) = 10 := by rw [hci, h2]; rfl
          replace cB := hide (show Calls Try.prog 28 #[.int .u8 10] W fun e w' => e = .returned (.bool false) ∧ W = w' from rblank_any 10 W)
          clear hci h1 h1f h2
          by_cases hcur : cur = []
          · subst hcur
            have hn : (ba ([] : Bs)).toList.isEmpty = true := by rw [ba_tl]; rfl
            have HE := hide (show lw ++ wordsB (J.drop (i + 1)) [] = wordsB J [] by rw [← unhide HW, hdrop, wordsB, if_pos hisB, if_pos rfl])
            clear HW hdrop hisB
            go_wp2_with (go_at_call 28; refine (unhide cB).mono ?_; rintro e w' ⟨rfl, rfl⟩)
            go_roundw
            case rel => exact ⟨i + 1, [], lw, by omega, by go_num, rfl, Nat.zero_le _, by omega, HE, HO, HB⟩
            case measure => simp [intOf]; omega
          · have hn : (ba cur).toList.isEmpty = false := by rw [ba_tl]; cases cur with
              | nil => exact absurd rfl hcur
              | cons _ _ => rfl
            have HE := hide (show (lw ++ [cur]) ++ wordsB (J.drop (i + 1)) [] = wordsB J [] by rw [← unhide HW, hdrop, wordsB, if_pos hisB, if_neg hcur, List.append_assoc]; rfl)
            clear HW hdrop hisB
            go_wp2_with (first | (go_at_call 28; refine (unhide cB).mono ?_; rintro e w' ⟨rfl, rfl⟩) | (at_builtin; go_must (refine wpList_append_own _ rfl _ _ 27 rfl w.heap.size 9 i9 (.string ⟨#[]⟩) 1 16 Try.underlying27 hi9 z9a z9b z9c rfl (by decide) _ _ _ rfl ((unhide HO).alloc _) ⟨W.heap.size, 0, none⟩ 1 1 [.string (ba cur)] rfl rfl (cell_one_new _ _ _) (by simp [Value.oneCell']) (by unfold maxLen; omega) (by omega) (by simp; omega) ?_); intro v2 w2 hown2 hgrow2 _; have HO2 := hide hown2; have HB2 := hide (((unhide HB).alloc hz _).grown hgrow2 (by simp; omega) (fun j e => (ownsRow_blk (unhide HO) e).choose_spec.2.1)); clear hown2 hgrow2))
            go_roundw
            case rel => exact ⟨i + 1, [], lw ++ [cur], by omega, by go_num, rfl, Nat.zero_le _, by simp; omega, HE, hide (by have h := unhide HO2; simpa [strs] using h), HB2⟩
            case measure => simp [intOf]; omega
        · have hisB : isB J[i] = false := by unfold isB; rw [h1f]; simpa using h2
          have h10 : ¬ (((ba J)[i]'(by rw [ba_size]; exact hlt)).toNat : Int) = 10 := by
            rw [hci]
            intro e
            exact h2 (UInt8.toNat_inj.1 (by show (J[i]).toNat = 10; omega))
          have HE := hide (show lw ++ wordsB (J.drop (i + 1)) (cur ++ [J[i]]) = wordsB J [] by rw [← unhide HW, hdrop, wordsB, if_neg (by rw [hisB]; decide)])
          have HX := hide (show ba cur ++ (ba J).extract i (i + 1) = ba (cur ++ [J[i]]) by
            rw [← ba_cat]
            congr 1
            apply ByteArray.ext
            apply Array.toList_inj.1
            rw [ext_list]
            show (J.drop i).take (i + 1 - i) = [J[i]]
            rw [hdrop, show i + 1 - i = 1 by omega]
            rfl)
          have hcs : (ba cur).size ≤ 268435456 := by rw [ba_size]; omega
          clear HW hdrop hisB hci h1 h1f h2
          go_wp2_with (go_at_call 28; refine (unhide cB).mono ?_; rintro e w' ⟨rfl, rfl⟩)
          rw [unhide HX]
          go_roundw
          case rel => exact ⟨i + 1, cur ++ [J[i]], lw, by omega, by go_num, rfl, by simp; omega, by omega, HE, HO, HB⟩
          case measure => simp [intOf]; omega
    · obtain rfl : i = J.length := by omega
      have hz := (unhide HB).size
      have hW := unhide HW
      rw [List.drop_length] at hW
      by_cases hcur : cur = []
      · subst hcur
        have hn : (ba ([] : Bs)).toList.isEmpty = true := by rw [ba_tl]; rfl
        have HE := hide (show lw = wordsB J [] by simpa [wordsB] using hW)
        clear hW HW
        go_wp2_with fail
        go_ret
        exact ⟨_, rfl, by rw [← unhide HE]; exact unhide HO, unhide HB⟩
      · have hn : (ba cur).toList.isEmpty = false := by rw [ba_tl]; cases cur with
          | nil => exact absurd rfl hcur
          | cons _ _ => rfl
        have HE := hide (show lw ++ [cur] = wordsB J [] by rw [← hW, wordsB, if_neg hcur])
        clear hW HW
        go_wp2_with (at_builtin; go_must (refine wpList_append_own _ rfl _ _ 27 rfl w.heap.size 9 i9 (.string ⟨#[]⟩) 1 16 Try.underlying27 hi9 z9a z9b z9c rfl (by decide) _ _ _ rfl ((unhide HO).alloc _) ⟨W.heap.size, 0, none⟩ 1 1 [.string (ba cur)] rfl rfl (cell_one_new _ _ _) (by simp [Value.oneCell']) (by unfold maxLen; omega) (by omega) (by simp; omega) ?_); intro v2 w2 hown2 hgrow2 _; have HO2 := hide hown2; have HB2 := hide (((unhide HB).alloc hz _).grown hgrow2 (by simp; omega) (fun j e => (ownsRow_blk (unhide HO) e).choose_spec.2.1)); clear hown2 hgrow2)
        go_ret
        refine ⟨_, rfl, ?_, unhide HB2⟩
        rw [← unhide HE]
        have h := unhide HO2
        simpa [strs] using h
end Go.Proofs.Ytohncccejlccbaa
