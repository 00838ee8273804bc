import Derived.Test.YtiibobjbcgbknaaDoorStT
namespace Go.Proofs.YtiibobjbcgbknaaDoor
open Go.RowKit Go.Shelf

theorem lowB_yes' {b : UInt8} (h1 : 65 ≤ b.toNat) (h2 : b.toNat ≤ 90) : ((lowB b).toNat : Int) = b.toNat + 32 := by
  rw [lowB_yes h1 h2]
  omega
set_option maxHeartbeats 1000000 in
theorem rodd_any (b : UInt8) (w : World) :
    Calls Tryd.prog 85 #[.int .u8 b.toNat] w fun e w' => e = .returned (.bool (oddB b)) ∧ w' = w := by
  have HO := hide (show oddB b = ((decide (b.toNat < 32) && (decide (b.toNat ≠ 9) && decide (b.toNat ≠ 10))) || decide (b.toNat = 127)) from rfl)
  go_enter Tryd.func85, Tryd.ntmps85
  go_wp2
  all_goals
    go_ret
    refine ⟨ret_bool ?_, rfl⟩
    rw [unhide HO]
    simp_all
    try (first | omega | (rw [Bool.eq_iff_iff]; simp; omega))

set_option maxHeartbeats 2000000 in
theorem rOdd_any (s : ByteArray) (w : World) (hs : s.size ≤ 9223372036854775807) :
    Calls Tryd.prog 65 #[.string s] w fun e w' => e = .returned (.bool (oddL s.data.toList)) ∧ w' = w := by
  go_enter Tryd.func65, Tryd.ntmps65
  go_wp2
  go_loop [3] (fun i => ∃ k : Nat, k ≤ s.size ∧ i = .int .i64 k ∧ Hid (∀ j (hj : j < s.size), j < k → oddB s[j] = false)) (fun i => s.size - (intOf i).toNat)
  case atStart => exact ⟨0, Nat.zero_le _, rfl, hide (fun j _ h => absurd h (Nat.not_lt_zero _))⟩
  case round =>
    obtain ⟨k, hk, rfl, HZ⟩ := hrel
    by_cases hlt : k < s.size
    · cases ho : oddB s[k]
      · have HO := hide ho
        have HZ2 := hide (show ∀ j (hj : j < s.size), j < k + 1 → oddB s[j] = false from fun j hj hjk => by
          by_cases e : j < k
          · exact unhide HZ j hj e
          · obtain rfl : j = k := by omega
            exact unhide HO)
        have c1 := hide (fun w => by have := rodd_any s[k] w; rw [ho] at this; exact this)
        clear ho HZ
        go_wp2_with (go_at_call 85; refine (unhide c1 _).mono ?_; rintro e w' ⟨rfl, rfl⟩)
        go_round
        case rel => exact ⟨k + 1, by omega, by go_num, HZ2⟩
        case measure => simp [intOf]; omega
      · have HF := hide (show oddL s.data.toList = true by
          unfold oddL
          rw [List.any_eq_true]
          exact ⟨s[k], List.getElem_mem (l := s.data.toList) (by simpa using hlt), ho⟩)
        have c1 := hide (fun w => by have := rodd_any s[k] w; rw [ho] at this; exact this)
        clear ho HZ
        go_wp2_with (go_at_call 85; refine (unhide c1 _).mono ?_; rintro e w' ⟨rfl, rfl⟩)
        go_ret
        exact ⟨ret_bool (unhide HF).symm, rfl⟩
    · have HF := hide (show oddL s.data.toList = false by
        unfold oddL
        rw [List.any_eq_false]
        intro b hb
        obtain ⟨i, hi, rfl⟩ := List.getElem_of_mem hb
        have := unhide HZ i (by simpa using hi) (by simp at hi; omega)
        rw [show s.data.toList[i] = s[i]'(by simpa using hi) from rfl, this]
        simp)
      clear HZ
      go_wp2
      go_ret
      exact ⟨ret_bool (unhide HF).symm, rfl⟩

set_option maxRecDepth 100000 in
set_option maxHeartbeats 2000000 in
theorem rName_any (s : ByteArray) (w : World) (hs : s.size ≤ 9223372036854775807) :
    Calls Tryd.prog 49 #[.string s] w fun e w' => e = .returned (.bool (nameL s.data.toList)) ∧ w' = w := by
  rcases Nat.eq_zero_or_pos s.size with h0 | h0
  · have hl : s.data.toList = [] := List.length_eq_zero_iff.1 (by rw [size_list]; exact h0)
    have hb : (s.size : Int) < 1 := by omega
    have HF := hide (show nameL s.data.toList = false by rw [hl]; rfl)
    clear hl h0
    go_enter Tryd.func49, Tryd.ntmps49
    go_wp2
    go_ret
    exact ⟨ret_bool (unhide HF).symm, rfl⟩
  · obtain ⟨r, hr, hz⟩ := cons_of s h0
    have hb : ¬ (s.size : Int) < 1 := by omega
    have HK := hide (show nameL s.data.toList = (decide (s.size ≤ 128) && (decide (s[0].toNat ≠ 35) && (decide (s[0].toNat ≠ 45) && s.data.toList.all nmB))) by
      rw [hr]
      show (decide (r.length < 128) && _) = _
      rw [show decide (r.length < 128) = decide (s.size ≤ 128) from decide_eq_decide.2 (by omega)])
    clear hr hz
    by_cases h1 : s.size ≤ 128
    · by_cases h2 : s[0].toNat = 35
      · have HF := hide (show nameL s.data.toList = false by rw [unhide HK]; simp [h2])
        have e2 : (s[0].toNat : Int) = 35 := by omega
        clear h2
        go_enter Tryd.func49, Tryd.ntmps49
        go_wp2
        go_ret
        exact ⟨ret_bool (unhide HF).symm, rfl⟩
      · by_cases h3 : s[0].toNat = 45
        · have HF := hide (show nameL s.data.toList = false by rw [unhide HK]; simp [h3])
          have e2 : (s[0].toNat : Int) ≠ 35 := by omega
          have e3 : (s[0].toNat : Int) = 45 := by omega
          clear h2 h3
          go_enter Tryd.func49, Tryd.ntmps49
          go_wp2
          go_ret
          exact ⟨ret_bool (unhide HF).symm, rfl⟩
        · have HG := hide (show nameL s.data.toList = s.data.toList.all nmB by rw [unhide HK]; simp [h1, h2, h3])
          have e2 : (s[0].toNat : Int) ≠ 35 := by omega
          have e3 : (s[0].toNat : Int) ≠ 45 := by omega
          clear h2 h3 HK
          go_enter Tryd.func49, Tryd.ntmps49
          go_wp2
          · exfalso
            rename_i hx
            rcases hx with (h | h) | h
            · omega
            · exact e2 (by simpa using h)
            · exact e3 (by simpa using h)
          clear e2 e3
          go_loop [3] (fun i => ∃ k : Nat, k ≤ s.size ∧ i = .int .i64 k ∧ Hid (∀ j (hj : j < s.size), j < k → nmB s[j] = true)) (fun i => s.size - (intOf i).toNat)
          case atStart => exact ⟨0, Nat.zero_le _, rfl, hide (fun j _ h => absurd h (Nat.not_lt_zero _))⟩
          case round =>
            obtain ⟨k, hk, rfl, HZ⟩ := hrel
            by_cases hlt : k < s.size
            · have HD := hide (show nmB s[k] = (decide (32 < s[k].toNat) && (decide (s[k].toNat ≤ 126) && decide (s[k].toNat ≠ 58))) from rfl)
              have HBad := hide (fun (h : nmB s[k] = false) => show nameL s.data.toList = false by
                rw [unhide HG, List.all_eq_false]
                exact ⟨s[k], List.getElem_mem (l := s.data.toList) (by simpa using hlt), by rw [h]; simp⟩)
              have HZ2 := hide (fun (h : nmB s[k] = true) => show ∀ j (hj : j < s.size), j < k + 1 → nmB s[j] = true from fun j hj hjk => by
                by_cases e : j < k
                · exact unhide HZ j hj e
                · obtain rfl : j = k := by omega
                  exact h)
              by_cases a1 : s[k].toNat ≤ 32
              · have b1 : (s[k].toNat : Int) < 33 := by omega
                have HF := hide (unhide HBad (by rw [unhide HD]; simp; omega))
                clear HBad HZ2 HZ HD a1
                go_wp2
                go_ret
                exact ⟨ret_bool (unhide HF).symm, rfl⟩
              · have b1 : ¬ (s[k].toNat : Int) < 33 := by omega
                by_cases a2 : 126 < s[k].toNat
                · have b2 : (126 : Int) < (s[k].toNat : Int) := by omega
                  have HF := hide (unhide HBad (by rw [unhide HD]; simp; omega))
                  clear HBad HZ2 HZ HD a1 a2
                  go_wp2
                  go_ret
                  exact ⟨ret_bool (unhide HF).symm, rfl⟩
                · have b2 : ¬ (126 : Int) < (s[k].toNat : Int) := by omega
                  by_cases a3 : s[k].toNat = 58
                  · have b3 : (s[k].toNat : Int) = 58 := by omega
                    have HF := hide (unhide HBad (by rw [unhide HD]; simp [a3]))
                    clear HBad HZ2 HZ HD a1 a2 a3
                    go_wp2
                    go_ret
                    exact ⟨ret_bool (unhide HF).symm, rfl⟩
                  · have b3 : (s[k].toNat : Int) ≠ 58 := by omega
                    have HN := hide (unhide HZ2 (by rw [unhide HD]; simp [a3]; omega))
                    clear HBad HZ2 HZ HD a1 a2 a3
                    go_wp2
                    go_round
                    case rel => exact ⟨k + 1, by omega, by go_num, HN⟩
                    case measure => simp [intOf]; omega
            · have HF := hide (show nameL s.data.toList = true by
                rw [unhide HG, List.all_eq_true]
                intro b hb
                obtain ⟨i, hi, rfl⟩ := List.getElem_of_mem hb
                exact unhide HZ i (by simpa using hi) (by simp at hi; omega))
              clear HZ
              go_wp2
              go_ret
              exact ⟨ret_bool (unhide HF).symm, rfl⟩
    · have HF := hide (show nameL s.data.toList = false by rw [unhide HK]; simp [h1])
      have e1 : (128 : Int) < (s.size : Int) := by omega
      clear h1
      go_enter Tryd.func49, Tryd.ntmps49
      go_wp2
      go_ret
      exact ⟨ret_bool (unhide HF).symm, rfl⟩

set_option maxHeartbeats 2000000 in
theorem rlower_any (s : ByteArray) (w : World) (hs : s.size ≤ 9223372036854775807) :
    Calls Tryd.prog 76 #[.string s] w fun e w' => e = .returned (.string (ba (small s.data.toList))) ∧ Below w.heap.size w w' := by
  obtain ⟨W1, cap, hcv, hcell, hfr, hbel⟩ := bytes_new s w
  have HC := hide hcell
  have HFr := hide hfr
  have HB := hide hbel
  clear hcell hfr hbel
  go_enter Tryd.func76, Tryd.ntmps76
  go_wp2
  clear hcv
  go_loopw [4] (fun i wr => ∃ k : Nat, k ≤ s.size ∧ i = .int .i64 k ∧ Hid (∀ j (hj : j < s.size), wr.cell? ⟨w.heap.size, j, none⟩ = some (.int .u8 ((smK s k j hj).toNat : Int))) ∧ Hid (∀ j, j < s.size → wr.frozen? ⟨w.heap.size, j, none⟩ = false) ∧ Hid (Below w.heap.size w wr)) (fun i _ => s.size - (intOf i).toNat)
  case atStart =>
    refine ⟨0, Nat.zero_le _, rfl, hide fun j hj => ?_, HFr, HB⟩
    rw [unhide HC j hj]
    unfold smK
    rw [if_neg (by omega)]
  case round =>
    obtain ⟨k, hk, rfl, HZ, HR, HBl⟩ := hrel
    clear HC HFr HB
    by_cases hlt : k < s.size
    · have ck : wr.cell? ⟨w.heap.size, k, none⟩ = some (.int .u8 (s[k].toNat : Int)) := by
        have := unhide HZ k hlt
        unfold smK at this
        rw [if_neg (by omega)] at this
        exact this
      have fk := unhide HR k hlt
      by_cases hl : 65 ≤ s[k].toNat ∧ s[k].toNat ≤ 90
      · have e1 : (65 : Int) ≤ (s[k].toNat : Int) := by omega
        have e2 : (s[k].toNat : Int) ≤ 90 := by omega
        have HN := hide (show ∀ j (hj : j < s.size), (wr.setCell ⟨w.heap.size, k, none⟩ (.int .u8 ((s[k].toNat : Int) + 32))).cell? ⟨w.heap.size, j, none⟩ = some (.int .u8 ((smK s (k + 1) j hj).toNat : Int)) from fun j hj => by
          by_cases ej : j = k
          · subst ej
            rw [World.cell?_setCell_same' _ _ _ (by rw [ck]; rfl)]
            unfold smK
            rw [if_pos (by omega), lowB_yes' hl.1 hl.2]
          · rw [co _ _ _ _ (by intro h; cases h; exact ej rfl), unhide HZ j hj]
            unfold smK
            by_cases hjk : j < k
            · rw [if_pos hjk, if_pos (by omega)]
            · rw [if_neg hjk, if_neg (by omega)])
        have HBl2 := hide ((unhide HBl).setCell (p := ⟨w.heap.size, k, none⟩) (Nat.le_refl _) (.int .u8 ((s[k].toNat : Int) + 32)))
        have HR2 := hide (show ∀ j, j < s.size → (wr.setCell ⟨w.heap.size, k, none⟩ (.int .u8 ((s[k].toNat : Int) + 32))).frozen? ⟨w.heap.size, j, none⟩ = false from fun j hj => by
          rw [World.frozen?_setCell]; exact unhide HR j hj)
        clear HZ HBl hl HR
        go_wp2
        go_roundw
        case rel =>
          exact ⟨k + 1, by omega, by go_num, HN, HR2, HBl2⟩
        case measure => simp [intOf]; omega
      · have HN := hide (show ∀ j (hj : j < s.size), wr.cell? ⟨w.heap.size, j, none⟩ = some (.int .u8 ((smK s (k + 1) j hj).toNat : Int)) from fun j hj => by
          rw [unhide HZ j hj]
          unfold smK
          by_cases hjk : j < k
          · rw [if_pos hjk, if_pos (by omega)]
          · rw [if_neg hjk]
            by_cases ej : j = k
            · subst ej
              rw [if_pos (by omega), lowB_no hl]
            · rw [if_neg (by omega)])
        clear HZ
        by_cases e1 : 65 ≤ s[k].toNat
        · have e2 : (65 : Int) ≤ (s[k].toNat : Int) := by omega
          have e3 : ¬ (s[k].toNat : Int) ≤ 90 := by omega
          clear hl e1
          go_wp2
          go_roundw
          case rel => exact ⟨k + 1, by omega, by go_num, HN, HR, HBl⟩
          case measure => simp [intOf]; omega
        · have e2 : ¬ (65 : Int) ≤ (s[k].toNat : Int) := by omega
          clear hl e1
          go_wp2
          go_roundw
          case rel => exact ⟨k + 1, by omega, by go_num, HN, HR, HBl⟩
          case measure => simp [intOf]; omega
    · have hlen : (small s.data.toList).length = s.size := by unfold small; rw [List.length_map, size_list]
      have hcv := run_convert_bytes_back (P := Tryd.prog) wr 22 9 5 ⟨w.heap.size, 0, none⟩ cap (small s.data.toList) Tryd.underlying22 Tryd.underlying5 Tryd.underlying9 (fun j hj => by
        have hj2 : j < s.size := by omega
        have e : (⟨w.heap.size, 0, none⟩ : Addr).add j = ⟨w.heap.size, j, none⟩ := by unfold Addr.add; split <;> simp_all
        rw [e, unhide HZ j hj2]
        unfold smK
        rw [if_pos (by omega)]
        have : (small s.data.toList)[j] = lowB s[j] := by
          rw [small_get _ j hj (by simpa using hj2)]
          rfl
        rw [this])
      rw [hlen] at hcv
      have HF := hide (show (⟨(small s.data.toList).toArray⟩ : ByteArray) = ba (small s.data.toList) from rfl)
      clear HZ hlen
      go_wp2
      go_ret
      exact ⟨ret_str (unhide HF), unhide HBl⟩


def blB (b : UInt8) : Bool := bl2.contains b
theorem blB_int (b : UInt8) : blB b = (((b.toNat : Int) == 32) || ((b.toNat : Int) == 9)) := by
  have e : ∀ c : UInt8, ((b.toNat : Int) == (c.toNat : Int)) = (b == c) := fun c => by
    cases h : b == c
    · rw [beq_eq_false_iff_ne] at h ⊢
      intro e
      exact h (UInt8.toNat_inj.1 (by omega))
    · rw [eq_of_beq h]; simp
  have e1 := e 32
  have e2 := e 9
  unfold blB bl2
  simp only [List.contains_cons, List.contains_nil, Bool.or_false]
  rw [← e1, ← e2]
  rfl
set_option maxHeartbeats 400000 in
theorem rblank_any (b : UInt8) (w : World) :
    Calls Tryd.prog 86 #[.int .u8 b.toNat] w fun e w' => e = .returned (.bool (blB b)) ∧ w' = w := by
  have HB := hide (blB_int b)
  go_enter Tryd.func86, Tryd.ntmps86
  go_wp2
  all_goals go_ret
  all_goals exact ⟨ret_bool (by rw [unhide HB]; try (simp [*])), rfl⟩
theorem ext_tail (t : ByteArray) (hz : 0 < t.size) : t.data.toList = t[0] :: (t.extract 1 t.size).data.toList := by
  have h := Lib.extract_toList t 1 t.size
  rw [Lib.toList_data] at h
  rw [h]
  have hl := size_list t
  rw [List.take_of_length_le (by rw [List.length_drop]; omega)]
  have e := List.drop_eq_getElem_cons (l := t.data.toList) (i := 0) (by omega)
  rw [List.drop_zero] at e
  exact e
theorem ext_init (t : ByteArray) (hz : 0 < t.size) : t.data.toList = (t.extract 0 (t.size - 1)).data.toList ++ [t[t.size - 1]] := by
  have h := Lib.extract_toList t 0 (t.size - 1)
  rw [Lib.toList_data] at h
  rw [h, List.drop_zero]
  have hl := size_list t
  have e := List.take_append_getElem (l := t.data.toList) (i := t.size - 1) (by omega)
  rw [show t.size - 1 + 1 = t.data.toList.length by omega, List.take_length] at e
  exact e.symm
theorem trimL_cons (b : UInt8) (r : Bs) : Lib.trimLeftS (b :: r) bl2 = if blB b = true then Lib.trimLeftS r bl2 else b :: r := by
  unfold Lib.trimLeftS blB
  rw [List.dropWhile_cons]
theorem trimR_snoc (r : Bs) (b : UInt8) : Lib.trimRightS (r ++ [b]) bl2 = if blB b = true then Lib.trimRightS r bl2 else r ++ [b] := by
  unfold Lib.trimRightS blB
  rw [List.reverse_append]
  show ((b :: r.reverse).dropWhile _).reverse = _
  rw [List.dropWhile_cons]
  split <;> simp

set_option maxHeartbeats 2000000 in
theorem rFront_any (s : ByteArray) (w : World) :
    Calls Tryd.prog 66 #[.string s] w fun e w' => e = .returned (.string (ba (Lib.trimLeftS s.data.toList bl2))) ∧ w' = w := by
  go_enter Tryd.func66, Tryd.ntmps66
  go_wp2_with fail
  go_loop [0] (fun v => ∃ t : ByteArray, t.size ≤ s.size ∧ v = .string t ∧ Hid (Lib.trimLeftS s.data.toList bl2 = Lib.trimLeftS t.data.toList bl2)) (fun v => match v with | .string t => t.size | _ => 0)
  case atStart => exact ⟨s, Nat.le_refl _, rfl, hide rfl⟩
  case round =>
    obtain ⟨t, ht, rfl, HI⟩ := hrel
    by_cases hz : 0 < t.size
    · cases hb : blB t[0]
      · have HF := hide (show t = ba (Lib.trimLeftS s.data.toList bl2) by
          rw [unhide HI, ext_tail t hz, trimL_cons, hb, if_neg (by decide), ← ext_tail t hz, ba_of])
        have c1 := hide (fun w => by have := rblank_any t[0] w; rw [hb] at this; exact this)
        clear hb HI
        go_wp2_with (go_at_call 86; refine (unhide c1 _).mono ?_; rintro e w' ⟨rfl, rfl⟩)
        go_ret
        exact ⟨ret_str (unhide HF), rfl⟩
      · have HN := hide (show Lib.trimLeftS s.data.toList bl2 = Lib.trimLeftS (t.extract 1 t.size).data.toList bl2 by
          rw [unhide HI, ext_tail t hz, trimL_cons, hb, if_pos rfl])
        have c1 := hide (fun w => by have := rblank_any t[0] w; rw [hb] at this; exact this)
        clear hb HI
        go_wp2_with (go_at_call 86; refine (unhide c1 _).mono ?_; rintro e w' ⟨rfl, rfl⟩)
        go_round
        case rel => exact ⟨_, by rw [ByteArray.size_extract]; omega, rfl, HN⟩
        case measure => simp [ByteArray.size_extract]; omega
    · have HF := hide (show t = ba (Lib.trimLeftS s.data.toList bl2) by
        have hl := size_list t
        have e : t.data.toList = [] := List.length_eq_zero_iff.1 (by omega)
        rw [unhide HI, e]
        show t = ba []
        rw [← e, ba_of])
      clear HI
      go_wp2_with fail
      go_ret
      exact ⟨ret_str (unhide HF), rfl⟩
set_option maxHeartbeats 2000000 in
theorem rBack_any (s : ByteArray) (w : World) (hs : s.size ≤ 9223372036854775807) :
    Calls Tryd.prog 67 #[.string s] w fun e w' => e = .returned (.string (ba (Lib.trimRightS s.data.toList bl2))) ∧ w' = w := by
  go_enter Tryd.func67, Tryd.ntmps67
  go_wp2_with fail
  go_loop [0] (fun v => ∃ t : ByteArray, t.size ≤ s.size ∧ v = .string t ∧ Hid (Lib.trimRightS s.data.toList bl2 = Lib.trimRightS t.data.toList bl2)) (fun v => match v with | .string t => t.size | _ => 0)
  case atStart => exact ⟨s, Nat.le_refl _, rfl, hide rfl⟩
  case round =>
    obtain ⟨t, ht, rfl, HI⟩ := hrel
    by_cases hz : 0 < t.size
    · cases hb : blB t[t.size - 1]
      · have HF := hide (show t = ba (Lib.trimRightS s.data.toList bl2) by
          rw [unhide HI, ext_init t hz, trimR_snoc, hb, if_neg (by decide), ← ext_init t hz, ba_of])
        have c1 := hide (fun w => by have := rblank_any t[t.size - 1] w; rw [hb] at this; exact this)
        clear hb HI
        go_wp2_with (go_at_call 86; refine (unhide c1 _).mono ?_; rintro e w' ⟨rfl, rfl⟩)
        go_ret
        exact ⟨ret_str (unhide HF), rfl⟩
      · have HN := hide (show Lib.trimRightS s.data.toList bl2 = Lib.trimRightS (t.extract 0 (t.size - 1)).data.toList bl2 by
          rw [unhide HI]
          conv => lhs; rw [ext_init t hz]
          rw [trimR_snoc, hb, if_pos rfl])
        have c1 := hide (fun w => by have := rblank_any t[t.size - 1] w; rw [hb] at this; exact this)
        clear hb HI
        go_wp2_with (go_at_call 86; refine (unhide c1 _).mono ?_; rintro e w' ⟨rfl, rfl⟩)
        go_round
        case rel => exact ⟨_, by rw [ByteArray.size_extract]; omega, rfl, HN⟩
        case measure => simp [ByteArray.size_extract]; omega
    · have HF := hide (show t = ba (Lib.trimRightS s.data.toList bl2) by
        have hl := size_list t
        have e : t.data.toList = [] := List.length_eq_zero_iff.1 (by omega)
        rw [unhide HI, e]
        show t = ba []
        rw [← e, ba_of])
      clear HI
      go_wp2_with fail
      go_ret
      exact ⟨ret_str (unhide HF), rfl⟩

/-- THE PLACE OF THE FIRST COLON. -/
def colI (s : Bs) : Int := if 58 ∈ s then ((bef 58 s).length : Int) else -1
theorem bef_at (c : UInt8) : ∀ (l : Bs) (k : Nat) (hk : k < l.length), (∀ j (hj : j < l.length), j < k → l[j] ≠ c) → l[k] = c → c ∈ l ∧ (bef c l).length = k
  | [], k, hk, _, _ => absurd hk (Nat.not_lt_zero _)
  | b :: l, 0, _, _, h => by
    have h' : b = c := h
    exact ⟨by rw [h']; exact List.mem_cons_self, by unfold bef; rw [if_pos h']; rfl⟩
  | b :: l, k + 1, hk, hz, h => by
    obtain ⟨h1, h2⟩ := bef_at c l k (by simpa using hk) (fun j hj hjk => hz (j + 1) (by simpa using hj) (by omega)) h
    have hb : b ≠ c := hz 0 (by simp) (by omega)
    exact ⟨List.mem_cons_of_mem _ h1, by unfold bef; rw [if_neg hb]; simp [h2]⟩
set_option maxHeartbeats 2000000 in
theorem rcolon_any (s : ByteArray) (w : World) (hs : s.size ≤ 9223372036854775807) :
    Calls Tryd.prog 87 #[.string s] w fun e w' => e = .returned (.int .i64 (colI s.data.toList)) ∧ w' = w := by
  go_enter Tryd.func87, Tryd.ntmps87
  go_wp2_with fail
  go_loop [3] (fun i => ∃ k : Nat, k ≤ s.size ∧ i = .int .i64 k ∧ Hid (∀ j (hj : j < s.data.toList.length), j < k → s.data.toList[j] ≠ 58)) (fun i => s.size - (intOf i).toNat)
  case atStart => exact ⟨0, Nat.zero_le _, rfl, hide (fun j _ h => absurd h (Nat.not_lt_zero _))⟩
  case round =>
    obtain ⟨k, hk, rfl, HZ⟩ := hrel
    have hsl := size_list s
    by_cases hlt : k < s.size
    · by_cases hc : s[k].toNat = 58
      · have hc2 : (s[k].toNat : Int) = 58 := by omega
        have HF := hide (show colI s.data.toList = (k : Int) by
          obtain ⟨h1, h2⟩ := bef_at 58 s.data.toList k (by omega) (unhide HZ) (UInt8.toNat_inj.1 hc)
          unfold colI
          rw [if_pos h1, h2])
        clear HZ hc hsl
        go_wp2_with fail
        go_ret
        exact ⟨ret_int (unhide HF).symm, rfl⟩
      · have hc2 : ¬ (s[k].toNat : Int) = 58 := by omega
        have HZ2 := hide (show ∀ j (hj : j < s.data.toList.length), j < k + 1 → s.data.toList[j] ≠ 58 from fun j hj hjk => by
          by_cases e : j < k
          · exact unhide HZ j hj e
          · obtain rfl : j = k := by omega
            intro h
            exact hc (congrArg UInt8.toNat h))
        clear HZ hc hsl
        go_wp2_with fail
        go_round
        case rel => exact ⟨k + 1, by omega, by go_num, HZ2⟩
        case measure => simp [intOf]; omega
    · have HF := hide (show colI s.data.toList = -1 by
        unfold colI
        rw [if_neg]
        intro hm
        obtain ⟨i, hi, e⟩ := List.getElem_of_mem hm
        exact unhide HZ i hi (by omega) e)
      clear HZ hsl
      go_wp2_with fail
      go_ret
      exact ⟨ret_int (unhide HF).symm, rfl⟩
set_option maxHeartbeats 1000000 in
theorem rAlike_any (a b : ByteArray) (w : World) (ha : a.size ≤ 9223372036854775807) (hb : b.size ≤ 9223372036854775807) :
    Calls Tryd.prog 61 #[.string a, .string b] w fun e w' => e = .returned (.bool (decide (small a.data.toList = small b.data.toList))) ∧ Below w.heap.size w w' := by
  have c1 := hide (rlower_any a w ha)
  have c2 := hide (fun w1 => rlower_any b w1 hb)
  have HE := hide (show ∀ x y : Bs, ((ba x).toList == (ba y).toList) = decide (x = y) from fun x y => by
    rw [ba_tl, ba_tl]
    by_cases e : x = y
    · subst e; simp
    · rw [decide_eq_false e, beq_eq_false_iff_ne]
      exact e)
  generalize small a.data.toList = x at *
  generalize small b.data.toList = y at *
  go_enter Tryd.func61, Tryd.ntmps61
  go_wp2_with (first | (go_at_call 76; have _u := HB1; clear _u; refine (unhide c2 _).mono ?_; rintro e w2 ⟨rfl, hb2⟩; have HB2 := hide (bl_t (unhide HB1) hb2); clear hb2) | (go_at_call 76; refine (unhide c1).mono ?_; rintro e w1 ⟨rfl, hb1⟩; have HB1 := hide hb1; clear hb1))
  go_ret
  refine ⟨?_, unhide HB2⟩
  exact ret_bool (unhide HE x y)
end Go.Proofs.YtiibobjbcgbknaaDoor
