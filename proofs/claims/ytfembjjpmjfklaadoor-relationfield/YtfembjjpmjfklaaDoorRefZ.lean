import Derived.Test.YtfembjjpmjfklaaDoorRefY
namespace Go.Proofs.YtfembjjpmjfklaaDoor
open Go.RowKit

theorem beq_lit {b : UInt8} {c : UInt8} (h : b = c) : ((b.toNat : Int) == (c.toNat : Int)) = true := by rw [byte_beq, h]; simp
theorem bne_lit {b : UInt8} {c : UInt8} (h : b ≠ c) : ((b.toNat : Int) == (c.toNat : Int)) = false := by rw [byte_beq]; simpa using h
theorem eq_lit {b : UInt8} {c : UInt8} (h : ((b.toNat : Int) == (c.toNat : Int)) = true) : b = c := by rw [byte_beq] at h; exact eq_of_beq h
theorem nmE_no {n : Int} (h : nmE n = false) : blI n = false ∧ (n == 40) = false := by
  unfold nmE at h
  simpa only [Bool.or_eq_false_iff] using h
theorem nmE_yes {n : Int} (h : nmE n = true) : blI n = true ∨ (blI n = false ∧ (n == 40) = true) := by
  unfold nmE at h
  cases h1 : blI n
  · rw [h1] at h; exact .inr ⟨rfl, by simpa using h⟩
  · exact .inl rfl
theorem pnI_no {n : Int} (h : pnI n = false) : (n == 40) = false ∧ (n == 41) = false := by
  unfold pnI at h
  simpa only [Bool.or_eq_false_iff] using h
theorem pnI_yes {n : Int} (h : pnI n = true) : (n == 40) = true ∨ ((n == 40) = false ∧ (n == 41) = true) := by
  unfold pnI at h
  cases h1 : (n == 40)
  · rw [h1] at h; exact .inr ⟨rfl, by simpa using h⟩
  · exact .inl rfl

/-- AN ATOM READ, its parts told. -/
def parseT (nm rs : ByteArray) : Am × Int :=
  if okName nm = false then (am0, 20) else
  if rs.size = 0 then (⟨nm, 0, nob⟩, 0) else
  if (readC rs).2.2 ≠ 0 then (am0, (readC rs).2.2) else (⟨nm, (readC rs).1, (readC rs).2.1⟩, 0)
theorem parseA_T (s : ByteArray) (h : ¬ 16777216 < s.size) : parseA s = parseT (cutN (trimB s)).1 (cutN (trimB s)).2 := by
  unfold parseA parseT
  rw [if_neg h]

set_option maxRecDepth 100000 in
set_option maxHeartbeats 16000000 in
theorem rParseAtom_any (s : ByteArray) (w : World) (hs : s.size ≤ maxLen) :
    Calls Tryd.prog 15 #[.string s] w fun e w' => e = .returned (.tuple #[amV (parseA s).1, .int .i64 (parseA s).2]) ∧ Below w.heap.size w w' := by
  by_cases hlong : 16777216 < s.size
  · have HH := hide (show parseA s = (am0, 2) by unfold parseA; rw [if_pos hlong])
    have hl : ((16777216 : Int) < (s.size : Int)) := by omega
    clear hlong hs
    go_enter Tryd.func15, Tryd.ntmps15
    go_wp2_with fail
    refine bodyPost_ret (v := .tuple #[amV am0, .int .i64 2]) (by simp [results, Tryd.results15, go_sem, nob, amV, am0]) rfl ⟨by rw [unhide HH], (Below.refl _ w).alloc (Nat.le_refl _) _⟩
  · have HF := hide (parseA_T s hlong)
    have hlt0 : ¬ ((16777216 : Int) < (s.size : Int)) := by omega
    have c1 := hide (fun w => rtrim_any s w hs)
    have z1 := trimB_size s
    have hl := trimB_last s
    have HB0 := hide ((Below.refl w.heap.size w).alloc (Nat.le_refl _) (.cells #[.string ⟨#[]⟩, .int .i64 0, .string ⟨#[]⟩] 34))
    generalize trimB s = t at *
    obtain ⟨n, hn, hall, hstop⟩ := firstN nmE t
    rw [cutN_at t hl n hn hall hstop] at HF
    simp only at HF
    have z2 : (t.extract n t.size).size ≤ maxLen := by rw [ByteArray.size_extract]; omega
    have z3 := trimB_size (t.extract n t.size)
    have z4 : (t.extract 0 n).size ≤ maxLen := by rw [ByteArray.size_extract]; omega
    have c2 := hide (fun w => rCheckName_any (t.extract 0 n) w z4)
    have c3 := hide (fun w => rtrim_any (t.extract n t.size) w z2)
    have hrz : (trimB (t.extract n t.size)).size ≤ maxLen := by omega
    generalize trimB (t.extract n t.size) = rs at *
    have HA := hide hall
    have HS := hide hstop
    have hts : t.size ≤ 9223372036854775807 := by unfold maxLen at hs; omega
    have hrs : rs.size ≤ 9223372036854775807 := by unfold maxLen at hrz; omega
    clear hl z1 z2 z3 z4 hall hstop hs
    have HRZ := hide hrz
    clear hrz hlong
    go_enter Tryd.func15, Tryd.ntmps15
    go_wp2_with (go_at_call 52; refine (unhide c1 _).mono ?_; rintro e w' ⟨rfl, rfl⟩)
    go_loop [4] (fun i => ∃ k : Nat, k ≤ n ∧ i = .int .i64 k) (fun i => t.size - (intOf i).toNat)
    case atStart => exact ⟨0, Nat.zero_le _, rfl⟩
    case round =>
      obtain ⟨k, hk, rfl⟩ := hrel
      by_cases hlt : k < n
      · have hkz : k < t.size := by omega
        obtain ⟨a1, a2⟩ := nmE_no (unhide HA k hkz hlt)
        go_wp2_with (go_at_call 53; refine (rblank_any _ _).mono ?_; rintro e w' ⟨rfl, rfl⟩)
        go_round
        case rel => exact ⟨k + 1, by omega, by go_num⟩
        case measure => simp [intOf]; omega
      · obtain rfl : k = n := by omega
        have stop : (∃ hj : k < t.size, blI (t[k].toNat : Int) = true) ∨ (∃ hj : k < t.size, blI (t[k].toNat : Int) = false ∧ ((t[k].toNat : Int) == 40) = true) ∨ t.size ≤ k := by
          rcases unhide HS with ⟨hj, h⟩ | h
          · rcases nmE_yes h with h | h
            · exact .inl ⟨hj, h⟩
            · exact .inr (.inl ⟨hj, h⟩)
          · exact .inr (.inr (Nat.le_of_eq h.symm))
        clear HS HA
        cases hok : okName (t.extract 0 k)
        · have HH := hide (show parseA s = (am0, 20) by rw [unhide HF]; unfold parseT; rw [if_pos hok])
          have c2' := hide (fun w => (ckName_no _ hok) ▸ unhide c2 w)
          clear c2 hok HF
          rcases stop with ⟨hj, b1⟩ | ⟨hj, b1, b2⟩ | hj
          all_goals
            go_wp2_with (first | (go_at_call 53; refine (rblank_any _ _).mono ?_; rintro e w' ⟨rfl, rfl⟩) | (go_at_call 54; refine (unhide c2' _).mono ?_; rintro e w' ⟨rfl, rfl⟩))
            refine bodyPost_ret (v := .tuple #[amV am0, .int .i64 20]) (by simp [results, Tryd.results15, go_sem, nob, amV, am0]) rfl ⟨by rw [unhide HH], (Below.refl _ w).alloc (Nat.le_refl _) _⟩
        · have c2' := hide (fun w => (ckName_yes _ hok) ▸ unhide c2 w)
          have HF2 := hide (show parseA s = if rs.size = 0 then (⟨t.extract 0 k, 0, nob⟩, 0) else if (readC rs).2.2 ≠ 0 then (am0, (readC rs).2.2) else (⟨t.extract 0 k, (readC rs).1, (readC rs).2.1⟩, 0) by rw [unhide HF]; unfold parseT; rw [if_neg (by simp [hok])])
          clear c2 hok HF
          by_cases hr : rs.size = 0
          · have HH := hide (show parseA s = (⟨t.extract 0 k, 0, nob⟩, 0) by rw [unhide HF2, if_pos hr])
            have hrl : rs.toList = [] := by
              have : rs.data.toList.length = 0 := by rw [size_list]; exact hr
              rw [Lib.toList_data, List.length_eq_zero_iff.1 this]
            have hre : (rs.toList == []) = true := by rw [hrl]; rfl
            clear HF2 hr hrs
            rcases stop with ⟨hj, b1⟩ | ⟨hj, b1, b2⟩ | hj
            all_goals
              go_wp2_with (first | (go_at_call 53; refine (rblank_any _ _).mono ?_; rintro e w' ⟨rfl, rfl⟩) | (go_at_call 54; refine (unhide c2' _).mono ?_; rintro e w' ⟨rfl, rfl⟩) | (go_at_call 52; refine (unhide c3 _).mono ?_; rintro e w' ⟨rfl, rfl⟩))
              refine bodyPost_ret (v := .tuple #[amV ⟨t.extract 0 k, 0, nob⟩, .int .i64 0]) (by simp [results, Tryd.results15, go_sem, nob, amV]) rfl ⟨by rw [unhide HH], (Below.refl _ w).alloc (Nat.le_refl _) _⟩
          · rw [if_neg hr] at HF2
            have hre : (rs.toList == []) = false := by
              cases h : (rs.toList == []) with
              | false => rfl
              | true =>
                have := eq_of_beq h
                rw [Lib.toList_data] at this
                exact absurd (by rw [← size_list, this]; rfl) hr
            clear hr
            have HN := hide (show (readC rs).2.2 = 23 → parseA s = (am0, 23) from fun h => by rw [unhide HF2, if_pos (by rw [h]; decide), h])
            have ways : (rs.size < 2 ∨ (∃ hz : 2 ≤ rs.size, ((rs[0].toNat : Int) == 40) = false) ∨ (∃ hz : 2 ≤ rs.size, ((rs[0].toNat : Int) == 40) = true ∧ ((rs[rs.size - 1].toNat : Int) == 41) = false)) ∨ (∃ hz : 2 ≤ rs.size, ((rs[0].toNat : Int) == 40) = true ∧ ((rs[rs.size - 1].toNat : Int) == 41) = true) := by
              by_cases h2 : rs.size < 2
              · exact .inl (.inl h2)
              · have hz : 2 ≤ rs.size := by omega
                cases h0 : ((rs[0].toNat : Int) == 40)
                · exact .inl (.inr (.inl ⟨hz, h0⟩))
                · cases h1 : ((rs[rs.size - 1].toNat : Int) == 41)
                  · exact .inl (.inr (.inr ⟨hz, h0, h1⟩))
                  · exact .inr ⟨hz, h0, h1⟩
            rcases ways with bad | ⟨hz, q1, q2⟩
            · have HH := hide (unhide HN (by
                rw [readC_W, if_pos (cutB_bad rs (by
                  rcases bad with h | ⟨hz, h⟩ | ⟨hz, h1, h2⟩
                  · exact .inl h
                  · exact .inr (.inl ⟨hz, fun e => by rw [e] at h; exact absurd h (by decide)⟩)
                  · exact .inr (.inr ⟨hz, eq_lit (c := 40) h1, fun e => by rw [e] at h2; exact absurd h2 (by decide)⟩)))]))
              clear HF2 HN
              have bad2 : rs.size < 2 ∨ (∃ hz : 2 ≤ rs.size, ((rs[0].toNat : Int) == 40) = false ∧ ((rs[0].toNat : Int) != 40) = true) ∨ (∃ hz : 2 ≤ rs.size, ((rs[0].toNat : Int) == 40) = true ∧ ((rs[0].toNat : Int) != 40) = false ∧ ((rs[rs.size - 1].toNat : Int) == 41) = false ∧ ((rs[rs.size - 1].toNat : Int) != 41) = true) := by
                rcases bad with h | ⟨hz, h⟩ | ⟨hz, h1, h2⟩
                · exact .inl h
                · exact .inr (.inl ⟨hz, h, by unfold bne; rw [h]; rfl⟩)
                · exact .inr (.inr ⟨hz, h1, by unfold bne; rw [h1]; rfl, h2, by unfold bne; rw [h2]; rfl⟩)
              clear bad
              rcases bad2 with h | ⟨hz, q, q'⟩ | ⟨hz, q1, q1', q2, q2'⟩ <;> rcases stop with ⟨hj, b1⟩ | ⟨hj, b1, b2⟩ | hj
              all_goals
                go_wp2_with (first | (go_at_call 53; refine (rblank_any _ _).mono ?_; rintro e w' ⟨rfl, rfl⟩) | (go_at_call 54; refine (unhide c2' _).mono ?_; rintro e w' ⟨rfl, rfl⟩) | (go_at_call 52; refine (unhide c3 _).mono ?_; rintro e w' ⟨rfl, rfl⟩))
                refine bodyPost_ret (v := .tuple #[amV am0, .int .i64 23]) (by simp [results, Tryd.results15, go_sem, nob, amV, am0]) rfl ⟨by rw [unhide HH], (Below.refl _ w).alloc (Nat.le_refl _) _⟩
            · have g0 := eq_lit (c := 40) q1
              have g1 := eq_lit (c := 41) q2
              obtain ⟨m, hm, pall, pstop⟩ := firstN pnI (rs.extract 1 (rs.size - 1))
              have c5 := hide (fun w => rwithin_any (rs.extract 1 (rs.size - 1)) w (by rw [ByteArray.size_extract]; have := unhide HRZ; omega))
              have HE := hide (show anyP (rs.extract 1 (rs.size - 1)) = true → parseA s = (am0, 23) from fun h => unhide HN (by rw [readC_W, if_pos (cutB_par rs hz g0 g1 h)]))
              have HK := hide (show anyP (rs.extract 1 (rs.size - 1)) = false → readC rs = readW (trimB (rs.extract 1 (rs.size - 1))) from fun h => by rw [readC_W, cutB_ok rs hz g0 g1 h, if_neg (by simp)])
              have hiz : (rs.extract 1 (rs.size - 1)).size ≤ 9223372036854775807 := by rw [ByteArray.size_extract]; omega
              obtain ⟨inn, HINN⟩ : ∃ x, Hid (rs.extract 1 (rs.size - 1) = x) := ⟨_, hide rfl⟩
              rw [unhide HINN] at hm pstop c5 HE HK hiz
              have PA := hide (show ∀ j (hj : j < inn.size), j < m → pnI (inn[j].toNat : Int) = false by have h := pall; rw [unhide HINN] at h; exact h)
              clear pall g0 g1 HN
              have q1' : ((rs[0].toNat : Int) != 40) = false := by unfold bne; rw [q1]; rfl
              have q2' : ((rs[rs.size - 1].toNat : Int) != 41) = false := by unfold bne; rw [q2]; rfl
              rcases pstop with ⟨hj2, hp⟩ | hme
              · have HH := hide (unhide HE (anyP_yes inn m hj2 (unhide PA) hp))
                have HP := hide (pnI_yes hp)
                clear HE HK HF2 c5 hp
                rcases stop with ⟨hj, b1⟩ | ⟨hj, b1, b2⟩ | hj
                all_goals
                  go_wp2_with (first | (go_at_call 53; refine (rblank_any _ _).mono ?_; rintro e w' ⟨rfl, rfl⟩) | (go_at_call 54; refine (unhide c2' _).mono ?_; rintro e w' ⟨rfl, rfl⟩) | (go_at_call 52; refine (unhide c3 _).mono ?_; rintro e w' ⟨rfl, rfl⟩))
                  rw [unhide HINN]
                  go_loop [8] (fun i => ∃ k : Nat, k ≤ m ∧ i = .int .i64 k) (fun i => inn.size - (intOf i).toNat)
                  case atStart => exact ⟨0, Nat.zero_le _, rfl⟩
                  case round =>
                    obtain ⟨k2, hk2, rfl⟩ := hrel
                    by_cases hlt2 : k2 < m
                    · have hkz2 : k2 < inn.size := by omega
                      obtain ⟨a1, a2⟩ := pnI_no (unhide PA k2 hkz2 hlt2)
                      go_wp2_with fail
                      go_round
                      case rel => exact ⟨k2 + 1, by omega, by go_num⟩
                      case measure => simp [intOf]; omega
                    · obtain rfl : k2 = m := by omega
                      rcases unhide HP with p1 | ⟨p1, p2⟩
                      all_goals
                        go_wp2_with fail
                        refine bodyPost_ret (v := .tuple #[amV am0, .int .i64 23]) (by simp [results, Tryd.results15, go_sem, nob, amV, am0]) rfl ⟨by rw [unhide HH], (Below.refl _ w).alloc (Nat.le_refl _) _⟩
              · have HR := unhide HK (anyP_no inn (fun j hj => unhide PA j hj (by omega)))
                rw [HR] at HF2
                rcases hrw : readW (trimB inn) with ⟨op, ver, e0⟩
                rw [hrw] at HF2 c5
                simp only at HF2 c5
                clear HR hrw HE HK
                have hmi : m = inn.size := hme
                have PA2 := hide (show ∀ j (hj : j < inn.size), pnI (inn[j].toNat : Int) = false from fun j hj => unhide PA j hj (by omega))
                clear PA hme hmi hm
                by_cases he : e0 = 0
                · subst he
                  have HH := hide (show parseA s = (⟨t.extract 0 k, op, ver⟩, 0) by rw [unhide HF2, if_neg (by simp)])
                  clear HF2
                  rcases stop with ⟨hj, b1⟩ | ⟨hj, b1, b2⟩ | hj
                  all_goals
                    go_wp2_with (first | (go_at_call 53; refine (rblank_any _ _).mono ?_; rintro e w' ⟨rfl, rfl⟩) | (go_at_call 54; refine (unhide c2' _).mono ?_; rintro e w' ⟨rfl, rfl⟩) | (go_at_call 52; refine (unhide c3 _).mono ?_; rintro e w' ⟨rfl, rfl⟩))
                    rw [unhide HINN]
                    go_loop [8] (fun i => ∃ k : Nat, k ≤ inn.size ∧ i = .int .i64 k) (fun i => inn.size - (intOf i).toNat)
                    case atStart => exact ⟨0, Nat.zero_le _, rfl⟩
                    case round =>
                      obtain ⟨k2, hk2, rfl⟩ := hrel
                      by_cases hlt2 : k2 < inn.size
                      · obtain ⟨a1, a2⟩ := pnI_no (unhide PA2 k2 hlt2)
                        go_wp2_with fail
                        go_round
                        case rel => exact ⟨k2 + 1, by omega, by go_num⟩
                        case measure => simp [intOf]; omega
                      · go_wp2_with (go_at_call 55; refine (unhide c5 _).mono ?_; rintro e w3 ⟨rfl, hb3⟩; have HB3 := hide hb3; have hq := hb3.size; obtain ⟨hc2, hf2⟩ := bcell hb3; simp at hq; clear hb3)
                        refine bodyPost_ret (v := .tuple #[amV ⟨t.extract 0 k, op, ver⟩, .int .i64 0]) (by simp [results, Tryd.results15, go_sem, amV, hc2]) rfl ⟨by rw [unhide HH], below_set3 ((unhide HB0).trans ((unhide HB3).mono (unhide HB0).size)) _ _ _⟩
                · have HH := hide (show parseA s = (am0, e0) by rw [unhide HF2, if_pos he])
                  have hen : (e0 == 0) = false := by simpa using he
                  clear HF2 he
                  rcases stop with ⟨hj, b1⟩ | ⟨hj, b1, b2⟩ | hj
                  all_goals
                    go_wp2_with (first | (go_at_call 53; refine (rblank_any _ _).mono ?_; rintro e w' ⟨rfl, rfl⟩) | (go_at_call 54; refine (unhide c2' _).mono ?_; rintro e w' ⟨rfl, rfl⟩) | (go_at_call 52; refine (unhide c3 _).mono ?_; rintro e w' ⟨rfl, rfl⟩))
                    rw [unhide HINN]
                    go_loop [8] (fun i => ∃ k : Nat, k ≤ inn.size ∧ i = .int .i64 k) (fun i => inn.size - (intOf i).toNat)
                    case atStart => exact ⟨0, Nat.zero_le _, rfl⟩
                    case round =>
                      obtain ⟨k2, hk2, rfl⟩ := hrel
                      by_cases hlt2 : k2 < inn.size
                      · obtain ⟨a1, a2⟩ := pnI_no (unhide PA2 k2 hlt2)
                        go_wp2_with fail
                        go_round
                        case rel => exact ⟨k2 + 1, by omega, by go_num⟩
                        case measure => simp [intOf]; omega
                      · go_wp2_with (go_at_call 55; refine (unhide c5 _).mono ?_; rintro e w3 ⟨rfl, hb3⟩; have HB3 := hide hb3; have hq := hb3.size; obtain ⟨hc2, hf2⟩ := bcell hb3; simp at hq; clear hb3)
                        refine bodyPost_ret (v := .tuple #[amV am0, .int .i64 e0]) (by simp [results, Tryd.results15, go_sem, nob, amV, am0, hc2]) rfl ⟨by rw [unhide HH], below_set3 ((unhide HB0).trans ((unhide HB3).mono (unhide HB0).size)) _ _ _⟩

end Go.Proofs.YtfembjjpmjfklaaDoor
