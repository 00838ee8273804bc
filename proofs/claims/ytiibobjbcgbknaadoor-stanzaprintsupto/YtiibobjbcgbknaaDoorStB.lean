import Derived.Test.YtiibobjbcgbknaaDoorStA
import Derived.Laws.IdiomStrings
import Derived.Lib.ConvBytes
namespace Go.Proofs.YtiibobjbcgbknaaDoor
open Go.RowKit

theorem tl (s : ByteArray) : s.toList = s.data.toList := Lib.toList_data s
theorem ba_tl (l : Bs) : (ba l).toList = l := tl (ba l)
theorem cons_of (s : ByteArray) (h : 0 < s.size) : ∃ r, s.data.toList = s[0] :: r ∧ r.length + 1 = s.size := by
  cases e : s.data.toList with
  | nil => have := size_list s; rw [e] at this; simp at this; omega
  | cons b r =>
    refine ⟨r, ?_, by have := size_list s; rw [e] at this; simpa using this⟩
    have h0 : s.data.toList[0]? = some b := by rw [e]; rfl
    have h1 : s.data.toList[0]? = some s[0] := List.getElem?_eq_getElem (l := s.data.toList) (by simpa using h)
    rw [h1] at h0
    rw [Option.some.inj h0]

set_option maxHeartbeats 2000000 in
theorem kindOf_any (s : ByteArray) (w : World) (hs : s.size ≤ 9223372036854775807) :
    Calls Tryd.prog 55 #[.string s] w fun e w' => e = .returned (.int .i64 (kd s.data.toList)) ∧ Below w.heap.size w w' := by
  have c1 := hide (fun w => by have := cTrim s.data.toList w (by rw [size_list]; exact hs); rw [ba_of] at this; exact this)
  by_cases ht : Lib.trimS s.data.toList bl2 = []
  · have HF := hide (show kd s.data.toList = 0 by unfold kd; rw [if_pos ht])
    have hb : (ba (Lib.trimS s.data.toList bl2)).toList = [] := by rw [ba_tl]; exact ht
    generalize ba (Lib.trimS s.data.toList bl2) = t at *
    clear ht
    go_enter Tryd.func55, Tryd.ntmps55
    go_wp2_with (go_at_call 63; refine (unhide c1 _).mono ?_; rintro e w' ⟨rfl, hb1⟩)
    go_ret
    exact ⟨ret_int (by rw [unhide HF]; rfl), hb1⟩
  · have hb : ¬ (ba (Lib.trimS s.data.toList bl2)).toList = [] := by rw [ba_tl]; exact ht
    have h0 : 0 < s.size := by
      rcases Nat.eq_zero_or_pos s.size with h | h
      · exfalso
        apply ht
        have : s.data.toList = [] := List.length_eq_zero_iff.1 (by rw [size_list]; exact h)
        rw [this]
        rfl
      · exact h
    obtain ⟨r, hr, _⟩ := cons_of s h0
    have hk : kd s.data.toList = if s[0] = 35 then 1 else if s[0] = 32 then 2 else if s[0] = 9 then 2 else 3 := by
      unfold kd
      rw [if_neg ht, hr]
    have HK := hide hk
    generalize ba (Lib.trimS s.data.toList bl2) = t at *
    clear ht hr hk
    have n1 : s[0] = 35 ↔ s[0].toNat = 35 := ⟨fun h => by rw [h]; rfl, fun h => UInt8.toNat_inj.1 h⟩
    have n2 : s[0] = 32 ↔ s[0].toNat = 32 := ⟨fun h => by rw [h]; rfl, fun h => UInt8.toNat_inj.1 h⟩
    have n3 : s[0] = 9 ↔ s[0].toNat = 9 := ⟨fun h => by rw [h]; rfl, fun h => UInt8.toNat_inj.1 h⟩
    have HN := hide (And.intro n1 (And.intro n2 n3))
    clear n1 n2 n3
    go_enter Tryd.func55, Tryd.ntmps55
    go_wp2_with (go_at_call 63; refine (unhide c1 _).mono ?_; rintro e w' ⟨rfl, hb1⟩)
    all_goals
      go_ret
      refine ⟨ret_int ?_, hb1⟩
      obtain ⟨n1, n2, n3⟩ := unhide HN
      rw [unhide HK]
      simp only [n1, n2, n3]
      repeat' split
      all_goals (first | omega | (exfalso; simp_all; omega) | simp_all)

set_option maxRecDepth 100000 in
set_option maxHeartbeats 2000000 in
theorem isName_any (s : ByteArray) (w : World) (hs : s.size ≤ 9223372036854775807) :
    Calls Tryd.prog 46 #[.string s] w fun e w' => e = .returned (.bool (nameL s.data.toList)) ∧ w' = w := by
  rcases Nat.eq_zero_or_pos s.size with h0 | h0
  · have hl : s.data.toList = [] := List.length_eq_zero_iff.1 (by rw [size_list]; exact h0)
    have hb : s.toList = [] := by rw [tl, hl]
    have HF := hide (show nameL s.data.toList = false by rw [hl]; rfl)
    clear h0 hl
    go_enter Tryd.func46, Tryd.ntmps46
    go_wp2
    go_ret
    exact ⟨ret_bool (unhide HF).symm, rfl⟩
  · obtain ⟨r, hr, hz⟩ := cons_of s h0
    have hb : ¬ s.toList = [] := by rw [tl, hr]; simp
    have HK := hide (show nameL s.data.toList = (decide (s.size ≤ 128) && (decide (s[0].toNat ≠ 35) && (decide (s[0].toNat ≠ 45) && s.data.toList.all nmB))) by
      rw [hr]
      show (decide (r.length < 128) && _) = _
      rw [show decide (r.length < 128) = decide (s.size ≤ 128) from decide_eq_decide.2 (by omega)])
    clear hr hz
    by_cases h1 : s.size ≤ 128
    · by_cases h2 : s[0].toNat = 35
      · have HF := hide (show nameL s.data.toList = false by rw [unhide HK]; simp [h2])
        have e2 : (s[0].toNat : Int) = 35 := by omega
        clear h2
        go_enter Tryd.func46, Tryd.ntmps46
        go_wp2
        go_ret
        exact ⟨ret_bool (unhide HF).symm, rfl⟩
      · by_cases h3 : s[0].toNat = 45
        · have HF := hide (show nameL s.data.toList = false by rw [unhide HK]; simp [h3])
          have e2 : (s[0].toNat : Int) ≠ 35 := by omega
          have e3 : (s[0].toNat : Int) = 45 := by omega
          clear h2 h3
          go_enter Tryd.func46, Tryd.ntmps46
          go_wp2
          go_ret
          exact ⟨ret_bool (unhide HF).symm, rfl⟩
        · have HG := hide (show nameL s.data.toList = s.data.toList.all nmB by rw [unhide HK]; simp [h1, h2, h3])
          have e2 : (s[0].toNat : Int) ≠ 35 := by omega
          have e3 : (s[0].toNat : Int) ≠ 45 := by omega
          clear h2 h3 HK
          go_enter Tryd.func46, Tryd.ntmps46
          go_wp2
          · exfalso
            rename_i hx
            rcases hx with ((h | h) | h) | h
            · exact hb (List.isEmpty_iff.1 h)
            · omega
            · exact e2 (by simpa using h)
            · exact e3 (by simpa using h)
          clear e2 e3
          go_loop [23] (fun i => ∃ k : Nat, k ≤ s.size ∧ i = .int .i64 k ∧ Hid (∀ j (hj : j < s.size), j < k → nmB s[j] = true)) (fun i => s.size - (intOf i).toNat)
          case atStart => exact ⟨0, Nat.zero_le _, rfl, hide (fun j _ h => absurd h (Nat.not_lt_zero _))⟩
          case round =>
            obtain ⟨k, hk, rfl, HZ⟩ := hrel
            by_cases hlt : k < s.size
            · have HD := hide (show nmB s[k] = (decide (32 < s[k].toNat) && (decide (s[k].toNat ≤ 126) && decide (s[k].toNat ≠ 58))) from rfl)
              have HBad := hide (fun (h : nmB s[k] = false) => show nameL s.data.toList = false by
                rw [unhide HG, List.all_eq_false]
                exact ⟨s[k], List.getElem_mem (l := s.data.toList) (by simpa using hlt), by rw [h]; simp⟩)
              have HZ2 := hide (fun (h : nmB s[k] = true) => show ∀ j (hj : j < s.size), j < k + 1 → nmB s[j] = true from fun j hj hjk => by
                by_cases e : j < k
                · exact unhide HZ j hj e
                · obtain rfl : j = k := by omega
                  exact h)
              by_cases a1 : s[k].toNat ≤ 32
              · have b1 : (s[k].toNat : Int) ≤ 32 := by omega
                have HF := hide (unhide HBad (by rw [unhide HD]; simp; omega))
                clear HBad HZ2 HZ HD a1
                go_wp2
                go_ret
                exact ⟨ret_bool (unhide HF).symm, rfl⟩
              · have b1 : ¬ (s[k].toNat : Int) ≤ 32 := by omega
                by_cases a2 : 126 < s[k].toNat
                · have b2 : (126 : Int) < (s[k].toNat : Int) := by omega
                  have HF := hide (unhide HBad (by rw [unhide HD]; simp; omega))
                  clear HBad HZ2 HZ HD a1 a2
                  go_wp2
                  go_ret
                  exact ⟨ret_bool (unhide HF).symm, rfl⟩
                · have b2 : ¬ (126 : Int) < (s[k].toNat : Int) := by omega
                  by_cases a3 : s[k].toNat = 58
                  · have b3 : (s[k].toNat : Int) = 58 := by omega
                    have HF := hide (unhide HBad (by rw [unhide HD]; simp [a3]))
                    clear HBad HZ2 HZ HD a1 a2 a3
                    go_wp2
                    go_ret
                    exact ⟨ret_bool (unhide HF).symm, rfl⟩
                  · have b3 : (s[k].toNat : Int) ≠ 58 := by omega
                    have HN := hide (unhide HZ2 (by rw [unhide HD]; simp [a3]; omega))
                    clear HBad HZ2 HZ HD a1 a2 a3
                    go_wp2
                    go_round
                    case rel => exact ⟨k + 1, by omega, by go_num, HN⟩
                    case measure => simp [intOf]; omega
            · have HF := hide (show nameL s.data.toList = true by
                rw [unhide HG, List.all_eq_true]
                intro b hb
                obtain ⟨i, hi, rfl⟩ := List.getElem_of_mem hb
                exact unhide HZ i (by simpa using hi) (by simp at hi; omega))
              clear HZ
              go_wp2
              go_ret
              exact ⟨ret_bool (unhide HF).symm, rfl⟩
    · have HF := hide (show nameL s.data.toList = false by rw [unhide HK]; simp [h1])
      have e1 : (128 : Int) < (s.size : Int) := by omega
      clear h1
      go_enter Tryd.func46, Tryd.ntmps46
      go_wp2
      go_ret
      exact ⟨ret_bool (unhide HF).symm, rfl⟩

end Go.Proofs.YtiibobjbcgbknaaDoor
