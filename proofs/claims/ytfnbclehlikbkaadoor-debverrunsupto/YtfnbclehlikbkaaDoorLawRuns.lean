import Derived.Test.YtfnbclehlikbkaaDoorLists
import Derived.Test.YtfnbclehlikbkaaDoorNoughtw
namespace Go.Proofs.YtfnbclehlikbkaaDoor
open Go.RowKit

/-- A SLICE OF ALL RUNS OF A PART. -/
def Segs (W : World) (v : Value) (s : ByteArray) : Prop := ∃ N, N ≤ 2097153 ∧ ia s N = s.size ∧ Sg W v s N
theorem Segs.later {W W' : World} {v : Value} {s : ByteArray} (h : Segs W v s) (hb : Below W.heap.size W W') : Segs W' v s := by
  obtain ⟨N, h1, h2, h3⟩ := h
  exact ⟨N, h1, h2, h3.later hb⟩
theorem Segments_sg (a : ByteArray) (ha : a.size ≤ 1048576) (w : World) :
    Calls Tryd.prog 21 #[.string a] w fun e W' => ∃ v, e = .returned v ∧ Segs W' v a ∧ Below w.heap.size w W' :=
  (Segments_any a ha w).mono fun _ _ ⟨v, N, h1, h2, _, h4, h5, h6⟩ => ⟨v, h1, ⟨N, by omega, h2, Sg.of_owns h5⟩, h6⟩
theorem lists_sg {s t : ByteArray} (hs : s.size ≤ 1048576) (ht : t.size ≤ 1048576) {v u : Value} {w : World} (h1 : Segs w v s) (h2 : Segs w u t) :
    Calls Tryd.prog 24 #[v, u] w fun e w' => e = .returned (.int .i64 (ordPart s t)) ∧ w' = w := by
  obtain ⟨N, a1, a2, a3⟩ := h1
  obtain ⟨M, b1, b2, b3⟩ := h2
  exact lists_any s t hs ht v u N M a1 b1 a2 b2 w a3 b3

theorem ia_pos_step (s : ByteArray) (n : Nat) (hn : 0 < n) (h : ia s n < s.size) : ia s n < ia s (n + 1) := by
  cases n with
  | zero => omega
  | succ m =>
    have hc := endAt_char s (odd m) (s.size - ia s m) (ia s m) (ia s (m + 1)) (Nat.le_refl _) rfl h
    have hd : (isDig (s[ia s (m + 1)].toNat : Int) == odd (m + 1)) = true := by
      show (isDig (s[ia s (m + 1)].toNat : Int) == !odd m) = true
      revert hc
      cases isDig (s[ia s (m + 1)].toNat : Int) <;> cases odd m <;> decide
    have e : ia s (m + 2) = endAt s (ia s (m + 1)) (odd (m + 1)) := rfl
    rw [← endAt_step s _ _ h hd] at e
    have := endAt_ge s (ia s (m + 1) + 1) (odd (m + 1))
    show ia s (m + 1) < ia s (m + 2)
    omega

theorem run_dig (s : ByteArray) (n k : Nat) (h : k < (runOf s n).size) : isDig ((runOf s n)[k].toNat : Int) = odd n := by
  obtain ⟨h2, e⟩ := runOf_at s n k h
  rw [e]
  have hz := runOf_sz s n
  have h3 := endAt_in s (odd n) (s.size - ia s n) (ia s n) (ia s n + k) (Nat.le_refl _) (by omega) (by show _ < ia s (n + 1); omega) h2
  exact eq_of_beq h3

theorem run_full (s : ByteArray) (n : Nat) (hn : 0 < n) (h : ia s n < s.size) : (runOf s n).toList.isEmpty = false := by
  rw [isEmpty_sz]
  have := ia_pos_step s n hn h
  have hz := runOf_sz s n
  have : ¬ (runOf s n).size = 0 := by omega
  simpa using this

theorem pre_run (s : ByteArray) (n : Nat) : s.extract 0 (ia s n) ++ runOf s n = s.extract 0 (ia s (n + 1)) := by
  apply ba_of_list
  unfold runOf
  have hm := ia_mono s n
  rw [toList_append, toList_extract, toList_extract, toList_extract, List.drop_zero, Nat.sub_zero, Nat.sub_zero]
  have e : ia s (n + 1) = ia s n + (ia s (n + 1) - ia s n) := by omega
  conv => rhs; rw [e]
  rw [List.take_add]

theorem ext_all (s : ByteArray) : s.extract 0 s.size = s := by
  apply ba_of_list
  rw [toList_extract, List.drop_zero, List.take_of_length_le (by simp)]

/-- THE LIST, AS THE LOOP READS IT. -/
theorem Sg.split {W : World} {v : Value} {s : ByteArray} {N : Nat} (h : Sg W v s N) : ∃ a c, v = .slice a N c ∧ ∀ i, i < N → ∃ g, a = some ⟨g, 0, none⟩ ∧ W.cell? ⟨g, i, none⟩ = some (.string (runOf s i)) := by
  rcases h with ⟨rfl, rfl⟩ | ⟨g, cap, rfl, _, hc⟩
  · exact ⟨none, 0, rfl, fun i h => absurd h (Nat.not_lt_zero _)⟩
  · exact ⟨some ⟨g, 0, none⟩, cap, rfl, fun i h => ⟨g, rfl, hc i h⟩⟩

theorem text_dig {e u r : ByteArray} {c d : Bool} {t : ByteArray} (h : text e u r c d = (t, 0)) : allB (kind 53) e = true := by
  obtain ⟨V, h1, h2⟩ := text_back e u r c d t h
  have h3 := parse_dig t
  rw [h1] at h3
  have h4 : V.e = e := by
    obtain ⟨E, U, R, C, D⟩ := V
    unfold eqv at h2
    simp at h2
    exact ba_of_list (by rw [← Lib.toList_data, ← Lib.toList_data]; exact h2.1.1.1.1)
  rw [← h4]
  exact h3

set_option maxRecDepth 8000 in
set_option maxHeartbeats 4000000 in
theorem debverRuns_walk (e u r : ByteArray) (c d : Bool) (E U R : ByteArray) (C D : Bool) (he : e.size ≤ 1048576) (hu : u.size ≤ 1048576) (hr : r.size ≤ 1048576) (hE : E.size ≤ 1048576) (hU : U.size ≤ 1048576) (hR : R.size ≤ 1048576) (w : World) :
    Calls Tryd.prog 8 #[.agg #[.string e, .string u, .string r, .bool c, .bool d], .agg #[.string E, .string U, .string R, .bool C, .bool D]] w fun x w' => x = .returned (.bool true) ∧ Below w.heap.size w w' := by
  have k1 := hide (fun w => Segments_any u hu w)
  have HX := hide (show Box5 w.heap.size ((w.alloc (.cells #[.string e, .string u, .string r, .bool c, .bool d] 24)).alloc (.cells #[.string E, .string U, .string R, .bool C, .bool D] 24)) e u r c d by refine ⟨?_, ?_, ?_, ?_, ?_, ?_⟩ <;> go_simp)
  have HY := hide (show Box5 (w.heap.size + 1) ((w.alloc (.cells #[.string e, .string u, .string r, .bool c, .bool d] 24)).alloc (.cells #[.string E, .string U, .string R, .bool C, .bool D] 24)) E U R C D by refine ⟨?_, ?_, ?_, ?_, ?_, ?_⟩ <;> go_simp)
  have HB := hide (show Below w.heap.size w ((w.alloc (.cells #[.string e, .string u, .string r, .bool c, .bool d] 24)).alloc (.cells #[.string E, .string U, .string R, .bool C, .bool D] 24)) from ((Below.refl w.heap.size w).alloc (Nat.le_refl _) _).alloc (by simp) _)
  go_enter Tryd.func8, Tryd.ntmps8
  go_wp2_with fail
  generalize (w.alloc (.cells #[.string e, .string u, .string r, .bool c, .bool d] 24)).alloc (.cells #[.string E, .string U, .string R, .bool C, .bool D] 24) = W0 at *
  refine (alive_any _).mono ?_
  rintro x w1 ⟨rfl, hb1⟩
  have HX1 := (unhide HX).later hb1
  have HY1 := hide ((unhide HY).later hb1)
  have HB1 := hide ((unhide HB).trans (hb1.mono (unhide HB).size))
  have HXX := hide HX1
  clear hb1 HX HY HB
  obtain ⟨x0, x1, x2, x3, x4, x5⟩ := HX1
  go_wp2_with fail
  clear x0 x1 x2 x3 x4 x5
  refine (unhide k1 _).mono ?_
  rintro x w2 ⟨lv, N, rfl, hN, hBef, hNs, hown, hb2⟩
  have HS := Sg.of_owns hown
  have HSS := hide (show Segs w2 lv u from ⟨N, by omega, hN, HS⟩)
  obtain ⟨va, vc, rfl, hcell⟩ := HS.split
  have HX2 := (unhide HXX).later hb2
  have HY2 := hide ((unhide HY1).later hb2)
  have HB2 := hide ((unhide HB1).trans (hb2.mono (unhide HB1).size))
  have HX2' := hide HX2
  clear hown HS hb2 HXX HY1 HB1 k1
  have HN := hide hN
  have HBef := hide hBef
  have Hcell := hide hcell
  clear hN hBef hcell
  obtain ⟨x0, x1, x2, x3, x4, x5⟩ := HX2
  go_wp2_with fail
  go_loop [6, 7, 8] (fun tv iv _ => ∃ i : Nat, i ≤ N ∧ iv = .int .i64 i ∧ ∃ t, tv = .string t ∧ t.size ≤ u.size ∧ Hid (t = u.extract 0 (ia u i))) (fun _ iv _ => N - (intOf iv).toNat)
  case atStart => exact ⟨0, Nat.zero_le _, rfl, ⟨#[]⟩, rfl, Nat.zero_le _, hide (ba_of_list (by rw [toList_extract]; rfl))⟩
  case round =>
    obtain ⟨i, hi, rfl, t, rfl, hts, ht⟩ := hrel
    by_cases hlt : i < N
    · obtain ⟨g, rfl, hci⟩ := unhide Hcell i hlt
      have hqs := runOf_size u i
      have HT := hide (show t ++ runOf u i = u.extract 0 (ia u (i + 1)) by rw [unhide ht]; exact pre_run u i)
      have hts2 : (t ++ runOf u i).size ≤ u.size := by rw [unhide HT]; exact size_le_of_extract _ _ _
      have key : (0 < i ∧ (runOf u i).toList.isEmpty = false) ∨ (¬ 0 < i ∧ (runOf u i).toList.isEmpty = false) ∨ (¬ 0 < i ∧ (runOf u i).toList.isEmpty = true) := by
        by_cases h0 : 0 < i
        · exact .inl ⟨h0, run_full u i h0 (unhide HBef i hlt)⟩
        · cases hE0 : (runOf u i).toList.isEmpty
          · exact .inr (.inl ⟨h0, rfl⟩)
          · exact .inr (.inr ⟨h0, rfl⟩)
      have Hq := hide (fun k (h : k < (runOf u i).size) => run_dig u i k h)
      have hp : (((i : Int) % 2) == 1) = odd i := by
        rw [odd_mod, Bool.eq_iff_iff]
        simp
        omega
      generalize runOf u i = q at *
      generalize odd i = b at *
      have HT2 := hide hts2
      clear hts2 Hcell
      cases b <;> rcases key with ⟨h0, hE0⟩ | ⟨h0, hE0⟩ | ⟨h0, hE0⟩
      all_goals
        go_wp2_with fail
        go_loop [8] (fun kv => ∃ k : Nat, k ≤ q.size ∧ kv = .int .i64 k) (fun kv => q.size - (intOf kv).toNat)
        case atStart => exact ⟨0, Nat.zero_le _, rfl⟩
        case round =>
          obtain ⟨k, hk, rfl⟩ := hrel
          by_cases hk2 : k < q.size
          · have hdk := unhide Hq k hk2
            go_wp2_with (go_at_call 22; refine (ldigit_any _ _).mono ?_; rintro e w' ⟨rfl, rfl⟩)
            go_round
            case rel => exact ⟨k + 1, by omega, by go_num⟩
            case measure => simp [intOf]; omega
          · go_wp2_with fail
            go_round
            case rel => exact ⟨i + 1, by omega, by go_num, t ++ q, rfl, unhide HT2, HT⟩
            case measure => simp [intOf]; omega
    · obtain rfl : i = N := by omega
      obtain rfl : t = u := (unhide ht).trans (by rw [unhide HN]; exact ext_all u)
      clear hlt hi ht Hcell HBef HN
      rcases hx1 : text e t r c d with ⟨t1, n1⟩
      rcases hx2 : text E U R C D with ⟨t2, n2⟩
      have kc1 := hide (fun w => Check_any e t r c d (by omega) t1 n1 hx1 w)
      have kc2 := hide (fun w => Check_any E U R C D (by omega) t2 n2 hx2 w)
      by_cases hn1 : n1 = 0
      · subst hn1
        have d1 := text_dig hx1
        clear hx1
        go_wp2_with fail
        clear x0 x1 x2 x3 x4 x5
        refine (unhide kc1 _).mono ?_
        rintro x w3 ⟨rfl, hb3⟩
        have HX3 := hide ((unhide HX2').later hb3)
        have HY3 := (unhide HY2).later hb3
        have HY3' := hide HY3
        have HB3 := hide ((unhide HB2).trans (hb3.mono (unhide HB2).size))
        have HS3 := hide ((unhide HSS).later hb3)
        clear hb3 HX2' HY2 HB2 HSS
        obtain ⟨y0, y1, y2, y3, y4, y5⟩ := HY3
        by_cases hn2 : n2 = 0
        · subst hn2
          have d2 := text_dig hx2
          clear hx2
          go_wp2_with fail
          clear y0 y1 y2 y3 y4 y5
          refine (unhide kc2 _).mono ?_
          rintro x w4 ⟨rfl, hb4⟩
          have HX4 := (unhide HX3).later hb4
          have HY4 := (unhide HY3').later hb4
          have HX4' := hide HX4
          have HY4' := hide HY4
          have HB4 := hide ((unhide HB3).trans (hb4.mono (unhide HB3).size))
          have HS4 := hide ((unhide HS3).later hb4)
          clear hb4 HX3 HY3' HB3 HS3 kc1 kc2
          obtain ⟨x0, x1, x2, x3, x4, x5⟩ := HX4
          obtain ⟨y0, y1, y2, y3, y4, y5⟩ := HY4
          have m1 : e.size ≤ maxLen := by unfold maxLen; omega
          have m2 : t.size ≤ maxLen := by unfold maxLen; omega
          have m3 : r.size ≤ maxLen := by unfold maxLen; omega
          have m4 : E.size ≤ maxLen := by unfold maxLen; omega
          have m5 : U.size ≤ maxLen := by unfold maxLen; omega
          have m6 : R.size ≤ maxLen := by unfold maxLen; omega
          have kO := hide (fun w => Order_dig e t r c d E U R C D m1 m2 m3 m4 m5 m6 d1 d2 w)
          have HOv := hide (show ordV ⟨e, t, r, c, d⟩ ⟨E, U, R, C, D⟩ = if ordNum e E = 0 then (if ordPart t U = 0 then ordPart r R else ordPart t U) else ordNum e E from rfl)
          have kS := hide (fun w => sums_any e E m1 m4 w)
          have kL := hide (fun v v' W (h1 : Segs W v t) (h2 : Segs W v' U) => lists_sg hu hU h1 h2)
          have kR := hide (fun v v' W (h1 : Segs W v r) (h2 : Segs W v' R) => lists_sg hr hR h1 h2)
          generalize ordV ⟨e, t, r, c, d⟩ ⟨E, U, R, C, D⟩ = res at *
          generalize ordNum e E = z1 at *
          generalize ordPart t U = z2 at *
          generalize ordPart r R = z3 at *
          clear d1 d2 m1 m2 m3 m4 m5 m6
          by_cases g1 : z1 = 0
          · subst g1
            by_cases g2 : z2 = 0
            · subst g2
              obtain rfl : res = z3 := by have := unhide HOv; rwa [if_pos rfl, if_pos rfl] at this
              go_wp2_with fail
              refine (unhide kS _).mono ?_
              rintro x w' ⟨rfl, rfl⟩
              go_wp2_with fail
              clear x0 x1 x2 x3 x4 x5 y0 y1 y2 y3 y4 y5
              refine (Segments_sg U hU _).mono ?_
              rintro x w5 ⟨v5, rfl, hS5, hb5⟩
              have HX5 := (unhide HX4').later hb5
              have HY5 := (unhide HY4').later hb5
              have HB5 := hide ((unhide HB4).trans (hb5.mono (unhide HB4).size))
              have HS5 := hide ((unhide HS4).later hb5)
              have HSv := hide hS5
              clear hb5 HX4' HY4' HB4 HS4 hS5
              obtain ⟨x0, x1, x2, x3, x4, x5⟩ := HX5
              obtain ⟨y0, y1, y2, y3, y4, y5⟩ := HY5
              go_wp2_with fail
              refine (unhide kL _ _ _ (unhide HS5) (unhide HSv)).mono ?_
              rintro x w' ⟨rfl, rfl⟩
              go_wp2_with fail
              have hBB := (unhide HB5).drew
              clear HS5 HSv HOv kL kS
              go_region_held3 (fun w' => w'.cell? ⟨w.heap.size, 0, none⟩ = some (.string e) ∧ w'.cell? ⟨w.heap.size, 1, none⟩ = some (.string t) ∧ w'.cell? ⟨w.heap.size, 2, none⟩ = some (.string r) ∧ w'.cell? ⟨w.heap.size, 3, none⟩ = some (.bool c) ∧ w'.cell? ⟨w.heap.size, 4, none⟩ = some (.bool d) ∧ w'.cell? ⟨w.heap.size + 1, 0, none⟩ = some (.string E) ∧ w'.cell? ⟨w.heap.size + 1, 1, none⟩ = some (.string U) ∧ w'.cell? ⟨w.heap.size + 1, 2, none⟩ = some (.string R) ∧ w'.cell? ⟨w.heap.size + 1, 3, none⟩ = some (.bool C) ∧ w'.cell? ⟨w.heap.size + 1, 4, none⟩ = some (.bool D) ∧ w.heap.size < w'.heap.size ∧ w.heap.size + 1 < w'.heap.size ∧ Below w.heap.size w w') (first | go_keep | (go_split_ands; exact keepS (by assumption) (by assumption) (by assumption) (by assumption) (by assumption) (by assumption) (by assumption) (by assumption) (by assumption) (by assumption) (by assumption) (by assumption) (by assumption) (by assumption)))
                (first | (go_at_call 21; refine (Segments_sg _ (by assumption) _).mono ?_; rintro x w7 ⟨v7, rfl, hS7, hb7⟩) | (go_at_call 24; refine (unhide kR _ _ _ (by first | assumption | exact Segs.later (by assumption) (by assumption)) (by first | assumption | exact Segs.later (by assumption) (by assumption))).mono ?_; rintro x w8 ⟨rfl, rfl⟩))
              go_split_ands
              go_wp2_with fail
              have HB8 := hide (show Below w.heap.size w w8 by assumption)
              refine (unhide kO _).mono ?_
              rintro x w9 ⟨rfl, hb9⟩
              have HB9 := hide ((unhide HB8).trans (hb9.mono (unhide HB8).size))
              clear hb9
              go_wp2_with fail
              go_ret
              exact ⟨rfl, unhide HB9⟩
            · obtain rfl : res = z2 := by have := unhide HOv; rwa [if_pos rfl, if_neg g2] at this
              have g2' : (res == 0) = false := by simpa using g2
              clear g2
              go_wp2_with fail
              refine (unhide kS _).mono ?_
              rintro x w' ⟨rfl, rfl⟩
              go_wp2_with fail
              clear x0 x1 x2 x3 x4 x5 y0 y1 y2 y3 y4 y5
              refine (Segments_sg U hU _).mono ?_
              rintro x w5 ⟨v5, rfl, hS5, hb5⟩
              have HX5 := (unhide HX4').later hb5
              have HY5 := (unhide HY4').later hb5
              have HB5 := hide ((unhide HB4).trans (hb5.mono (unhide HB4).size))
              have HS5 := hide ((unhide HS4).later hb5)
              have HSv := hide hS5
              clear hb5 HX4' HY4' HB4 HS4 hS5
              obtain ⟨x0, x1, x2, x3, x4, x5⟩ := HX5
              obtain ⟨y0, y1, y2, y3, y4, y5⟩ := HY5
              go_wp2_with fail
              refine (unhide kL _ _ _ (unhide HS5) (unhide HSv)).mono ?_
              rintro x w' ⟨rfl, rfl⟩
              go_wp2_with fail
              refine (unhide kO _).mono ?_
              rintro x w6 ⟨rfl, hb6⟩
              have HB6 := hide ((unhide HB5).trans (hb6.mono (unhide HB5).size))
              clear hb6
              go_wp2_with fail
              go_ret
              exact ⟨rfl, unhide HB6⟩
          · obtain rfl : res = z1 := by have := unhide HOv; rwa [if_neg g1] at this
            have g1' : (res == 0) = false := by simpa using g1
            clear g1
            go_wp2_with fail
            refine (unhide kS _).mono ?_
            rintro x w' ⟨rfl, rfl⟩
            go_wp2_with fail
            refine (unhide kO _).mono ?_
            rintro x w5 ⟨rfl, hb5⟩
            have HB5 := hide ((unhide HB4).trans (hb5.mono (unhide HB4).size))
            clear hb5
            go_wp2_with fail
            go_ret
            exact ⟨rfl, unhide HB5⟩
        · have hm2 : (n2 != 0) = true := by simpa using hn2
          clear hn2
          go_wp2_with fail
          refine (unhide kc2 _).mono ?_
          rintro x w4 ⟨rfl, hb4⟩
          have HB4 := hide ((unhide HB3).trans (hb4.mono (unhide HB3).size))
          clear hb4
          go_wp2_with fail
          go_ret
          exact ⟨rfl, unhide HB4⟩
      · have hm1 : (n1 != 0) = true := by simpa using hn1
        clear hn1
        go_wp2_with fail
        refine (unhide kc1 _).mono ?_
        rintro x w3 ⟨rfl, hb3⟩
        have HB3 := hide ((unhide HB2).trans (hb3.mono (unhide HB2).size))
        clear hb3
        go_wp2_with fail
        go_ret
        exact ⟨rfl, unhide HB3⟩

end Go.Proofs.YtfnbclehlikbkaaDoor
