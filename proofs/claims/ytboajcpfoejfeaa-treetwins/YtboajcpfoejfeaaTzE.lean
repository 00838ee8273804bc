import Derived.Test.YtboajcpfoejfeaaTzD
namespace Go.Proofs.Ytboajcpfoejfeaa
open Go.RowKit Go.Maps

theorem ret_int64 {a b : Int} (h : a = b) : Ending.returned (.int .i64 a) = .returned (.int .i64 b) := by rw [h]
theorem ret_bool {a b : Bool} (h : a = b) : Ending.returned (.bool a) = .returned (.bool b) := by rw [h]
def csN (x y : Nm) : Int := if lt x y then -1 else if lt y x then 1 else 0
set_option maxHeartbeats 400000 in
theorem cmpStr_any (x y : Nm) (w : World) :
    Calls Try.prog 20 #[.string x, .string y] w fun e w' => e = .returned (.int .i64 (csN x y)) ∧ w' = w := by
  have e1 := lt_iff x y
  by_cases h1 : lt x y
  · have h2 : csN x y = -1 := if_pos h1
    have h3 : (ByteArray.toList x == ByteArray.toList y) = false := ba_ne (lt_ne h1)
    rw [decide_eq_true h1] at e1
    rw [h2]
    clear h1 h2
    go_enter Try.func20, Try.ntmps20
    go_wp2
    go_ret
    exact ⟨rfl, rfl⟩
  · rw [decide_eq_false h1] at e1
    by_cases h2 : lt y x
    · have h3 : csN x y = 1 := by unfold csN; rw [if_neg h1, if_pos h2]
      have h4 : (ByteArray.toList x == ByteArray.toList y) = false := ba_ne (Ne.symm (lt_ne h2))
      rw [h3]
      clear h1 h2 h3
      go_enter Try.func20, Try.ntmps20
      go_wp2
      go_ret
      exact ⟨rfl, rfl⟩
    · have h3 : csN x y = 0 := by unfold csN; rw [if_neg h1, if_neg h2]
      have h4 : (ByteArray.toList x == ByteArray.toList y) = true := by
        have e : x = y := Classical.byContradiction fun e => h2 (lt_tri h1 e)
        rw [e]; exact bx_eq _
      rw [h3]
      clear h1 h2 h3
      go_enter Try.func20, Try.ntmps20
      go_wp2
      go_ret
      exact ⟨rfl, rfl⟩
theorem cmp_step {a b : List Nm} {i : Nat} (ha : i < a.length) (hb : i < b.length) : cmpL (a.drop i) (b.drop i) = if csN a[i] b[i] = 0 then cmpL (a.drop (i + 1)) (b.drop (i + 1)) else csN a[i] b[i] := by
  rw [List.drop_eq_getElem_cons ha, List.drop_eq_getElem_cons hb]
  show (if lt a[i] b[i] then -1 else if lt b[i] a[i] then 1 else cmpL (a.drop (i + 1)) (b.drop (i + 1))) = _
  unfold csN
  by_cases h1 : lt a[i] b[i]
  · rw [if_pos h1, if_pos h1, if_neg (by decide)]
  · rw [if_neg h1, if_neg h1]
    by_cases h2 : lt b[i] a[i]
    · rw [if_pos h2, if_pos h2, if_neg (by decide)]
    · rw [if_neg h2, if_neg h2, if_pos rfl]
theorem cmp_over {a b : List Nm} {i : Nat} (ha : i < a.length) (hb : b.length ≤ i) : cmpL (a.drop i) (b.drop i) = 1 := by
  rw [List.drop_eq_getElem_cons ha, List.drop_eq_nil_of_le hb]
  rfl
theorem cmp_under {a b : List Nm} {i : Nat} (ha : a.length ≤ i) : cmpL (a.drop i) (b.drop i) = if i < b.length then -1 else 0 := by
  rw [List.drop_eq_nil_of_le ha]
  by_cases h : i < b.length
  · rw [List.drop_eq_getElem_cons h, if_pos h]; rfl
  · rw [List.drop_eq_nil_of_le (by omega), if_neg h]; rfl
set_option maxHeartbeats 1000000 in
theorem Compare_any {w : World} {u v : Value} {l m : List Nm} (hl : l.length ≤ 2513169434843) (hm : m.length ≤ 2513169434843) (h : Sl w u l) (k : Sl w v m) :
    Calls Try.prog 12 #[u, v] w fun e w' => e = .returned (.int .i64 (cmpL l m)) ∧ w' = w := by
  obtain ⟨a, c, rfl⟩ := h.form
  obtain ⟨a2, c2, rfl⟩ := k.form
  have HP := hide (show ∀ i (hi : i < l.length), ∃ b o, a = some ⟨b, o, none⟩ ∧ b < w.heap.size ∧ w.cell? ⟨b, o + i, none⟩ = some (.string l[i]) from fun i hi => h.at hi)
  have HR := hide (show ∀ i (hi : i < m.length), ∃ b o, a2 = some ⟨b, o, none⟩ ∧ b < w.heap.size ∧ w.cell? ⟨b, o + i, none⟩ = some (.string m[i]) from fun i hi => k.at hi)
  obtain ⟨N, hN⟩ : ∃ N, N = l.length := ⟨_, rfl⟩
  obtain ⟨M, hM⟩ : ∃ M, M = m.length := ⟨_, rfl⟩
  have HN := hide hN
  have HM := hide hM
  rw [← hN] at hl ⊢
  rw [← hM] at hm ⊢
  have H0 := hide (show cmpL l m = cmpL (l.drop 0) (m.drop 0) from rfl)
  clear h k hN hM
  go_enter Try.func12, Try.ntmps12
  go_wp2_with fail
  go_loopg [5, 6, 7, 8, 11] N (fun gq _ _ _ _ iv wr => ∃ i : Nat, iv = .int .i64 i ∧ i ≤ N ∧ i ≤ M ∧ N - i ≤ gq ∧ wr = w ∧ Hid (cmpL l m = cmpL (l.drop i) (m.drop i)))
  case atStart => exact ⟨0, by go_num, by omega, by omega, by omega, rfl, H0⟩
  case round =>
    clear H0
    obtain ⟨i, rfl, hi, hi2, hg, rfl, HX⟩ := hrel
    by_cases hlt : i < N
    · have hin : (i : Int) < (N : Int) := by omega
      have hil : i < l.length := by have := unhide HN; omega
      obtain ⟨g, o, rfl, hgl, c0⟩ := unhide HP i hil
      by_cases hlm : i < M
      · have him : i < m.length := by have := unhide HM; omega
        have hn : ¬ (M : Int) ≤ (i : Int) := by omega
        obtain ⟨g2, o2, rfl, hgl2, d0⟩ := unhide HR i him
        have HC := hide (cmpStr_any l[i] m[i] wr)
        have HS := hide (cmp_step hil him)
        generalize l[i] = x at *
        generalize m[i] = y at *
        by_cases hz : csN x y = 0
        · have HX2 := hide (show cmpL l m = cmpL (l.drop (i + 1)) (m.drop (i + 1)) from by rw [unhide HX, unhide HS, if_pos hz])
          rw [hz] at HC
          clear hz HS HP HR HX
          go_wp2_with (go_at_call 20; refine (unhide HC).mono ?_; rintro e w' ⟨rfl, rfl⟩)
          go_roundg (N - (i + 1))
          case measure => omega
          case rel => exact ⟨i + 1, by go_num, by omega, by omega, by omega, rfl, HX2⟩
        · have HX2 := hide (show cmpL l m = csN x y from by rw [unhide HX, unhide HS, if_neg hz])
          have hz2 : (csN x y == 0) = false := beq_eq_false_iff_ne.2 hz
          generalize csN x y = z at *
          clear HS HP HR HX hz
          go_wp2_with (go_at_call 20; refine (unhide HC).mono ?_; rintro e w' ⟨rfl, rfl⟩)
          go_ret
          exact ⟨ret_int64 (unhide HX2).symm, rfl⟩
      · have hn : (M : Int) ≤ (i : Int) := by omega
        have HD := hide (show cmpL l m = 1 from by rw [unhide HX, cmp_over hil (by have := unhide HM; omega)])
        clear HP HR HX
        go_wp2_with fail
        go_ret
        exact ⟨ret_int64 (unhide HD).symm, rfl⟩
    · obtain rfl : i = N := by omega
      by_cases hlm : i < M
      · have hn : (i : Int) < (M : Int) := by omega
        have HD := hide (show cmpL l m = -1 from by rw [unhide HX, cmp_under (by have := unhide HN; omega), if_pos (by have := unhide HM; omega)])
        clear HP HR HX
        go_wp2_with fail
        go_ret
        exact ⟨ret_int64 (unhide HD).symm, rfl⟩
      · have hn : ¬ (i : Int) < (M : Int) := by omega
        have HD := hide (show cmpL l m = 0 from by rw [unhide HX, cmp_under (by have := unhide HN; omega), if_neg (by have := unhide HM; omega)])
        clear HP HR HX
        go_wp2_with fail
        go_ret
        exact ⟨ret_int64 (unhide HD).symm, rfl⟩
set_option maxHeartbeats 1000000 in
theorem below_any {w : World} {u v : Value} {l m : List Nm} (hl : l.length ≤ 2513169434843) (hm : m.length ≤ 2513169434843) (h : Sl w u l) (k : Sl w v m) :
    Calls Try.prog 14 #[u, v] w fun e w' => e = .returned (.bool (decide (cmpL l m < 0))) ∧ ∃ n, w' = w.drewN n := by
  obtain ⟨a, c, rfl⟩ := h.form
  obtain ⟨a2, c2, rfl⟩ := k.form
  have HP := hide (show ∀ i (hi : i < l.length), ∃ b o, a = some ⟨b, o, none⟩ ∧ b < w.heap.size ∧ w.cell? ⟨b, o + i, none⟩ = some (.string l[i]) from fun i hi => h.at hi)
  have HR := hide (show ∀ i (hi : i < m.length), ∃ b o, a2 = some ⟨b, o, none⟩ ∧ b < w.heap.size ∧ w.cell? ⟨b, o + i, none⟩ = some (.string m[i]) from fun i hi => k.at hi)
  obtain ⟨N, hN⟩ : ∃ N, N = l.length := ⟨_, rfl⟩
  obtain ⟨M, hM⟩ : ∃ M, M = m.length := ⟨_, rfl⟩
  have HN := hide hN
  have HM := hide hM
  rw [← hN] at hl ⊢
  rw [← hM] at hm ⊢
  have H0 := hide (show cmpL l m = cmpL (l.drop 0) (m.drop 0) from rfl)
  clear h k hN hM
  go_enter Try.func14, Try.ntmps14
  go_wp2_with fail
  go_loopg [5] N (fun gq iv wr => ∃ i n : Nat, iv = .int .i64 i ∧ i ≤ N ∧ i ≤ M ∧ N - i ≤ gq ∧ wr = w.drewN n ∧ Hid (cmpL l m = cmpL (l.drop i) (m.drop i)))
  case atStart => exact ⟨0, 0, by go_num, by omega, by omega, by omega, rfl, H0⟩
  case round =>
    clear H0
    obtain ⟨i, n, rfl, hi, hi2, hg, rfl, HX⟩ := hrel
    by_cases hlt : i < N
    · have hin : (i : Int) < (N : Int) := by omega
      have hil : i < l.length := by have := unhide HN; omega
      obtain ⟨g, o, rfl, hgl, c0⟩ := unhide HP i hil
      by_cases hlm : i < M
      · have him : i < m.length := by have := unhide HM; omega
        have hn : (i : Int) < (M : Int) := by omega
        obtain ⟨g2, o2, rfl, hgl2, d0⟩ := unhide HR i him
        have HS := hide (cmp_step hil him)
        have hE := ba_if l[i] m[i]
        have hL := lt_iff l[i] m[i]
        have HZ := hide (show csN l[i] m[i] = 0 ↔ l[i] = m[i] from by
          unfold csN
          constructor
          · intro h
            by_cases h1 : lt l[i] m[i]
            · rw [if_pos h1] at h; omega
            · by_cases h2 : lt m[i] l[i]
              · rw [if_neg h1, if_pos h2] at h; omega
              · exact Classical.byContradiction fun e => h2 (lt_tri h1 e)
          · intro e
            rw [e, if_neg (lt_irr _), if_neg (lt_irr _)])
        generalize l[i] = x at *
        generalize m[i] = y at *
        by_cases hz : x = y
        · have HX2 := hide (show cmpL l m = cmpL (l.drop (i + 1)) (m.drop (i + 1)) from by rw [unhide HX, unhide HS, if_pos ((unhide HZ).2 hz)])
          rw [decide_eq_true hz] at hE
          clear hz HS HP HR HX hL HZ
          go_wp2_with fail
          go_quiet (fail)
          go_wp2
          go_roundg (N - (i + 1))
          case measure => omega
          case rel => exact ⟨i + 1, _, by go_num, by omega, by omega, by omega, rfl, HX2⟩
        · rw [decide_eq_false hz] at hE
          have HX2 := hide (show decide (cmpL l m < 0) = decide (lt x y) from by
            rw [unhide HX, unhide HS, if_neg (fun q => hz ((unhide HZ).1 q))]
            unfold csN
            by_cases h1 : lt x y
            · rw [if_pos h1, decide_eq_true h1]; rfl
            · rw [if_neg h1, if_pos (lt_tri h1 hz), decide_eq_false h1]; rfl)
          generalize decide (lt x y) = b at *
          clear hz HS HP HR HX HZ
          go_wp2_with fail
          go_quiet (fail)
          go_wp2
          go_quiet (fail)
          go_wp2
          go_ret
          exact ⟨ret_bool (unhide HX2).symm, _, by rw [World.drewN_drewN, World.drewN_drewN]⟩
      · have hn : ¬ (i : Int) < (M : Int) := by omega
        have hn2 : ¬ (N : Int) < (M : Int) := by omega
        have HD := hide (show decide (cmpL l m < 0) = false from by rw [unhide HX, cmp_over hil (by have := unhide HM; omega)]; rfl)
        clear HP HR HX
        go_wp2_with fail
        go_ret
        exact ⟨ret_bool (unhide HD).symm, n, rfl⟩
    · obtain rfl : i = N := by omega
      have HD := hide (show decide (cmpL l m < 0) = decide (i < M) from by
        rw [unhide HX, cmp_under (by have := unhide HN; omega)]
        by_cases h : i < m.length
        · rw [if_pos h, decide_eq_true (show i < M by have := unhide HM; omega)]; rfl
        · rw [if_neg h, decide_eq_false (show ¬ i < M by have := unhide HM; omega)]; rfl)
      clear HP HR HX
      go_wp2_with fail
      go_ret
      exact ⟨ret_bool (unhide HD).symm, n, rfl⟩
end Go.Proofs.Ytboajcpfoejfeaa
