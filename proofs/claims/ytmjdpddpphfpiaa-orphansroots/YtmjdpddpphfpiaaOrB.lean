import Derived.Test.YtmjdpddpphfpiaaOrA
namespace Go.Proofs.Ytmjdpddpphfpiaa
open Go.RowKit Go.Maps

set_option maxHeartbeats 1000000 in
theorem has_any {w : World} {u : Value} {l : List Nm} (x : Nm) (hl : l.length ≤ 8796093022208) (h : Sl w u l) :
    Calls Try.prog 9 #[u, .string x] w fun e w' => e = .returned (.bool (hasN l x)) ∧ w' = w := by
  obtain ⟨a, c, rfl⟩ := h.form
  have HP := hide (show ∀ i (hi : i < l.length), ∃ b o, a = some ⟨b, o, none⟩ ∧ b < w.heap.size ∧ w.cell? ⟨b, o + i, none⟩ = some (.string l[i]) from fun i hi => h.at hi)
  obtain ⟨N, hN⟩ : ∃ N, N = l.length := ⟨_, rfl⟩
  have HN := hide hN
  rw [← hN] at hl ⊢
  clear h hN
  go_enter Try.func9, Try.ntmps9
  go_wp2_with fail
  go_loopg [5] N (fun gq iv wr => ∃ i : Nat, iv = .int .i64 i ∧ i ≤ N ∧ N - i ≤ gq ∧ wr = w ∧ Hid (x ∉ l.take i))
  case atStart => exact ⟨0, by go_num, by omega, by omega, rfl, hide (by simp)⟩
  case round =>
    obtain ⟨i, rfl, hi, hg, rfl, HX⟩ := hrel
    by_cases hlt : i < N
    · have hin : (i : Int) < (N : Int) := by omega
      have hil : i < l.length := by have := unhide HN; omega
      obtain ⟨g, o, rfl, hgl, c0⟩ := unhide HP i hil
      have HT := hide (show l.take (i + 1) = l.take i ++ [l[i]] from by rw [List.take_add_one, List.getElem?_eq_getElem hil]; rfl)
      by_cases e : l[i] = x
      · have HD := hide (show hasN l x = true from hasN_iff.2 (by rw [← e]; exact List.getElem_mem hil))
        have h0 : (ByteArray.toList l[i] == ByteArray.toList x) = true := by rw [e]; exact bx_eq _
        generalize l[i] = y at *
        clear e HT
        go_wp2_with fail
        go_ret
        exact ⟨by rw [unhide HD]; rfl, rfl⟩
      · have h0 : (ByteArray.toList l[i] == ByteArray.toList x) = false := ba_ne e
        have HF := hide (show x ∉ l.take (i + 1) from by rw [unhide HT]; intro h; rcases List.mem_append.1 h with h | h; exact unhide HX h; rw [List.mem_singleton] at h; exact e h.symm)
        generalize l[i] = y at *
        clear e HT
        go_wp2_with fail
        go_roundg (N - (i + 1))
        case measure => omega
        case rel => exact ⟨i + 1, by go_num, by omega, by omega, rfl, HF⟩
    · obtain rfl : i = N := by omega
      have HD := hide (show hasN l x = false from hasN_no.2 (by have h := unhide HX; rw [unhide HN, List.take_length] at h; exact h))
      go_wp2_with fail
      go_ret
      exact ⟨by rw [unhide HD]; rfl, rfl⟩
set_option maxHeartbeats 1000000 in
theorem names_any {w : World} {u v : Value} {l m : List Nm} (hl : l.length ≤ 8796093022208) (hm : m.length ≤ 8796093022208) (h : Sl w u l) (k : Sl w v m) :
    Calls Try.prog 6 #[u, v] w fun e w' => e = .returned (.bool (decide (l = m))) ∧ ∃ n, w' = w.drewN n := by
  obtain ⟨a, c, rfl⟩ := h.form
  obtain ⟨a2, c2, rfl⟩ := k.form
  have HP := hide (show ∀ i (hi : i < l.length), ∃ b o, a = some ⟨b, o, none⟩ ∧ b < w.heap.size ∧ w.cell? ⟨b, o + i, none⟩ = some (.string l[i]) from fun i hi => h.at hi)
  have HR := hide (show ∀ i (hi : i < m.length), ∃ b o, a2 = some ⟨b, o, none⟩ ∧ b < w.heap.size ∧ w.cell? ⟨b, o + i, none⟩ = some (.string m[i]) from fun i hi => k.at hi)
  obtain ⟨N, hN⟩ : ∃ N, N = l.length := ⟨_, rfl⟩
  obtain ⟨M, hM⟩ : ∃ M, M = m.length := ⟨_, rfl⟩
  have HN := hide hN
  have HM := hide hM
  rw [← hN] at hl ⊢
  rw [← hM] at hm ⊢
  clear h k hN hM
  by_cases hNM : N = M
  · subst hNM
    go_enter Try.func6, Try.ntmps6
    go_wp2_with fail
    go_loopg [5] N (fun gq iv wr => ∃ i n : Nat, iv = .int .i64 i ∧ i ≤ N ∧ N - i ≤ gq ∧ wr = w.drewN n ∧ Hid (l.take i = m.take i))
    case atStart => exact ⟨0, 0, by go_num, by omega, by omega, rfl, hide (by simp)⟩
    case round =>
      obtain ⟨i, n, rfl, hi, hg, rfl, HX⟩ := hrel
      by_cases hlt : i < N
      · have hin : (i : Int) < (N : Int) := by omega
        have hil : i < l.length := by have := unhide HN; omega
        have him : i < m.length := by have := unhide HM; omega
        obtain ⟨g, o, rfl, hgl, c0⟩ := unhide HP i hil
        obtain ⟨g2, o2, rfl, hgl2, d0⟩ := unhide HR i him
        have HT := hide (show l.take (i + 1) = l.take i ++ [l[i]] from by rw [List.take_add_one, List.getElem?_eq_getElem hil]; rfl)
        have HT2 := hide (show m.take (i + 1) = m.take i ++ [m[i]] from by rw [List.take_add_one, List.getElem?_eq_getElem him]; rfl)
        by_cases e : l[i] = m[i]
        · have h0 : (ByteArray.toList l[i] == ByteArray.toList m[i]) = true := by rw [e]; exact bx_eq _
          have HF := hide (show l.take (i + 1) = m.take (i + 1) from by rw [unhide HT, unhide HT2, unhide HX, e])
          generalize l[i] = y at *
          generalize m[i] = z at *
          clear e HT HT2 HP HR
          go_wp2_with fail
          go_quiet (fail)
          go_wp2
          go_roundg (N - (i + 1))
          case measure => omega
          case rel => exact ⟨i + 1, _, by go_num, by omega, by omega, rfl, HF⟩
        · have h0 : (ByteArray.toList l[i] == ByteArray.toList m[i]) = false := ba_ne e
          have HD := hide (show decide (l = m) = false from decide_eq_false fun q => e (by subst q; rfl))
          generalize l[i] = y at *
          generalize m[i] = z at *
          clear e HT HT2 HP HR
          go_wp2_with fail
          go_quiet (fail)
          go_wp2
          go_ret
          exact ⟨by rw [unhide HD]; rfl, n + nq, by first | rfl | simp | exact (World.drewN_add _ _ _).symm⟩
      · obtain rfl : i = N := by omega
        have HD := hide (show decide (l = m) = true from decide_eq_true (by have h := unhide HX; rw [unhide HN, List.take_length, ← unhide HN, unhide HM, List.take_length] at h; exact h))
        go_wp2_with fail
        go_ret
        exact ⟨by rw [unhide HD]; rfl, n, rfl⟩
  · have hne : ((N : Int) == (M : Int)) = false := beq_eq_false_iff_ne.2 (by omega)
    have HD := hide (show decide (l = m) = false from decide_eq_false fun q => hNM (by rw [unhide HN, unhide HM, q]))
    go_enter Try.func6, Try.ntmps6
    go_wp2_with fail
    go_ret
    exact ⟨by rw [unhide HD]; rfl, 0, rfl⟩
end Go.Proofs.Ytmjdpddpphfpiaa
