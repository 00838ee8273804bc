import Derived.Test.YtfembjjpmjfklaaDoorRefW
namespace Go.Proofs.YtfembjjpmjfklaaDoor
open Go.RowKit

theorem opOf_pos (s : ByteArray) (h : (opOf s).2 = true) : 1 ≤ (opOf s).1 := by
  unfold opOf at h ⊢
  split
  · decide
  split
  · decide
  split
  · decide
  split
  · decide
  split
  · decide
  · simp_all

/-- HOW MANY SIGNS LEAD. -/
theorem opN (t : ByteArray) : ∃ n, n ≤ t.size ∧ (∀ j (hj : j < t.size), j < n → opB (t[j].toNat : Int) = true) ∧ ((∃ hj : n < t.size, opB (t[n].toNat : Int) = false) ∨ n = t.size) := by
  have key : ∀ k n, n + k = t.size → (∀ j (hj : j < t.size), j < n → opB (t[j].toNat : Int) = true) → ∃ n, n ≤ t.size ∧ (∀ j (hj : j < t.size), j < n → opB (t[j].toNat : Int) = true) ∧ ((∃ hj : n < t.size, opB (t[n].toNat : Int) = false) ∨ n = t.size) := by
    intro k
    induction k with
    | zero => intro n hn h; exact ⟨n, by omega, h, .inr (by omega)⟩
    | succ k ih =>
      intro n hn h
      have hlt : n < t.size := by omega
      cases hb : opB (t[n].toNat : Int)
      · exact ⟨n, by omega, h, .inl ⟨hlt, hb⟩⟩
      · refine ih (n + 1) (by omega) (fun j hj hj' => ?_)
        by_cases e : j = n
        · subst e; exact hb
        · exact h j hj (by omega)
  exact key t.size 0 (by omega) (fun j _ h => absurd h (Nat.not_lt_zero _))

theorem opB_no {n : Int} (h : opB n = false) : (n == 60) = false ∧ (n == 61) = false ∧ (n == 62) = false := by
  unfold opB at h
  simp only [Bool.or_eq_false_iff] at h
  exact ⟨h.1.1, h.1.2, h.2⟩
theorem opB_yes {n : Int} (h : opB n = true) : (n == 60) = true ∨ ((n == 60) = false ∧ (n == 61) = true) ∨ ((n == 60) = false ∧ (n == 61) = false ∧ (n == 62) = true) := by
  unfold opB at h
  cases h1 : (n == 60)
  · cases h2 : (n == 61)
    · rw [h1, h2] at h
      exact .inr (.inr ⟨rfl, rfl, by simpa using h⟩)
    · exact .inr (.inl ⟨rfl, rfl⟩)
  · exact .inl rfl

set_option maxRecDepth 100000 in
set_option maxHeartbeats 4000000 in
theorem rwithin_any (s : ByteArray) (w : World) (hs : s.size ≤ maxLen) :
    Calls Tryd.prog 55 #[.string s] w fun e w' => e = .returned (.tuple #[.int .i64 (readW (trimB s)).1, .string (readW (trimB s)).2.1, .int .i64 (readW (trimB s)).2.2]) ∧ Below w.heap.size w w' := by
  have c1 := hide (fun w => rtrim_any s w hs)
  have z1 := trimB_size s
  have hl := trimB_last s
  generalize trimB s = t at *
  obtain ⟨n, hn, hall, hstop⟩ := opN t
  obtain ⟨e1, e2⟩ := trimO_at t n hn hall (fun hj => by rcases hstop with ⟨_, h⟩ | h; exact h; omega)
  have e3 : trimB (t.extract n t.size) = trimL (trimO t) := by
    rw [e1]
    exact trimB_L (last_suffix (by rw [ext_from]; exact List.drop_suffix _ _) hl)
  have HF := hide (show readW t = if (opOf (t.extract 0 n)).2 = false then (0, nob, 21) else if (parse (trimB (t.extract n t.size))).2 ≠ 0 then (0, nob, 22) else ((opOf (t.extract 0 n)).1, trimB (t.extract n t.size), 0) by rw [e3]; unfold readW; rw [e2])
  have z2 : (t.extract n t.size).size ≤ maxLen := by rw [ByteArray.size_extract]; omega
  have z3 := trimB_size (t.extract n t.size)
  have c2 := hide (fun w => roperator_any (t.extract 0 n) w)
  have c3 := hide (fun w => rtrim_any (t.extract n t.size) w z2)
  have c4 := hide (fun w => rversion_any (trimB (t.extract n t.size)) (by omega) w)
  have HP := hide (opOf_pos (t.extract 0 n))
  have HO := hide (show opR (t.extract 0 n) = if (opOf (t.extract 0 n)).2 = true then (opOf (t.extract 0 n)).1 else -1 from rfl)
  have HA := hide hall
  have hts : t.size ≤ 9223372036854775807 := by unfold maxLen at hs; omega
  generalize trimB (t.extract n t.size) = ver at *
  generalize (parse ver).2 = pv at *
  rcases hop : opOf (t.extract 0 n) with ⟨op, ok⟩
  rw [hop] at HF HP HO
  simp only at HF HP HO
  rw [unhide HO] at c2
  clear hop HO hl z1 z2 z3 e1 e2 e3 hall hs
  have HS := hide hstop
  clear hstop
  go_enter Tryd.func55, Tryd.ntmps55
  go_wp2_with (go_at_call 52; refine (unhide c1 _).mono ?_; rintro e w' ⟨rfl, rfl⟩)
  go_loop [5] (fun i => ∃ k : Nat, k ≤ n ∧ i = .int .i64 k) (fun i => t.size - (intOf i).toNat)
  case atStart => exact ⟨0, Nat.zero_le _, rfl⟩
  case round =>
    obtain ⟨k, hk, rfl⟩ := hrel
    by_cases hlt : k < n
    · have hkz : k < t.size := by omega
      rcases opB_yes (unhide HA k hkz hlt) with a1 | ⟨a1, a2⟩ | ⟨a1, a2, a3⟩
      all_goals
        go_wp2_with fail
        go_round
        case rel => exact ⟨k + 1, by omega, by go_num⟩
        case measure => simp [intOf]; omega
    · obtain rfl : k = n := by omega
      have stop : (∃ hj : k < t.size, ((t[k].toNat : Int) == 60) = false ∧ ((t[k].toNat : Int) == 61) = false ∧ ((t[k].toNat : Int) == 62) = false) ∨ t.size ≤ k := by
        rcases unhide HS with ⟨hj, h⟩ | h
        · exact .inl ⟨hj, opB_no h⟩
        · exact .inr (Nat.le_of_eq h.symm)
      cases ok
      · have HH := hide (show readW t = (0, nob, 21) by rw [unhide HF, if_pos rfl])
        have c2' := hide (fun w => unhide c2 w)
        rw [if_neg (by decide)] at c2'
        rcases stop with ⟨hj, a1, a2, a3⟩ | hj
        all_goals
          clear HF HP c2 HS HA
          go_wp2_with (go_at_call 90; refine (unhide c2' _).mono ?_; rintro e w' ⟨rfl, rfl⟩)
          refine bodyPost_ret (v := .tuple #[.int .i64 0, .string nob, .int .i64 21]) (by simp [results, Tryd.results55, go_sem, nob]) rfl ⟨by rw [unhide HH], Below.refl _ _⟩
      · have hop1 := unhide HP rfl
        have c2' := hide (fun w => unhide c2 w)
        rw [if_pos rfl] at c2'
        cases hpv : (pv == 0)
        · have HH := hide (show readW t = (0, nob, 22) by rw [unhide HF, if_neg (by simp), if_pos (by simpa using hpv)])
          rw [hpv] at c4
          rcases stop with ⟨hj, a1, a2, a3⟩ | hj
          all_goals
            clear HF HP c2 HS HA hpv
            go_wp2_with (first | (go_at_call 90; refine (unhide c2' _).mono ?_; rintro e w' ⟨rfl, rfl⟩) | (go_at_call 52; refine (unhide c3 _).mono ?_; rintro e w' ⟨rfl, rfl⟩) | (go_at_call 91; refine (unhide c4 _).mono ?_; rintro e w5 ⟨rfl, hb5⟩; have HB5 := hide hb5; clear hb5))
            refine bodyPost_ret (v := .tuple #[.int .i64 0, .string nob, .int .i64 22]) (by simp [results, Tryd.results55, go_sem, nob]) rfl ⟨by rw [unhide HH], unhide HB5⟩
        · have HH := hide (show readW t = (op, ver, 0) by rw [unhide HF, if_neg (by simp), if_neg (by simpa using hpv)])
          rw [hpv] at c4
          rcases stop with ⟨hj, a1, a2, a3⟩ | hj
          all_goals
            clear HF HP c2 HS HA hpv
            go_wp2_with (first | (go_at_call 90; refine (unhide c2' _).mono ?_; rintro e w' ⟨rfl, rfl⟩) | (go_at_call 52; refine (unhide c3 _).mono ?_; rintro e w' ⟨rfl, rfl⟩) | (go_at_call 91; refine (unhide c4 _).mono ?_; rintro e w5 ⟨rfl, hb5⟩; have HB5 := hide hb5; clear hb5))
            refine bodyPost_ret (v := .tuple #[.int .i64 op, .string ver, .int .i64 0]) (by simp [results, Tryd.results55, go_sem]) rfl ⟨by rw [unhide HH], unhide HB5⟩

end Go.Proofs.YtfembjjpmjfklaaDoor
