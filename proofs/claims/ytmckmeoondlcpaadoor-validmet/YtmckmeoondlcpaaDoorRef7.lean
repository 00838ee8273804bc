import Derived.Test.YtmckmeoondlcpaaDoorRef6
import Derived.Deep.RegionWith
namespace Go.Proofs.YtmckmeoondlcpaaDoor
open Go.RowKit

/-- THE WORD RUNS: what the inner loop of ref.part finds. -/
theorem word_hit (a b : ByteArray) (m k : Nat) (h0 : sq (cp a b) (2 * m) = 0) (hk : sq (cw (runOf a (2 * m)) (runOf b (2 * m))) k = 0) (ha : k ≤ (runOf a (2 * m)).size) (hb : k ≤ (runOf b (2 * m)).size) (hne : cw (runOf a (2 * m)) (runOf b (2 * m)) k ≠ 0) :
    ordPart a b = cw (runOf a (2 * m)) (runOf b (2 * m)) k := by
  have hmx : k < max (runOf a (2 * m)).size (runOf b (2 * m)).size := by
    by_cases e : k = (runOf a (2 * m)).size ∧ k = (runOf b (2 * m)).size
    · exfalso
      apply hne
      unfold cw
      rw [rkAt_end _ _ (by omega), rkAt_end _ _ (by omega)]
      rfl
    · omega
  have hw : cp a b (2 * m) = cw (runOf a (2 * m)) (runOf b (2 * m)) k := by
    unfold cp
    rw [odd_two]
    show ordWord _ _ = _
    unfold ordWord
    exact sq_hit _ k _ hk hne hmx
  have h1 : sq (cp a b) (2 * m + 1) = cp a b (2 * m) := by
    show (if sq (cp a b) (2 * m) = 0 then _ else _) = _
    rw [if_pos h0]
  rw [ordPart_stop a b (2 * m + 1) (by rw [h1, hw]; exact hne), h1, hw]

theorem word_done (a b : ByteArray) (m k : Nat) (h0 : sq (cp a b) (2 * m) = 0) (hk : sq (cw (runOf a (2 * m)) (runOf b (2 * m))) k = 0) (ha : k = (runOf a (2 * m)).size) (hb : k = (runOf b (2 * m)).size) :
    sq (cp a b) (2 * m + 1) = 0 := by
  refine sq_miss _ _ h0 ?_
  unfold cp
  rw [odd_two]
  show ordWord _ _ = 0
  unfold ordWord
  rw [show max (runOf a (2 * m)).size (runOf b (2 * m)).size = k by omega]
  exact hk

theorem num_cp (a b : ByteArray) (m : Nat) : cp a b (2 * m + 1) = nb (a.extract (zAt a (ia a (2 * m + 1))) (endAt a (ia a (2 * m + 1)) true)) (b.extract (zAt b (ia b (2 * m + 1))) (endAt b (ia b (2 * m + 1)) true)) := by
  have hc : cp a b (2 * m + 1) = ordNum (runOf a (2 * m + 1)) (runOf b (2 * m + 1)) := by
    unfold cp
    rw [if_pos (odd_one m)]
  have e1 : runOf a (2 * m + 1) = a.extract (ia a (2 * m + 1)) (endAt a (ia a (2 * m + 1)) true) := by
    unfold runOf
    have : ia a (2 * m + 1 + 1) = endAt a (ia a (2 * m + 1)) (odd (2 * m + 1)) := rfl
    rw [this, odd_one]
  have e2 : runOf b (2 * m + 1) = b.extract (ia b (2 * m + 1)) (endAt b (ia b (2 * m + 1)) true) := by
    unfold runOf
    have : ia b (2 * m + 1 + 1) = endAt b (ia b (2 * m + 1)) (odd (2 * m + 1)) := rfl
    rw [this, odd_one]
  rw [hc, ← nb_ordNum, e1, e2, strip_run, strip_run]

theorem ia_next (a : ByteArray) (m : Nat) : endAt a (ia a (2 * m + 1)) true = ia a (2 * (m + 1)) := by
  show _ = endAt a (ia a (2 * m + 1)) (odd (2 * m + 1))
  rw [odd_one]

theorem num_hit (a b : ByteArray) (m : Nat) (h0 : sq (cp a b) (2 * m + 1) = 0) (h : cp a b (2 * m + 1) ≠ 0) : ordPart a b = cp a b (2 * m + 1) := by
  have h1 : sq (cp a b) (2 * m + 2) = cp a b (2 * m + 1) := by
    show (if sq (cp a b) (2 * m + 1) = 0 then _ else _) = _
    rw [if_pos h0]
  rw [ordPart_stop a b (2 * m + 2) (by rw [h1]; exact h), h1]

theorem meas_part (a b : ByteArray) (m : Nat) (h : ia a (2 * m) < a.size ∨ ia b (2 * m) < b.size) : (a.size - ia a (2 * (m + 1))) + (b.size - ia b (2 * (m + 1))) < (a.size - ia a (2 * m)) + (b.size - ia b (2 * m)) := by
  have a1 : ia a (2 * m) ≤ ia a (2 * (m + 1)) := Nat.le_trans (ia_mono a (2 * m)) (ia_mono a (2 * m + 1))
  have b1 : ia b (2 * m) ≤ ia b (2 * (m + 1)) := Nat.le_trans (ia_mono b (2 * m)) (ia_mono b (2 * m + 1))
  have a2 := ia_le a (2 * (m + 1))
  have b2 := ia_le b (2 * (m + 1))
  rcases h with h | h
  · have : ia a (2 * m) < ia a (2 * m + 2) := ia_two a (2 * m) h
    have e : ia a (2 * (m + 1)) = ia a (2 * m + 2) := rfl
    omega
  · have : ia b (2 * m) < ia b (2 * m + 2) := ia_two b (2 * m) h
    have e : ia b (2 * (m + 1)) = ia b (2 * m + 2) := rfl
    omega

theorem rk_bd (n : Int) (h : 0 ≤ n) (h2 : n ≤ 255) : 0 ≤ rk n ∧ rk n ≤ 555 := by
  unfold rk
  split
  · omega
  · split <;> omega
theorem rkAt_bd (s : ByteArray) (k : Nat) : 0 ≤ rkAt s k ∧ rkAt s k ≤ 555 := by
  unfold rkAt
  split
  · rename_i h
    have := s[k].toNat_lt
    exact rk_bd _ (by omega) (by omega)
  · omega

set_option maxHeartbeats 4000000 in
theorem rpart_any (a b : ByteArray) (ha : a.size ≤ maxLen) (hb : b.size ≤ maxLen) (w : World) :
    Calls Tryd.prog 36 #[.string a, .string b] w fun e w' => e = .returned (.int .i64 (ordPart a b)) ∧ ∃ n, w' = w.drewN n := by
  have ha' := ha
  have hb' := hb
  unfold maxLen at ha' hb'
  have cR := hide (fun (s : ByteArray) (i : Nat) (w : World) => rrank_any s i w)
  go_enter Tryd.func36, Tryd.ntmps36
  go_wp2
  go_loopw [5, 6] (fun iv jv wr => ∃ m n : Nat, iv = .int .i64 (ia a (2 * m)) ∧ jv = .int .i64 (ia b (2 * m)) ∧ Hid (wr = w.drewN n) ∧ Hid (sq (cp a b) (2 * m) = 0)) (fun iv jv _ => (a.size - (intOf iv).toNat) + (b.size - (intOf jv).toNat))
  case atStart => exact ⟨0, 0, rfl, rfl, rfl, rfl⟩
  case round =>
    obtain ⟨m, n, rfl, rfl, hwr, hz⟩ := hrel
    have ja := ia_le a (2 * m)
    have jb := ia_le b (2 * m)
    by_cases hlt : ia a (2 * m) < a.size ∨ ia b (2 * m) < b.size
    · have HLT := hide hlt
      have za := runOf_sz a (2 * m)
      have zb := runOf_sz b (2 * m)
      have la := ia_le a (2 * m + 1)
      have lb := ia_le b (2 * m + 1)
      have ma := ia_mono a (2 * m)
      have mb := ia_mono b (2 * m)
      have HZA := hide za
      have HZB := hide zb
      clear za zb
      by_cases h1 : ia a (2 * m) < a.size
      · clear hlt
        go_wp2_with fail
        go_loop [5, 6, 7] (fun iv jv _ => ∃ k p q : Nat, Hid (k ≤ (runOf a (2 * m)).size) ∧ Hid (k ≤ (runOf b (2 * m)).size) ∧ p ≤ a.size ∧ q ≤ b.size ∧ iv = .int .i64 p ∧ jv = .int .i64 q ∧ Hid (p = ia a (2 * m) + k) ∧ Hid (q = ia b (2 * m) + k) ∧ Hid (sq (cw (runOf a (2 * m)) (runOf b (2 * m))) k = 0)) (fun iv _ _ => a.size - (intOf iv).toNat)
        case atStart => exact ⟨0, _, _, hide (Nat.zero_le _), hide (Nat.zero_le _), ja, jb, rfl, rfl, rfl, rfl, rfl⟩
        case round =>
          obtain ⟨k, p, q, hka, hkb, hp, hq, rfl, rfl, ep, eq, hk⟩ := hrel
          have HP := hide (show rrk a p = rkAt (runOf a (2 * m)) k by rw [unhide ep]; exact rrk_run a m k (unhide hka))
          have HQ := hide (show rrk b q = rkAt (runOf b (2 * m)) k by rw [unhide eq]; exact rrk_run b m k (unhide hkb))
          have bP := rkAt_bd (runOf a (2 * m)) k
          have bQ := rkAt_bd (runOf b (2 * m)) k
          rw [← unhide HP] at bP
          rw [← unhide HQ] at bQ
          obtain ⟨bP1, bP2⟩ := bP
          obtain ⟨bQ1, bQ2⟩ := bQ
          have kA := hide (fun w => rrank_any a p w)
          have kB := hide (fun w => rrank_any b q w)
          by_cases hne : rrk a p = rrk b q
          · by_cases hone : rrk a p = 1
            · -- both runs are at their end
              have hone2 : rrk b q = 1 := hne ▸ hone
              have k1 : k = (runOf a (2 * m)).size := by
                have h1 := (rkAt_one (runOf a (2 * m)) k).1 ((unhide HP).symm.trans hone)
                have h2 := unhide hka
                omega
              have k2 : k = (runOf b (2 * m)).size := by
                have h1 := (rkAt_one (runOf b (2 * m)) k).1 ((unhide HQ).symm.trans hone2)
                have h2 := unhide hkb
                omega
              have HS := hide (word_done a b m k (unhide hz) (unhide hk) k1 k2)
              have HPA := hide (show p = ia a (2 * m + 1) by have h1 := unhide ep; have h2 := unhide HZA; omega)
              have HQB := hide (show q = ia b (2 * m + 1) by have h1 := unhide eq; have h2 := unhide HZB; omega)
              have HX := hide (num_cp a b m)
              have HN1 := hide (ia_next a m)
              have HN2 := hide (ia_next b m)
              rw [← unhide HPA] at HX HN1
              rw [← unhide HQB] at HX HN2
              have z1 := zAt_le a p
              have z2 := zAt_le b q
              have z3 := endAt_le a p true hp
              have z4 := endAt_le b q true hq
              have s1 := Nat.le_trans (size_le_of_extract a (zAt a p) (endAt a p true)) ha
              have s2 := Nat.le_trans (size_le_of_extract b (zAt b q) (endAt b q true)) hb
              have kN := hide (fun w => rnumbers_any (a.extract (zAt a p) (endAt a p true)) (b.extract (zAt b q) (endAt b q true)) s1 s2 w)
              have kA2 := hide (fun w => rrun_any a ha p hp w)
              have kB2 := hide (fun w => rrun_any b hb q hq w)
              have HNH := hide (num_hit a b m (unhide HS))
              have HSM := hide (fun h => sq_miss (cp a b) (2 * m + 1) (unhide HS) h)
              rw [hone] at kA
              rw [hone2] at kB
              clear s1 s2 k1 k2 hone hone2 hne bP1 bP2 bQ1 bQ2 HP HQ hka hkb ep eq hk HS HPA HQB la lb ma mb HZA HZB
              generalize nb (a.extract (zAt a p) (endAt a p true)) (b.extract (zAt b q) (endAt b q true)) = X at *
              by_cases hX : X = 0
              · have nX : (X != 0) = false := by simp [hX]
                have HR := hide (unhide HSM ((unhide HX).trans hX))
                have HM := hide (meas_part a b m (unhide HLT))
                clear hX HSM HNH
                go_wp2_with fail
                refine (unhide kA _).mono ?_
                rintro e w' ⟨rfl, rfl⟩
                go_wp2_with fail
                refine (unhide kB _).mono ?_
                rintro e w' ⟨rfl, rfl⟩
                go_wp2_with fail
                refine (unhide kA2 _).mono ?_
                rintro e w' ⟨rfl, rfl⟩
                go_wp2_with fail
                refine (unhide kB2 _).mono ?_
                rintro e w' ⟨rfl, rfl⟩
                go_wp2_with fail
                go_quiet ((go_at_call 55; refine (unhide kN _).mono ?_; rintro e w'' ⟨rfl, n1, rfl⟩; exact ⟨rfl, _, by rw [World.drewN_drewN]⟩))
                go_wp2
                go_roundw
                case rel => exact ⟨m + 1, _, by rw [unhide HN1], by rw [unhide HN2], hide (by rw [unhide hwr, World.drewN_drewN]), HR⟩
                case measure => rw [unhide HN1, unhide HN2]; simp only [intOf, Int.toNat_natCast]; exact unhide HM
              · have nX : (X != 0) = true := by simpa using hX
                have HF := hide ((unhide HNH (by rw [unhide HX]; exact hX)).trans (unhide HX))
                clear hX HSM HNH
                go_wp2_with fail
                refine (unhide kA _).mono ?_
                rintro e w' ⟨rfl, rfl⟩
                go_wp2_with fail
                refine (unhide kB _).mono ?_
                rintro e w' ⟨rfl, rfl⟩
                go_wp2_with fail
                refine (unhide kA2 _).mono ?_
                rintro e w' ⟨rfl, rfl⟩
                go_wp2_with fail
                refine (unhide kB2 _).mono ?_
                rintro e w' ⟨rfl, rfl⟩
                go_wp2_with fail
                go_quiet ((go_at_call 55; refine (unhide kN _).mono ?_; rintro e w'' ⟨rfl, n1, rfl⟩; exact ⟨rfl, _, by rw [World.drewN_drewN]⟩))
                go_wp2
                go_ret
                exact ⟨ret_int64 (unhide HF).symm, _, by rw [unhide hwr, World.drewN_drewN]⟩
            · -- the bytes are alike: on
              have hone2 : ¬ rrk b q = 1 := fun h => hone (hne.trans h)
              have g1 : k < (runOf a (2 * m)).size := by
                have h1 : ¬ (runOf a (2 * m)).size ≤ k := fun h => hone ((unhide HP).trans (rkAt_end _ _ h))
                omega
              have g2 : k < (runOf b (2 * m)).size := by
                have h1 : ¬ (runOf b (2 * m)).size ≤ k := fun h => hone2 ((unhide HQ).trans (rkAt_end _ _ h))
                omega
              have hp2 : p < a.size := by have h1 := unhide ep; have h2 := unhide HZA; omega
              have hq2 : q < b.size := by have h1 := unhide eq; have h2 := unhide HZB; omega
              have HC := hide (show sq (cw (runOf a (2 * m)) (runOf b (2 * m))) (k + 1) = 0 from sq_miss _ k (unhide hk) (by unfold cw; rw [← unhide HP, ← unhide HQ, hne]; exact ci_refl _))
              have HG1 := hide g1
              have HG2 := hide g2
              have n1 : (rrk a p != 1) = true := by simpa using hone
              have n2 : (rrk b q != 1) = true := by simpa using hone2
              have n3 : rrk a p - rrk b q = 0 := by omega
              have n4 : ((0 : Int) != 0) = false := rfl
              clear g1 g2 hone hone2 HP HQ hk
              generalize rrk a p = X at *
              generalize rrk b q = Y at *
              subst hne
              go_wp2_with fail
              refine (unhide kA _).mono ?_
              rintro e w' ⟨rfl, rfl⟩
              go_wp2_with fail
              refine (unhide kA _).mono ?_
              rintro e w' ⟨rfl, rfl⟩
              go_wp2_with fail
              refine (unhide kB _).mono ?_
              rintro e w' ⟨rfl, rfl⟩
              go_wp2_with fail
              go_round
              case rel => exact ⟨k + 1, p + 1, q + 1, hide (unhide HG1), hide (unhide HG2), hp2, hq2, by go_num, by go_num, hide (by rw [unhide ep]; omega), hide (by rw [unhide eq]; omega), HC⟩
              case measure => simp [intOf]; omega
          · -- the bytes part
            have HF := hide (show ordPart a b = ci (rrk a p) (rrk b q) by
              have hcw : cw (runOf a (2 * m)) (runOf b (2 * m)) k = ci (rrk a p) (rrk b q) := by unfold cw; rw [← unhide HP, ← unhide HQ]
              have h0 : cw (runOf a (2 * m)) (runOf b (2 * m)) k ≠ 0 := by
                rw [hcw]
                unfold ci
                split
                · decide
                · split
                  · decide
                  · omega
              rw [word_hit a b m k (unhide hz) (unhide hk) (unhide hka) (unhide hkb) h0, hcw])
            have n3 : (rrk a p - rrk b q != 0) = true := by simp; omega
            have kS := hide (fun w => rsign_any (rrk a p) (rrk b q) w (by omega) (by omega))
            clear HP HQ hk
            generalize ci (rrk a p) (rrk b q) = Z at *
            by_cases h1 : rrk a p = 1
            · have n1 : (rrk a p != 1) = false := by simp [h1]
              have n2 : (rrk b q != 1) = true := by simp; omega
              clear h1 hne
              generalize rrk a p = X at *
              generalize rrk b q = Y at *
              go_wp2_with fail
              refine (unhide kA _).mono ?_
              rintro e w' ⟨rfl, rfl⟩
              go_wp2_with fail
              refine (unhide kB _).mono ?_
              rintro e w' ⟨rfl, rfl⟩
              go_wp2_with fail
              refine (unhide kA _).mono ?_
              rintro e w' ⟨rfl, rfl⟩
              go_wp2_with fail
              refine (unhide kB _).mono ?_
              rintro e w' ⟨rfl, rfl⟩
              go_wp2_with fail
              refine (unhide kS _).mono ?_
              rintro e w' ⟨rfl, rfl⟩
              go_wp2_with fail
              go_ret
              exact ⟨ret_int64 (unhide HF).symm, n, unhide hwr⟩
            · have n1 : (rrk a p != 1) = true := by simpa using h1
              clear h1 hne
              generalize rrk a p = X at *
              generalize rrk b q = Y at *
              go_wp2_with fail
              refine (unhide kA _).mono ?_
              rintro e w' ⟨rfl, rfl⟩
              go_wp2_with fail
              refine (unhide kA _).mono ?_
              rintro e w' ⟨rfl, rfl⟩
              go_wp2_with fail
              refine (unhide kB _).mono ?_
              rintro e w' ⟨rfl, rfl⟩
              go_wp2_with fail
              refine (unhide kS _).mono ?_
              rintro e w' ⟨rfl, rfl⟩
              go_wp2_with fail
              go_ret
              exact ⟨ret_int64 (unhide HF).symm, n, unhide hwr⟩
      · have h2 : ia b (2 * m) < b.size := by omega
        clear hlt
        go_wp2_with fail
        go_loop [5, 6, 7] (fun iv jv _ => ∃ k p q : Nat, Hid (k ≤ (runOf a (2 * m)).size) ∧ Hid (k ≤ (runOf b (2 * m)).size) ∧ p ≤ a.size ∧ q ≤ b.size ∧ iv = .int .i64 p ∧ jv = .int .i64 q ∧ Hid (p = ia a (2 * m) + k) ∧ Hid (q = ia b (2 * m) + k) ∧ Hid (sq (cw (runOf a (2 * m)) (runOf b (2 * m))) k = 0)) (fun iv _ _ => a.size - (intOf iv).toNat)
        case atStart => exact ⟨0, _, _, hide (Nat.zero_le _), hide (Nat.zero_le _), ja, jb, rfl, rfl, rfl, rfl, rfl⟩
        case round =>
          obtain ⟨k, p, q, hka, hkb, hp, hq, rfl, rfl, ep, eq, hk⟩ := hrel
          have HP := hide (show rrk a p = rkAt (runOf a (2 * m)) k by rw [unhide ep]; exact rrk_run a m k (unhide hka))
          have HQ := hide (show rrk b q = rkAt (runOf b (2 * m)) k by rw [unhide eq]; exact rrk_run b m k (unhide hkb))
          have bP := rkAt_bd (runOf a (2 * m)) k
          have bQ := rkAt_bd (runOf b (2 * m)) k
          rw [← unhide HP] at bP
          rw [← unhide HQ] at bQ
          obtain ⟨bP1, bP2⟩ := bP
          obtain ⟨bQ1, bQ2⟩ := bQ
          have kA := hide (fun w => rrank_any a p w)
          have kB := hide (fun w => rrank_any b q w)
          by_cases hne : rrk a p = rrk b q
          · by_cases hone : rrk a p = 1
            · -- both runs are at their end
              have hone2 : rrk b q = 1 := hne ▸ hone
              have k1 : k = (runOf a (2 * m)).size := by
                have h1 := (rkAt_one (runOf a (2 * m)) k).1 ((unhide HP).symm.trans hone)
                have h2 := unhide hka
                omega
              have k2 : k = (runOf b (2 * m)).size := by
                have h1 := (rkAt_one (runOf b (2 * m)) k).1 ((unhide HQ).symm.trans hone2)
                have h2 := unhide hkb
                omega
              have HS := hide (word_done a b m k (unhide hz) (unhide hk) k1 k2)
              have HPA := hide (show p = ia a (2 * m + 1) by have h1 := unhide ep; have h2 := unhide HZA; omega)
              have HQB := hide (show q = ia b (2 * m + 1) by have h1 := unhide eq; have h2 := unhide HZB; omega)
              have HX := hide (num_cp a b m)
              have HN1 := hide (ia_next a m)
              have HN2 := hide (ia_next b m)
              rw [← unhide HPA] at HX HN1
              rw [← unhide HQB] at HX HN2
              have z1 := zAt_le a p
              have z2 := zAt_le b q
              have z3 := endAt_le a p true hp
              have z4 := endAt_le b q true hq
              have s1 := Nat.le_trans (size_le_of_extract a (zAt a p) (endAt a p true)) ha
              have s2 := Nat.le_trans (size_le_of_extract b (zAt b q) (endAt b q true)) hb
              have kN := hide (fun w => rnumbers_any (a.extract (zAt a p) (endAt a p true)) (b.extract (zAt b q) (endAt b q true)) s1 s2 w)
              have kA2 := hide (fun w => rrun_any a ha p hp w)
              have kB2 := hide (fun w => rrun_any b hb q hq w)
              have HNH := hide (num_hit a b m (unhide HS))
              have HSM := hide (fun h => sq_miss (cp a b) (2 * m + 1) (unhide HS) h)
              rw [hone] at kA
              rw [hone2] at kB
              clear s1 s2 k1 k2 hone hone2 hne bP1 bP2 bQ1 bQ2 HP HQ hka hkb ep eq hk HS HPA HQB la lb ma mb HZA HZB
              generalize nb (a.extract (zAt a p) (endAt a p true)) (b.extract (zAt b q) (endAt b q true)) = X at *
              by_cases hX : X = 0
              · have nX : (X != 0) = false := by simp [hX]
                have HR := hide (unhide HSM ((unhide HX).trans hX))
                have HM := hide (meas_part a b m (unhide HLT))
                clear hX HSM HNH
                go_wp2_with fail
                refine (unhide kA _).mono ?_
                rintro e w' ⟨rfl, rfl⟩
                go_wp2_with fail
                refine (unhide kB _).mono ?_
                rintro e w' ⟨rfl, rfl⟩
                go_wp2_with fail
                refine (unhide kA2 _).mono ?_
                rintro e w' ⟨rfl, rfl⟩
                go_wp2_with fail
                refine (unhide kB2 _).mono ?_
                rintro e w' ⟨rfl, rfl⟩
                go_wp2_with fail
                go_quiet ((go_at_call 55; refine (unhide kN _).mono ?_; rintro e w'' ⟨rfl, n1, rfl⟩; exact ⟨rfl, _, by rw [World.drewN_drewN]⟩))
                go_wp2
                go_roundw
                case rel => exact ⟨m + 1, _, by rw [unhide HN1], by rw [unhide HN2], hide (by rw [unhide hwr, World.drewN_drewN]), HR⟩
                case measure => rw [unhide HN1, unhide HN2]; simp only [intOf, Int.toNat_natCast]; exact unhide HM
              · have nX : (X != 0) = true := by simpa using hX
                have HF := hide ((unhide HNH (by rw [unhide HX]; exact hX)).trans (unhide HX))
                clear hX HSM HNH
                go_wp2_with fail
                refine (unhide kA _).mono ?_
                rintro e w' ⟨rfl, rfl⟩
                go_wp2_with fail
                refine (unhide kB _).mono ?_
                rintro e w' ⟨rfl, rfl⟩
                go_wp2_with fail
                refine (unhide kA2 _).mono ?_
                rintro e w' ⟨rfl, rfl⟩
                go_wp2_with fail
                refine (unhide kB2 _).mono ?_
                rintro e w' ⟨rfl, rfl⟩
                go_wp2_with fail
                go_quiet ((go_at_call 55; refine (unhide kN _).mono ?_; rintro e w'' ⟨rfl, n1, rfl⟩; exact ⟨rfl, _, by rw [World.drewN_drewN]⟩))
                go_wp2
                go_ret
                exact ⟨ret_int64 (unhide HF).symm, _, by rw [unhide hwr, World.drewN_drewN]⟩
            · -- the bytes are alike: on
              have hone2 : ¬ rrk b q = 1 := fun h => hone (hne.trans h)
              have g1 : k < (runOf a (2 * m)).size := by
                have h1 : ¬ (runOf a (2 * m)).size ≤ k := fun h => hone ((unhide HP).trans (rkAt_end _ _ h))
                omega
              have g2 : k < (runOf b (2 * m)).size := by
                have h1 : ¬ (runOf b (2 * m)).size ≤ k := fun h => hone2 ((unhide HQ).trans (rkAt_end _ _ h))
                omega
              have hp2 : p < a.size := by have h1 := unhide ep; have h2 := unhide HZA; omega
              have hq2 : q < b.size := by have h1 := unhide eq; have h2 := unhide HZB; omega
              have HC := hide (show sq (cw (runOf a (2 * m)) (runOf b (2 * m))) (k + 1) = 0 from sq_miss _ k (unhide hk) (by unfold cw; rw [← unhide HP, ← unhide HQ, hne]; exact ci_refl _))
              have HG1 := hide g1
              have HG2 := hide g2
              have n1 : (rrk a p != 1) = true := by simpa using hone
              have n2 : (rrk b q != 1) = true := by simpa using hone2
              have n3 : rrk a p - rrk b q = 0 := by omega
              have n4 : ((0 : Int) != 0) = false := rfl
              clear g1 g2 hone hone2 HP HQ hk
              generalize rrk a p = X at *
              generalize rrk b q = Y at *
              subst hne
              go_wp2_with fail
              refine (unhide kA _).mono ?_
              rintro e w' ⟨rfl, rfl⟩
              go_wp2_with fail
              refine (unhide kA _).mono ?_
              rintro e w' ⟨rfl, rfl⟩
              go_wp2_with fail
              refine (unhide kB _).mono ?_
              rintro e w' ⟨rfl, rfl⟩
              go_wp2_with fail
              go_round
              case rel => exact ⟨k + 1, p + 1, q + 1, hide (unhide HG1), hide (unhide HG2), hp2, hq2, by go_num, by go_num, hide (by rw [unhide ep]; omega), hide (by rw [unhide eq]; omega), HC⟩
              case measure => simp [intOf]; omega
          · -- the bytes part
            have HF := hide (show ordPart a b = ci (rrk a p) (rrk b q) by
              have hcw : cw (runOf a (2 * m)) (runOf b (2 * m)) k = ci (rrk a p) (rrk b q) := by unfold cw; rw [← unhide HP, ← unhide HQ]
              have h0 : cw (runOf a (2 * m)) (runOf b (2 * m)) k ≠ 0 := by
                rw [hcw]
                unfold ci
                split
                · decide
                · split
                  · decide
                  · omega
              rw [word_hit a b m k (unhide hz) (unhide hk) (unhide hka) (unhide hkb) h0, hcw])
            have n3 : (rrk a p - rrk b q != 0) = true := by simp; omega
            have kS := hide (fun w => rsign_any (rrk a p) (rrk b q) w (by omega) (by omega))
            clear HP HQ hk
            generalize ci (rrk a p) (rrk b q) = Z at *
            by_cases h1 : rrk a p = 1
            · have n1 : (rrk a p != 1) = false := by simp [h1]
              have n2 : (rrk b q != 1) = true := by simp; omega
              clear h1 hne
              generalize rrk a p = X at *
              generalize rrk b q = Y at *
              go_wp2_with fail
              refine (unhide kA _).mono ?_
              rintro e w' ⟨rfl, rfl⟩
              go_wp2_with fail
              refine (unhide kB _).mono ?_
              rintro e w' ⟨rfl, rfl⟩
              go_wp2_with fail
              refine (unhide kA _).mono ?_
              rintro e w' ⟨rfl, rfl⟩
              go_wp2_with fail
              refine (unhide kB _).mono ?_
              rintro e w' ⟨rfl, rfl⟩
              go_wp2_with fail
              refine (unhide kS _).mono ?_
              rintro e w' ⟨rfl, rfl⟩
              go_wp2_with fail
              go_ret
              exact ⟨ret_int64 (unhide HF).symm, n, unhide hwr⟩
            · have n1 : (rrk a p != 1) = true := by simpa using h1
              clear h1 hne
              generalize rrk a p = X at *
              generalize rrk b q = Y at *
              go_wp2_with fail
              refine (unhide kA _).mono ?_
              rintro e w' ⟨rfl, rfl⟩
              go_wp2_with fail
              refine (unhide kA _).mono ?_
              rintro e w' ⟨rfl, rfl⟩
              go_wp2_with fail
              refine (unhide kB _).mono ?_
              rintro e w' ⟨rfl, rfl⟩
              go_wp2_with fail
              refine (unhide kS _).mono ?_
              rintro e w' ⟨rfl, rfl⟩
              go_wp2_with fail
              go_ret
              exact ⟨ret_int64 (unhide HF).symm, n, unhide hwr⟩
    · have h1 : a.size ≤ ia a (2 * m) := by omega
      have h2 : b.size ≤ ia b (2 * m) := by omega
      have HF := hide (ordPart_done a b (2 * m) (by omega) (by omega) (unhide hz))
      clear hlt
      go_wp2
      go_ret
      exact ⟨ret_int64 (unhide HF).symm, n, unhide hwr⟩

end Go.Proofs.YtmckmeoondlcpaaDoor
