import Derived.Test.YtdkpglmdncjnbaaGreatDoorZf04
namespace Go.Proofs.YtdkpglmdncjnbaaGreatDoor
section
open Go.RowKit
def bt (s : ByteArray) (i : Nat) : Int := if h : i < s.size then (s[i].toNat : Int) else 0
def cb (x y : ByteArray) (i : Nat) : Int := ci (bt x i) (bt y i)
def nb (x y : ByteArray) : Int := if x.size = y.size then sq (cb x y) x.size else ci x.size y.size
theorem sq_cons (c : Nat → Int) : ∀ n, sq c (n + 1) = if c 0 = 0 then sq (fun i => c (i + 1)) n else c 0
 | 0 => by
   show (if (0 : Int) = 0 then c 0 else 0) = _
   rw [if_pos rfl]
   split
   ·rename_i h; rw [h]; rfl
   ·rfl
 | n + 1 => by
   have e : sq c (n + 2) = if sq c (n + 1) = 0 then c (n + 1) else sq c (n + 1) := rfl
   rw [e, sq_cons c n]
   by_cases h : c 0 = 0
   ·rw [if_pos h, if_pos h]; rfl
   ·rw [if_neg h, if_neg h, if_neg h]
theorem csL_sq : ∀ x y : List UInt8, x.length = y.length → csL x y = sq (fun i => ci ((x.getD i 0).toNat : Int) ((y.getD i 0).toNat : Int)) x.length
 | [], [], _ => rfl
 | [], _ :: _, h => by simp at h
 | _ :: _, [], h => by simp at h
 | a :: x, b :: y, h => by
   rw [csL_cons, List.length_cons, sq_cons]
   have ih := csL_sq x y (by simpa using h)
   rw [ih]
   rfl
theorem bt_getD (s : ByteArray) (i : Nat) : bt s i = ((s.data.toList.getD i 0).toNat : Int) := by
 unfold bt
 by_cases h : i < s.size
 ·have h' : i < s.data.toList.length := by simpa using h
  rw [dif_pos h, List.getD_eq_getElem?_getD, List.getElem?_eq_getElem h']
  rfl
 ·have h' : s.data.toList.length ≤ i := by simpa using h
  rw [dif_neg h, List.getD_eq_getElem?_getD, List.getElem?_eq_none h']
  rfl
theorem nb_ordNum (x y : ByteArray) : nb (stripB x) (stripB y) = ordNum x y := by
 unfold nb ordNum
 generalize stripB x = a
 generalize stripB y = b
 by_cases h : a.size = b.size
 ·have hc : ci (a.size : Int) (b.size : Int) = 0 := by rw [h]; exact ci_refl _
  rw [if_pos h, if_pos hc, cs_csL, Lib.toList_data, Lib.toList_data, csL_sq _ _ (by simpa using h)]
  have e : a.data.toList.length = a.size := by simp
  rw [e]
  apply sq_congr
  intro i _
  unfold cb
  rw [bt_getD, bt_getD]
 ·have hc : ¬ ci (a.size : Int) (b.size : Int) = 0 := by
   unfold ci
   split
   ·decide
   ·split
    ·decide
    ·omega
  rw [if_neg h, if_neg hc]
set_option maxHeartbeats 1000000 in
theorem rnumbers_any (x y : ByteArray) (hx : x.size ≤ maxLen) (hy : y.size ≤ maxLen) (w : World) :
 Calls Tryz.prog 148 #[.string x, .string y] w fun e w' => e = .returned (.int .i64 (nb x y)) ∧ ∃ n, w' = w.drewN n := by
 unfold maxLen at hx hy
 by_cases h : x.size = y.size
 ·have HF := hide (show nb x y = sq (cb x y) x.size by unfold nb; rw [if_pos h])
  have hne : ((x.size : Int) != (y.size : Int)) = false := by simp [h]
  have hle : x.size ≤ y.size := by omega
  clear h
  go_enter Tryz.func148, Tryz.ntmps148
  go_wp2
  go_loopw [5] (fun i wr => ∃ k n : Nat, k ≤ x.size ∧ i = .int .i64 k ∧ wr = w.drewN n ∧ Hid (sq (cb x y) k = 0)) (fun i _ => x.size - (intOf i).toNat)
  case atStart => exact ⟨0, 0, Nat.zero_le _, rfl, rfl, rfl⟩
  case round =>
   obtain ⟨k, n, hk, rfl, rfl, hz⟩ := hrel
   by_cases hlt : k < x.size
   ·have hlt2 : k < y.size := by omega
    have hi1 : (k : Int) < (x.size : Int) := by omega
    have hi2 : (k : Int) < (y.size : Int) := by omega
    have b1 : (x[k].toNat : Int) ≤ 255 := by have := x[k].toNat_lt; omega
    have b2 : (y[k].toNat : Int) ≤ 255 := by have := y[k].toNat_lt; omega
    have HC := hide (show cb x y k = ci (x[k].toNat : Int) (y[k].toNat : Int) by unfold cb bt; rw [dif_pos hlt, dif_pos hlt2])
    cases hq : ((x[k].toNat : Int) != (y[k].toNat : Int))
    ·have HZ := hide (show cb x y k = 0 by rw [unhide HC]; have : (x[k].toNat : Int) = (y[k].toNat : Int) := by simpa using hq
                                           rw [this]; exact ci_refl _)
     go_wp2_with fail
     go_quiet (fail)
     go_wp2
     go_roundw
     case rel => exact ⟨k + 1, _, by omega, by go_num, rfl, hide (sq_miss _ k (unhide hz) (unhide HZ))⟩
     case measure => simp [intOf]; omega
    ·have HN := hide (show cb x y k ≠ 0 by
      rw [unhide HC]
      have : (x[k].toNat : Int) ≠ (y[k].toNat : Int) := by simpa using hq
      unfold ci
      split
      ·decide
      ·split
       ·decide
       ·omega)
     go_wp2_with fail
     go_quiet (fail)
     go_wp2_with fail
     go_quiet ((go_at_call 146; refine (rsign_any _ _ _ (by omega) (by omega)).mono ?_; rintro e w'' ⟨rfl, rfl⟩; exact ⟨rfl, _, rfl⟩))
     go_wp2
     go_ret
     exact ⟨ret_int64 (by rw [unhide HF, sq_hit _ k _ (unhide hz) (unhide HN) hlt, unhide HC]), _, by rw [World.drewN_drewN, World.drewN_drewN]⟩
   ·have HZ := hide (show sq (cb x y) x.size = 0 by have : k = x.size := by omega
                                                    rw [← this]; exact unhide hz)
    go_wp2
    go_ret
    exact ⟨ret_int64 (by rw [unhide HF]; exact (unhide HZ).symm), _, rfl⟩
 ·have HF := hide (show nb x y = ci x.size y.size by unfold nb; rw [if_neg h])
  have hne : ((x.size : Int) != (y.size : Int)) = true := by simp; omega
  clear h
  go_enter Tryz.func148, Tryz.ntmps148
  go_wp2_with (go_at_call 146; refine (rsign_any _ _ _ (by omega) (by omega)).mono ?_; rintro e w' ⟨rfl, rfl⟩)
  go_ret
  exact ⟨ret_int64 (unhide HF).symm, 0, rfl⟩
theorem odd_two : ∀ m, odd (2 * m) = false
 | 0 => rfl
 | m + 1 => by
   have e : odd (2 * (m + 1)) = !!odd (2 * m) := rfl
   rw [e, odd_two m]; rfl
theorem odd_one (m : Nat) : odd (2 * m + 1) = true := by
 show (!odd (2 * m)) = true
 rw [odd_two]; rfl
theorem endAt_in (s : ByteArray) (dg : Bool) : ∀ (m i k : Nat), s.size - i ≤ m → i ≤ k → k < endAt s i dg → ∀ h : k < s.size, (isDig (s[k].toNat : Int) == dg) = true
 | 0, i, k, hm, h1, h2, h => by omega
 | m + 1, i, k, hm, h1, h2, h => by
   by_cases hi : i < s.size
   ·cases hd : (isDig (s[i].toNat : Int) == dg)
    ·rw [endAt_stop s i dg hi hd] at h2; omega
    ·by_cases e : k = i
     ·subst e; exact hd
     ·rw [← endAt_step s i dg hi hd] at h2
      exact endAt_in s dg m (i + 1) k (by omega) (by omega) h2 h
   ·omega
theorem runOf_sz (s : ByteArray) (n : Nat) : (runOf s n).size = ia s (n + 1) - ia s n := by
 unfold runOf
 have := ia_le s (n + 1)
 rw [ByteArray.size_extract]
 omega
theorem runOf_at (s : ByteArray) (n k : Nat) (h : k < (runOf s n).size) : ∃ h2 : ia s n + k < s.size, (runOf s n)[k] = s[ia s n + k] := by
 have hz := runOf_sz s n
 have hl := ia_le s (n + 1)
 have h2 : ia s n + k < s.size := by omega
 refine ⟨h2, ?_⟩
 exact ByteArray.getElem_extract (h := h)
theorem rk_ne_one (n : Int) (h : 0 ≤ n) : rk n ≠ 1 := by
 unfold rk
 split
 ·decide
 ·split <;> omega
theorem rrk_run (s : ByteArray) (m k : Nat) (h : k ≤ (runOf s (2 * m)).size) : rrk s (ia s (2 * m) + k) = rkAt (runOf s (2 * m)) k := by
 have hz := runOf_sz s (2 * m)
 by_cases hk : k < (runOf s (2 * m)).size
 ·obtain ⟨h2, he⟩ := runOf_at s (2 * m) k hk
  have hd := endAt_in s (odd (2 * m)) _ (ia s (2 * m)) (ia s (2 * m) + k) (Nat.le_refl _) (by omega) (by show _ < ia s (2 * m + 1); omega) h2
  rw [odd_two] at hd
  have hd' : isDig (s[ia s (2 * m) + k].toNat : Int) = false := by simpa using hd
  unfold rrk rkAt
  rw [dif_pos h2, dif_pos hk, hd', he]
  rfl
 ·have hk' : ia s (2 * m) + k = ia s (2 * m + 1) := by
   have := ia_mono s (2 * m)
   omega
  rw [hk', rkAt_end _ _ (by omega)]
  unfold rrk
  split
  ·rename_i hlt
   have hc := endAt_char s (odd (2 * m)) _ (ia s (2 * m)) (ia s (2 * m + 1)) (Nat.le_refl _) rfl hlt
   rw [odd_two] at hc
   have : isDig (s[ia s (2 * m + 1)].toNat : Int) = true := by simpa using hc
   rw [if_pos this]
  ·rfl
theorem rkAt_one (s : ByteArray) (k : Nat) : rkAt s k = 1 ↔ s.size ≤ k := by
 constructor
 ·intro h
  by_cases hk : k < s.size
  ·unfold rkAt at h
   rw [dif_pos hk] at h
   exact absurd h (rk_ne_one _ (by omega))
  ·omega
 ·exact rkAt_end s k
end
section
open Go.RowKit
theorem word_hit (a b : ByteArray) (m k : Nat) (h0 : sq (cp a b) (2 * m) = 0) (hk : sq (cw (runOf a (2 * m)) (runOf b (2 * m))) k = 0) (ha : k ≤ (runOf a (2 * m)).size) (hb : k ≤ (runOf b (2 * m)).size) (hne : cw (runOf a (2 * m)) (runOf b (2 * m)) k ≠ 0) :
 ordPart a b = cw (runOf a (2 * m)) (runOf b (2 * m)) k := by
 have hmx : k < max (runOf a (2 * m)).size (runOf b (2 * m)).size := by
  by_cases e : k = (runOf a (2 * m)).size ∧ k = (runOf b (2 * m)).size
  ·exfalso
   apply hne
   unfold cw
   rw [rkAt_end _ _ (by omega), rkAt_end _ _ (by omega)]
   rfl
  ·omega
 have hw : cp a b (2 * m) = cw (runOf a (2 * m)) (runOf b (2 * m)) k := by
  unfold cp
  rw [odd_two]
  show ordWord _ _ = _
  unfold ordWord
  exact sq_hit _ k _ hk hne hmx
 have h1 : sq (cp a b) (2 * m + 1) = cp a b (2 * m) := by
  show (if sq (cp a b) (2 * m) = 0 then _ else _) = _
  rw [if_pos h0]
 rw [ordPart_stop a b (2 * m + 1) (by rw [h1, hw]; exact hne), h1, hw]
theorem word_done (a b : ByteArray) (m k : Nat) (h0 : sq (cp a b) (2 * m) = 0) (hk : sq (cw (runOf a (2 * m)) (runOf b (2 * m))) k = 0) (ha : k = (runOf a (2 * m)).size) (hb : k = (runOf b (2 * m)).size) :
 sq (cp a b) (2 * m + 1) = 0 := by
 refine sq_miss _ _ h0 ?_
 unfold cp
 rw [odd_two]
 show ordWord _ _ = 0
 unfold ordWord
 rw [show max (runOf a (2 * m)).size (runOf b (2 * m)).size = k by omega]
 exact hk
theorem num_cp (a b : ByteArray) (m : Nat) : cp a b (2 * m + 1) = nb (a.extract (zAt a (ia a (2 * m + 1))) (endAt a (ia a (2 * m + 1)) true)) (b.extract (zAt b (ia b (2 * m + 1))) (endAt b (ia b (2 * m + 1)) true)) := by
 have hc : cp a b (2 * m + 1) = ordNum (runOf a (2 * m + 1)) (runOf b (2 * m + 1)) := by
  unfold cp
  rw [if_pos (odd_one m)]
 have e1 : runOf a (2 * m + 1) = a.extract (ia a (2 * m + 1)) (endAt a (ia a (2 * m + 1)) true) := by
  unfold runOf
  have : ia a (2 * m + 1 + 1) = endAt a (ia a (2 * m + 1)) (odd (2 * m + 1)) := rfl
  rw [this, odd_one]
 have e2 : runOf b (2 * m + 1) = b.extract (ia b (2 * m + 1)) (endAt b (ia b (2 * m + 1)) true) := by
  unfold runOf
  have : ia b (2 * m + 1 + 1) = endAt b (ia b (2 * m + 1)) (odd (2 * m + 1)) := rfl
  rw [this, odd_one]
 rw [hc, ← nb_ordNum, e1, e2, strip_run, strip_run]
theorem ia_next (a : ByteArray) (m : Nat) : endAt a (ia a (2 * m + 1)) true = ia a (2 * (m + 1)) := by
 show _ = endAt a (ia a (2 * m + 1)) (odd (2 * m + 1))
 rw [odd_one]
theorem num_hit (a b : ByteArray) (m : Nat) (h0 : sq (cp a b) (2 * m + 1) = 0) (h : cp a b (2 * m + 1) ≠ 0) : ordPart a b = cp a b (2 * m + 1) := by
 have h1 : sq (cp a b) (2 * m + 2) = cp a b (2 * m + 1) := by
  show (if sq (cp a b) (2 * m + 1) = 0 then _ else _) = _
  rw [if_pos h0]
 rw [ordPart_stop a b (2 * m + 2) (by rw [h1]; exact h), h1]
theorem meas_part (a b : ByteArray) (m : Nat) (h : ia a (2 * m) < a.size ∨ ia b (2 * m) < b.size) : (a.size - ia a (2 * (m + 1))) + (b.size - ia b (2 * (m + 1))) < (a.size - ia a (2 * m)) + (b.size - ia b (2 * m)) := by
 have a1 : ia a (2 * m) ≤ ia a (2 * (m + 1)) := Nat.le_trans (ia_mono a (2 * m)) (ia_mono a (2 * m + 1))
 have b1 : ia b (2 * m) ≤ ia b (2 * (m + 1)) := Nat.le_trans (ia_mono b (2 * m)) (ia_mono b (2 * m + 1))
 have a2 := ia_le a (2 * (m + 1))
 have b2 := ia_le b (2 * (m + 1))
 rcases h with h | h
 ·have : ia a (2 * m) < ia a (2 * m + 2) := ia_two a (2 * m) h
  have e : ia a (2 * (m + 1)) = ia a (2 * m + 2) := rfl
  omega
 ·have : ia b (2 * m) < ia b (2 * m + 2) := ia_two b (2 * m) h
  have e : ia b (2 * (m + 1)) = ia b (2 * m + 2) := rfl
  omega
theorem rk_bd (n : Int) (h : 0 ≤ n) (h2 : n ≤ 255) : 0 ≤ rk n ∧ rk n ≤ 555 := by
 unfold rk
 split
 ·omega
 ·split <;> omega
theorem rkAt_bd (s : ByteArray) (k : Nat) : 0 ≤ rkAt s k ∧ rkAt s k ≤ 555 := by
 unfold rkAt
 split
 ·rename_i h
  have := s[k].toNat_lt
  exact rk_bd _ (by omega) (by omega)
 ·omega
set_option maxHeartbeats 4000000 in
theorem rpart_any (a b : ByteArray) (ha : a.size ≤ maxLen) (hb : b.size ≤ maxLen) (w : World) :
 Calls Tryz.prog 134 #[.string a, .string b] w fun e w' => e = .returned (.int .i64 (ordPart a b)) ∧ ∃ n, w' = w.drewN n := by
 have ha' := ha
 have hb' := hb
 unfold maxLen at ha' hb'
 have cR := hide (fun (s : ByteArray) (i : Nat) (w : World) => rrank_any s i w)
 go_enter Tryz.func134, Tryz.ntmps134
 go_wp2
 go_loopw [5, 6] (fun iv jv wr => ∃ m n : Nat, iv = .int .i64 (ia a (2 * m)) ∧ jv = .int .i64 (ia b (2 * m)) ∧ Hid (wr = w.drewN n) ∧ Hid (sq (cp a b) (2 * m) = 0)) (fun iv jv _ => (a.size - (intOf iv).toNat) + (b.size - (intOf jv).toNat))
 case atStart => exact ⟨0, 0, rfl, rfl, rfl, rfl⟩
 case round =>
  obtain ⟨m, n, rfl, rfl, hwr, hz⟩ := hrel
  have ja := ia_le a (2 * m)
  have jb := ia_le b (2 * m)
  by_cases hlt : ia a (2 * m) < a.size ∨ ia b (2 * m) < b.size
  ·have HLT := hide hlt
   have za := runOf_sz a (2 * m)
   have zb := runOf_sz b (2 * m)
   have la := ia_le a (2 * m + 1)
   have lb := ia_le b (2 * m + 1)
   have ma := ia_mono a (2 * m)
   have mb := ia_mono b (2 * m)
   have HZA := hide za
   have HZB := hide zb
   clear za zb
   by_cases h1 : ia a (2 * m) < a.size
   ·clear hlt
    go_wp2_with fail
    go_loop [5, 6, 7] (fun iv jv _ => ∃ k p q : Nat, Hid (k ≤ (runOf a (2 * m)).size) ∧ Hid (k ≤ (runOf b (2 * m)).size) ∧ p ≤ a.size ∧ q ≤ b.size ∧ iv = .int .i64 p ∧ jv = .int .i64 q ∧ Hid (p = ia a (2 * m) + k) ∧ Hid (q = ia b (2 * m) + k) ∧ Hid (sq (cw (runOf a (2 * m)) (runOf b (2 * m))) k = 0)) (fun iv _ _ => a.size - (intOf iv).toNat)
    case atStart => exact ⟨0, _, _, hide (Nat.zero_le _), hide (Nat.zero_le _), ja, jb, rfl, rfl, rfl, rfl, rfl⟩
    case round =>
     obtain ⟨k, p, q, hka, hkb, hp, hq, rfl, rfl, ep, eq, hk⟩ := hrel
     have HP := hide (show rrk a p = rkAt (runOf a (2 * m)) k by rw [unhide ep]; exact rrk_run a m k (unhide hka))
     have HQ := hide (show rrk b q = rkAt (runOf b (2 * m)) k by rw [unhide eq]; exact rrk_run b m k (unhide hkb))
     have bP := rkAt_bd (runOf a (2 * m)) k
     have bQ := rkAt_bd (runOf b (2 * m)) k
     rw [← unhide HP] at bP
     rw [← unhide HQ] at bQ
     obtain ⟨bP1, bP2⟩ := bP
     obtain ⟨bQ1, bQ2⟩ := bQ
     have kA := hide (fun w => rrank_any a p w)
     have kB := hide (fun w => rrank_any b q w)
     by_cases hne : rrk a p = rrk b q
     ·by_cases hone : rrk a p = 1
      ·-- both runs are at their end
       have hone2 : rrk b q = 1 := hne ▸ hone
       have k1 : k = (runOf a (2 * m)).size := by
        have h1 := (rkAt_one (runOf a (2 * m)) k).1 ((unhide HP).symm.trans hone)
        have h2 := unhide hka
        omega
       have k2 : k = (runOf b (2 * m)).size := by
        have h1 := (rkAt_one (runOf b (2 * m)) k).1 ((unhide HQ).symm.trans hone2)
        have h2 := unhide hkb
        omega
       have HS := hide (word_done a b m k (unhide hz) (unhide hk) k1 k2)
       have HPA := hide (show p = ia a (2 * m + 1) by have h1 := unhide ep; have h2 := unhide HZA; omega)
       have HQB := hide (show q = ia b (2 * m + 1) by have h1 := unhide eq; have h2 := unhide HZB; omega)
       have HX := hide (num_cp a b m)
       have HN1 := hide (ia_next a m)
       have HN2 := hide (ia_next b m)
       rw [← unhide HPA] at HX HN1
       rw [← unhide HQB] at HX HN2
       have z1 := zAt_le a p
       have z2 := zAt_le b q
       have z3 := endAt_le a p true hp
       have z4 := endAt_le b q true hq
       have s1 := Nat.le_trans (size_le_of_extract a (zAt a p) (endAt a p true)) ha
       have s2 := Nat.le_trans (size_le_of_extract b (zAt b q) (endAt b q true)) hb
       have kN := hide (fun w => rnumbers_any (a.extract (zAt a p) (endAt a p true)) (b.extract (zAt b q) (endAt b q true)) s1 s2 w)
       have kA2 := hide (fun w => rrun_any a ha p hp w)
       have kB2 := hide (fun w => rrun_any b hb q hq w)
       have HNH := hide (num_hit a b m (unhide HS))
       have HSM := hide (fun h => sq_miss (cp a b) (2 * m + 1) (unhide HS) h)
       rw [hone] at kA
       rw [hone2] at kB
       clear s1 s2 k1 k2 hone hone2 hne bP1 bP2 bQ1 bQ2 HP HQ hka hkb ep eq hk HS HPA HQB la lb ma mb HZA HZB
       generalize nb (a.extract (zAt a p) (endAt a p true)) (b.extract (zAt b q) (endAt b q true)) = X at *
       by_cases hX : X = 0
       ·have nX : (X != 0) = false := by simp [hX]
        have HR := hide (unhide HSM ((unhide HX).trans hX))
        have HM := hide (meas_part a b m (unhide HLT))
        clear hX HSM HNH
        go_wp2_with fail
        refine (unhide kA _).mono ?_
        rintro e w' ⟨rfl, rfl⟩
        go_wp2_with fail
        refine (unhide kB _).mono ?_
        rintro e w' ⟨rfl, rfl⟩
        go_wp2_with fail
        refine (unhide kA2 _).mono ?_
        rintro e w' ⟨rfl, rfl⟩
        go_wp2_with fail
        refine (unhide kB2 _).mono ?_
        rintro e w' ⟨rfl, rfl⟩
        go_wp2_with fail
        go_quiet ((go_at_call 148; refine (unhide kN _).mono ?_; rintro e w'' ⟨rfl, n1, rfl⟩; exact ⟨rfl, _, by rw [World.drewN_drewN]⟩))
        go_wp2
        go_roundw
        case rel => exact ⟨m + 1, _, by rw [unhide HN1], by rw [unhide HN2], hide (by rw [unhide hwr, World.drewN_drewN]), HR⟩
        case measure => rw [unhide HN1, unhide HN2]; simp only [intOf, Int.toNat_natCast]; exact unhide HM
       ·have nX : (X != 0) = true := by simpa using hX
        have HF := hide ((unhide HNH (by rw [unhide HX]; exact hX)).trans (unhide HX))
        clear hX HSM HNH
        go_wp2_with fail
        refine (unhide kA _).mono ?_
        rintro e w' ⟨rfl, rfl⟩
        go_wp2_with fail
        refine (unhide kB _).mono ?_
        rintro e w' ⟨rfl, rfl⟩
        go_wp2_with fail
        refine (unhide kA2 _).mono ?_
        rintro e w' ⟨rfl, rfl⟩
        go_wp2_with fail
        refine (unhide kB2 _).mono ?_
        rintro e w' ⟨rfl, rfl⟩
        go_wp2_with fail
        go_quiet ((go_at_call 148; refine (unhide kN _).mono ?_; rintro e w'' ⟨rfl, n1, rfl⟩; exact ⟨rfl, _, by rw [World.drewN_drewN]⟩))
        go_wp2
        go_ret
        exact ⟨ret_int64 (unhide HF).symm, _, by rw [unhide hwr, World.drewN_drewN]⟩
      ·-- the bytes are alike: on
       have hone2 : ¬ rrk b q = 1 := fun h => hone (hne.trans h)
       have g1 : k < (runOf a (2 * m)).size := by
        have h1 : ¬ (runOf a (2 * m)).size ≤ k := fun h => hone ((unhide HP).trans (rkAt_end _ _ h))
        omega
       have g2 : k < (runOf b (2 * m)).size := by
        have h1 : ¬ (runOf b (2 * m)).size ≤ k := fun h => hone2 ((unhide HQ).trans (rkAt_end _ _ h))
        omega
       have hp2 : p < a.size := by have h1 := unhide ep; have h2 := unhide HZA; omega
       have hq2 : q < b.size := by have h1 := unhide eq; have h2 := unhide HZB; omega
       have HC := hide (show sq (cw (runOf a (2 * m)) (runOf b (2 * m))) (k + 1) = 0 from sq_miss _ k (unhide hk) (by unfold cw; rw [← unhide HP, ← unhide HQ, hne]; exact ci_refl _))
       have HG1 := hide g1
       have HG2 := hide g2
       have n1 : (rrk a p != 1) = true := by simpa using hone
       have n2 : (rrk b q != 1) = true := by simpa using hone2
       have n3 : rrk a p - rrk b q = 0 := by omega
       have n4 : ((0 : Int) != 0) = false := rfl
       clear g1 g2 hone hone2 HP HQ hk
       generalize rrk a p = X at *
       generalize rrk b q = Y at *
       subst hne
       go_wp2_with fail
       refine (unhide kA _).mono ?_
       rintro e w' ⟨rfl, rfl⟩
       go_wp2_with fail
       refine (unhide kA _).mono ?_
       rintro e w' ⟨rfl, rfl⟩
       go_wp2_with fail
       refine (unhide kB _).mono ?_
       rintro e w' ⟨rfl, rfl⟩
       go_wp2_with fail
       go_round
       case rel => exact ⟨k + 1, p + 1, q + 1, hide (unhide HG1), hide (unhide HG2), hp2, hq2, by go_num, by go_num, hide (by rw [unhide ep]; omega), hide (by rw [unhide eq]; omega), HC⟩
       case measure => simp [intOf]; omega
     ·-- the bytes part
      have HF := hide (show ordPart a b = ci (rrk a p) (rrk b q) by
       have hcw : cw (runOf a (2 * m)) (runOf b (2 * m)) k = ci (rrk a p) (rrk b q) := by unfold cw; rw [← unhide HP, ← unhide HQ]
       have h0 : cw (runOf a (2 * m)) (runOf b (2 * m)) k ≠ 0 := by
        rw [hcw]
        unfold ci
        split
        ·decide
        ·split
         ·decide
         ·omega
       rw [word_hit a b m k (unhide hz) (unhide hk) (unhide hka) (unhide hkb) h0, hcw])
      have n3 : (rrk a p - rrk b q != 0) = true := by simp; omega
      have kS := hide (fun w => rsign_any (rrk a p) (rrk b q) w (by omega) (by omega))
      clear HP HQ hk
      generalize ci (rrk a p) (rrk b q) = Z at *
      by_cases h1 : rrk a p = 1
      ·have n1 : (rrk a p != 1) = false := by simp [h1]
       have n2 : (rrk b q != 1) = true := by simp; omega
       clear h1 hne
       generalize rrk a p = X at *
       generalize rrk b q = Y at *
       go_wp2_with fail
       refine (unhide kA _).mono ?_
       rintro e w' ⟨rfl, rfl⟩
       go_wp2_with fail
       refine (unhide kB _).mono ?_
       rintro e w' ⟨rfl, rfl⟩
       go_wp2_with fail
       refine (unhide kA _).mono ?_
       rintro e w' ⟨rfl, rfl⟩
       go_wp2_with fail
       refine (unhide kB _).mono ?_
       rintro e w' ⟨rfl, rfl⟩
       go_wp2_with fail
       refine (unhide kS _).mono ?_
       rintro e w' ⟨rfl, rfl⟩
       go_wp2_with fail
       go_ret
       exact ⟨ret_int64 (unhide HF).symm, n, unhide hwr⟩
      ·have n1 : (rrk a p != 1) = true := by simpa using h1
       clear h1 hne
       generalize rrk a p = X at *
       generalize rrk b q = Y at *
       go_wp2_with fail
       refine (unhide kA _).mono ?_
       rintro e w' ⟨rfl, rfl⟩
       go_wp2_with fail
       refine (unhide kA _).mono ?_
       rintro e w' ⟨rfl, rfl⟩
       go_wp2_with fail
       refine (unhide kB _).mono ?_
       rintro e w' ⟨rfl, rfl⟩
       go_wp2_with fail
       refine (unhide kS _).mono ?_
       rintro e w' ⟨rfl, rfl⟩
       go_wp2_with fail
       go_ret
       exact ⟨ret_int64 (unhide HF).symm, n, unhide hwr⟩
   ·have h2 : ia b (2 * m) < b.size := by omega
    clear hlt
    go_wp2_with fail
    go_loop [5, 6, 7] (fun iv jv _ => ∃ k p q : Nat, Hid (k ≤ (runOf a (2 * m)).size) ∧ Hid (k ≤ (runOf b (2 * m)).size) ∧ p ≤ a.size ∧ q ≤ b.size ∧ iv = .int .i64 p ∧ jv = .int .i64 q ∧ Hid (p = ia a (2 * m) + k) ∧ Hid (q = ia b (2 * m) + k) ∧ Hid (sq (cw (runOf a (2 * m)) (runOf b (2 * m))) k = 0)) (fun iv _ _ => a.size - (intOf iv).toNat)
    case atStart => exact ⟨0, _, _, hide (Nat.zero_le _), hide (Nat.zero_le _), ja, jb, rfl, rfl, rfl, rfl, rfl⟩
    case round =>
     obtain ⟨k, p, q, hka, hkb, hp, hq, rfl, rfl, ep, eq, hk⟩ := hrel
     have HP := hide (show rrk a p = rkAt (runOf a (2 * m)) k by rw [unhide ep]; exact rrk_run a m k (unhide hka))
     have HQ := hide (show rrk b q = rkAt (runOf b (2 * m)) k by rw [unhide eq]; exact rrk_run b m k (unhide hkb))
     have bP := rkAt_bd (runOf a (2 * m)) k
     have bQ := rkAt_bd (runOf b (2 * m)) k
     rw [← unhide HP] at bP
     rw [← unhide HQ] at bQ
     obtain ⟨bP1, bP2⟩ := bP
     obtain ⟨bQ1, bQ2⟩ := bQ
     have kA := hide (fun w => rrank_any a p w)
     have kB := hide (fun w => rrank_any b q w)
     by_cases hne : rrk a p = rrk b q
     ·by_cases hone : rrk a p = 1
      ·-- both runs are at their end
       have hone2 : rrk b q = 1 := hne ▸ hone
       have k1 : k = (runOf a (2 * m)).size := by
        have h1 := (rkAt_one (runOf a (2 * m)) k).1 ((unhide HP).symm.trans hone)
        have h2 := unhide hka
        omega
       have k2 : k = (runOf b (2 * m)).size := by
        have h1 := (rkAt_one (runOf b (2 * m)) k).1 ((unhide HQ).symm.trans hone2)
        have h2 := unhide hkb
        omega
       have HS := hide (word_done a b m k (unhide hz) (unhide hk) k1 k2)
       have HPA := hide (show p = ia a (2 * m + 1) by have h1 := unhide ep; have h2 := unhide HZA; omega)
       have HQB := hide (show q = ia b (2 * m + 1) by have h1 := unhide eq; have h2 := unhide HZB; omega)
       have HX := hide (num_cp a b m)
       have HN1 := hide (ia_next a m)
       have HN2 := hide (ia_next b m)
       rw [← unhide HPA] at HX HN1
       rw [← unhide HQB] at HX HN2
       have z1 := zAt_le a p
       have z2 := zAt_le b q
       have z3 := endAt_le a p true hp
       have z4 := endAt_le b q true hq
       have s1 := Nat.le_trans (size_le_of_extract a (zAt a p) (endAt a p true)) ha
       have s2 := Nat.le_trans (size_le_of_extract b (zAt b q) (endAt b q true)) hb
       have kN := hide (fun w => rnumbers_any (a.extract (zAt a p) (endAt a p true)) (b.extract (zAt b q) (endAt b q true)) s1 s2 w)
       have kA2 := hide (fun w => rrun_any a ha p hp w)
       have kB2 := hide (fun w => rrun_any b hb q hq w)
       have HNH := hide (num_hit a b m (unhide HS))
       have HSM := hide (fun h => sq_miss (cp a b) (2 * m + 1) (unhide HS) h)
       rw [hone] at kA
       rw [hone2] at kB
       clear s1 s2 k1 k2 hone hone2 hne bP1 bP2 bQ1 bQ2 HP HQ hka hkb ep eq hk HS HPA HQB la lb ma mb HZA HZB
       generalize nb (a.extract (zAt a p) (endAt a p true)) (b.extract (zAt b q) (endAt b q true)) = X at *
       by_cases hX : X = 0
       ·have nX : (X != 0) = false := by simp [hX]
        have HR := hide (unhide HSM ((unhide HX).trans hX))
        have HM := hide (meas_part a b m (unhide HLT))
        clear hX HSM HNH
        go_wp2_with fail
        refine (unhide kA _).mono ?_
        rintro e w' ⟨rfl, rfl⟩
        go_wp2_with fail
        refine (unhide kB _).mono ?_
        rintro e w' ⟨rfl, rfl⟩
        go_wp2_with fail
        refine (unhide kA2 _).mono ?_
        rintro e w' ⟨rfl, rfl⟩
        go_wp2_with fail
        refine (unhide kB2 _).mono ?_
        rintro e w' ⟨rfl, rfl⟩
        go_wp2_with fail
        go_quiet ((go_at_call 148; refine (unhide kN _).mono ?_; rintro e w'' ⟨rfl, n1, rfl⟩; exact ⟨rfl, _, by rw [World.drewN_drewN]⟩))
        go_wp2
        go_roundw
        case rel => exact ⟨m + 1, _, by rw [unhide HN1], by rw [unhide HN2], hide (by rw [unhide hwr, World.drewN_drewN]), HR⟩
        case measure => rw [unhide HN1, unhide HN2]; simp only [intOf, Int.toNat_natCast]; exact unhide HM
       ·have nX : (X != 0) = true := by simpa using hX
        have HF := hide ((unhide HNH (by rw [unhide HX]; exact hX)).trans (unhide HX))
        clear hX HSM HNH
        go_wp2_with fail
        refine (unhide kA _).mono ?_
        rintro e w' ⟨rfl, rfl⟩
        go_wp2_with fail
        refine (unhide kB _).mono ?_
        rintro e w' ⟨rfl, rfl⟩
        go_wp2_with fail
        refine (unhide kA2 _).mono ?_
        rintro e w' ⟨rfl, rfl⟩
        go_wp2_with fail
        refine (unhide kB2 _).mono ?_
        rintro e w' ⟨rfl, rfl⟩
        go_wp2_with fail
        go_quiet ((go_at_call 148; refine (unhide kN _).mono ?_; rintro e w'' ⟨rfl, n1, rfl⟩; exact ⟨rfl, _, by rw [World.drewN_drewN]⟩))
        go_wp2
        go_ret
        exact ⟨ret_int64 (unhide HF).symm, _, by rw [unhide hwr, World.drewN_drewN]⟩
      ·-- the bytes are alike: on
       have hone2 : ¬ rrk b q = 1 := fun h => hone (hne.trans h)
       have g1 : k < (runOf a (2 * m)).size := by
        have h1 : ¬ (runOf a (2 * m)).size ≤ k := fun h => hone ((unhide HP).trans (rkAt_end _ _ h))
        omega
       have g2 : k < (runOf b (2 * m)).size := by
        have h1 : ¬ (runOf b (2 * m)).size ≤ k := fun h => hone2 ((unhide HQ).trans (rkAt_end _ _ h))
        omega
       have hp2 : p < a.size := by have h1 := unhide ep; have h2 := unhide HZA; omega
       have hq2 : q < b.size := by have h1 := unhide eq; have h2 := unhide HZB; omega
       have HC := hide (show sq (cw (runOf a (2 * m)) (runOf b (2 * m))) (k + 1) = 0 from sq_miss _ k (unhide hk) (by unfold cw; rw [← unhide HP, ← unhide HQ, hne]; exact ci_refl _))
       have HG1 := hide g1
       have HG2 := hide g2
       have n1 : (rrk a p != 1) = true := by simpa using hone
       have n2 : (rrk b q != 1) = true := by simpa using hone2
       have n3 : rrk a p - rrk b q = 0 := by omega
       have n4 : ((0 : Int) != 0) = false := rfl
       clear g1 g2 hone hone2 HP HQ hk
       generalize rrk a p = X at *
       generalize rrk b q = Y at *
       subst hne
       go_wp2_with fail
       refine (unhide kA _).mono ?_
       rintro e w' ⟨rfl, rfl⟩
       go_wp2_with fail
       refine (unhide kA _).mono ?_
       rintro e w' ⟨rfl, rfl⟩
       go_wp2_with fail
       refine (unhide kB _).mono ?_
       rintro e w' ⟨rfl, rfl⟩
       go_wp2_with fail
       go_round
       case rel => exact ⟨k + 1, p + 1, q + 1, hide (unhide HG1), hide (unhide HG2), hp2, hq2, by go_num, by go_num, hide (by rw [unhide ep]; omega), hide (by rw [unhide eq]; omega), HC⟩
       case measure => simp [intOf]; omega
     ·-- the bytes part
      have HF := hide (show ordPart a b = ci (rrk a p) (rrk b q) by
       have hcw : cw (runOf a (2 * m)) (runOf b (2 * m)) k = ci (rrk a p) (rrk b q) := by unfold cw; rw [← unhide HP, ← unhide HQ]
       have h0 : cw (runOf a (2 * m)) (runOf b (2 * m)) k ≠ 0 := by
        rw [hcw]
        unfold ci
        split
        ·decide
        ·split
         ·decide
         ·omega
       rw [word_hit a b m k (unhide hz) (unhide hk) (unhide hka) (unhide hkb) h0, hcw])
      have n3 : (rrk a p - rrk b q != 0) = true := by simp; omega
      have kS := hide (fun w => rsign_any (rrk a p) (rrk b q) w (by omega) (by omega))
      clear HP HQ hk
      generalize ci (rrk a p) (rrk b q) = Z at *
      by_cases h1 : rrk a p = 1
      ·have n1 : (rrk a p != 1) = false := by simp [h1]
       have n2 : (rrk b q != 1) = true := by simp; omega
       clear h1 hne
       generalize rrk a p = X at *
       generalize rrk b q = Y at *
       go_wp2_with fail
       refine (unhide kA _).mono ?_
       rintro e w' ⟨rfl, rfl⟩
       go_wp2_with fail
       refine (unhide kB _).mono ?_
       rintro e w' ⟨rfl, rfl⟩
       go_wp2_with fail
       refine (unhide kA _).mono ?_
       rintro e w' ⟨rfl, rfl⟩
       go_wp2_with fail
       refine (unhide kB _).mono ?_
       rintro e w' ⟨rfl, rfl⟩
       go_wp2_with fail
       refine (unhide kS _).mono ?_
       rintro e w' ⟨rfl, rfl⟩
       go_wp2_with fail
       go_ret
       exact ⟨ret_int64 (unhide HF).symm, n, unhide hwr⟩
      ·have n1 : (rrk a p != 1) = true := by simpa using h1
       clear h1 hne
       generalize rrk a p = X at *
       generalize rrk b q = Y at *
       go_wp2_with fail
       refine (unhide kA _).mono ?_
       rintro e w' ⟨rfl, rfl⟩
       go_wp2_with fail
       refine (unhide kA _).mono ?_
       rintro e w' ⟨rfl, rfl⟩
       go_wp2_with fail
       refine (unhide kB _).mono ?_
       rintro e w' ⟨rfl, rfl⟩
       go_wp2_with fail
       refine (unhide kS _).mono ?_
       rintro e w' ⟨rfl, rfl⟩
       go_wp2_with fail
       go_ret
       exact ⟨ret_int64 (unhide HF).symm, n, unhide hwr⟩
  ·have h1 : a.size ≤ ia a (2 * m) := by omega
   have h2 : b.size ≤ ia b (2 * m) := by omega
   have HF := hide (ordPart_done a b (2 * m) (by omega) (by omega) (unhide hz))
   clear hlt
   go_wp2
   go_ret
   exact ⟨ret_int64 (unhide HF).symm, n, unhide hwr⟩
end
end Go.Proofs.YtdkpglmdncjnbaaGreatDoor
