import Derived.Test.YtjmomdnlibfbkaaDoorAcG
namespace Go.Proofs.YtjmomdnlibfbkaaDoor
open Go.RowKit

theorem FlsO.app2 {w : World} {lo : Nat} {v : Value} {fs : List Fl} (h : FlsO w lo v fs) (hlo : lo ≤ w.heap.size) {p : ByteArray} {dat : Bs} {x : Value} {s : Nat} (hx : w.ownsRow lo 5 1 x s (dat.map cb)) (hs : dat.length = s) (h63 : fs.length + 1 ≤ 1073741824) :
    ∃ v' w9, (Builtin.append_ #[22, 22] 22 #[v, .slice (some ⟨w.heap.size, 0, none⟩) 1 1]).run Tryd.prog (w.alloc (.cells #[.string p, x] 40)) = .ok v' w9 ∧ FlsO w9 lo v' (fs ++ [(p, dat)]) ∧ Below lo w w9 := by
  subst hs
  exact h.app hlo (f := (p, dat)) hx h63
set_option maxRecDepth 100000 in
set_option maxHeartbeats 16000000 in
theorem rUntar_any {w : World} {v : Value} {l : Bs} (h : Rb w v l) (hg : Gtb w) :
    Calls Tryd.prog 12 #[v] w fun e w' => UnA w (if 16777216 < l.length then (2, []) else U l) e w' := by
  obtain ⟨a, c, rfl, hc⟩ := h.form
  by_cases h0 : 16777216 < l.length
  · rw [if_pos h0]
    have h0' : (16777216 : Int) < (l.length : Int) := by omega
    clear h
    go_enter Tryd.func12, Tryd.ntmps12
    go_wp2_with fail
    go_ret2
    exact una _ rfl rfl (FlsO.nil _ _) (Below.refl _ _)
  · rw [if_neg h0]
    have h0' : ¬ (16777216 : Int) < (l.length : Int) := by omega
    obtain ⟨R, hR⟩ : ∃ R, U l = R := ⟨_, rfl⟩
    rw [hR]
    have HG := hide hg
    have G0 := hide (show Gt R [] (l.drop 0) from by rw [List.drop_zero]; exact hR ▸ Gt.start l)
    have B0 := hide h
    have F0 := hide (FlsO.nil w w.heap.size)
    obtain ⟨N, hN⟩ : ∃ N, l.length = N := ⟨_, rfl⟩
    have LL := hide hN
    rw [hN] at h0 h0' B0 hc ⊢
    clear h hg hR hN
    go_enter Tryd.func12, Tryd.ntmps12
    go_wp2_with fail
    go_loopg [4, 5, 6, 7, 8, 9, 10] N (fun gq fv kv _ _ _ _ _ wr => ∃ (k : Nat) (acc : List Fl), kv = .int .i64 k ∧ k ≤ N ∧ N - k ≤ gq ∧ acc.length ≤ k ∧ Hid (FlsO wr w.heap.size fv acc) ∧ Hid (Gt R acc (l.drop k)) ∧ Hid (Below w.heap.size w wr))
    case atStart => exact ⟨0, [], by go_num, by omega, by omega, by simp, F0, G0, hide (Below.refl _ _)⟩
    case round =>
      clear F0 G0
      obtain ⟨k, acc, rfl, hk, hgq, hacc, HF, HT, HW⟩ := hrel
      have HR := hide ((unhide B0).later (unhide HW))
      have hw1 : IntKind.i64.wrap ((N : Int) - (k : Int)) = ((N - k : Nat) : Int) := by rw [IntWalk.i64_in _ (by omega)]; omega
      by_cases h5 : N - k < 512
      · have h5' : ((N - k : Nat) : Int) < 512 := by omega
        have HU := hide ((unhide HT).bad (U_short (by rw [List.length_drop, unhide LL]; exact h5)) (by decide))
        generalize N - k = D at *
        go_wp2_with fail
        go_ret2
        exact una _ (unhide HU) rfl (FlsO.nil _ _) (unhide HW)
      · have h5' : ¬ ((N - k : Nat) : Int) < 512 := by omega
        obtain ⟨D, hD⟩ : ∃ D, N - k = D := ⟨_, rfl⟩
        have hDk : D + k = N := by omega
        rw [hD] at hw1 h5'
        obtain ⟨K, hK⟩ : ∃ K, k + 512 = K := ⟨_, rfl⟩
        have hw2 : IntKind.i64.wrap ((k : Int) + 512) = (K : Int) := by rw [IntWalk.i64_in _ (by omega)]; omega
        have hKN : K ≤ N := by omega
        have s1 : (k : Int) ≤ (K : Int) := by omega
        have s2 : (K : Int) ≤ (c : Int) := by omega
        have s3 : ¬ c = k := by omega
        have s4 : k ≤ c := by omega
        have s5 : K ≤ c := by omega
        have s6 : k ≤ K := by omega
        have HTK := hide (show (l.drop k).take (K - k) = (l.drop k).take 512 by rw [show K - k = 512 by omega])
        have hd5 : ¬ (l.drop k).length < 512 := by rw [List.length_drop, unhide LL]; omega
        have HRH := hide (show Rb wr (.slice (Option.map (fun x => x.add k) a) (K - k) (c - k)) ((l.drop k).take 512) from by
          have q := (unhide HR).cutA (i := k) (j := K) s6 (by rw [unhide LL]; exact hKN)
          rw [unhide HTK] at q
          exact q)
        have htl : ((l.drop k).take 512).length = 512 := by rw [List.length_take]; omega
        have CZ := hide (rzero_any (unhide HRH) (by rw [htl]; decide))
        have CE := hide (fun hz => rend_any (k := k) (a := a) (c := c) (l := l) (by rw [unhide LL]; exact unhide HR) (by rw [unhide LL]; omega) (by rw [unhide LL]; omega) hz)
        rw [unhide LL] at CE
        by_cases hz : (l.drop k).take 512 = zs 512
        · have CZ2 := CZ
          rw [(allz_iff _).2 (by rw [htl]; exact hz)] at CZ2
          have CE2 := hide (unhide CE hz)
          have HU := hide (U_end hd5 hz)
          clear CZ CE hz
          generalize endE ((l.drop k).drop 512) = er at *
          clear hD hd5 htl
          by_cases he0 : er = 0
          · subst he0
            have HV := hide ((unhide HT).done (unhide HU))
            go_wp2_with (first
              | (go_at_call 21; refine (unhide CZ2).mono ?_; rintro e wn ⟨rfl, hw⟩; rw [hw]; clear hw wn CZ2)
              | (go_at_call 22; refine (unhide CE2).mono ?_; rintro e wn ⟨rfl, hw⟩; rw [hw]; clear hw wn CE2))
            go_ret2
            exact una _ (unhide HV) rfl (unhide HF) (unhide HW)
          · have HV := hide ((unhide HT).bad (unhide HU) he0)
            go_wp2_with (first
              | (go_at_call 21; refine (unhide CZ2).mono ?_; rintro e wn ⟨rfl, hw⟩; rw [hw]; clear hw wn CZ2)
              | (go_at_call 22; refine (unhide CE2).mono ?_; rintro e wn ⟨rfl, hw⟩; rw [hw]; clear hw wn CE2))
            go_ret2
            exact una _ (unhide HV) rfl (FlsO.nil _ _) (unhide HW)
        · have CZ2 := CZ
          rw [show allz ((l.drop k).take 512) = false from by
            cases e : allz ((l.drop k).take 512) with
            | false => rfl
            | true => exact absurd (by have q := (allz_iff _).1 e; rw [htl] at q; exact q) hz] at CZ2
          have CR := hide (read_any (unhide HRH) htl ((unhide HG).later (unhide HW)))
          have HNZ := hide hz
          clear CZ CE hz
          go_upto_region 14 with (first
            | (go_at_call 21; refine (unhide CZ2).mono ?_; rintro e wn ⟨rfl, hw⟩; rw [hw]; clear hw wn CZ2)
            | (go_at_call 23; refine (unhide CR).mono ?_; rintro e w1 ⟨p, s, ok, rfl, HTT, b1⟩; have TT := hide HTT; have W1 := hide ((unhide HW).trans (b1.mono (unhide HW).size)); have F1 := hide ((unhide HF).later b1); clear HTT b1 CR HF))
          have HSZ := hide (unhide W1).size
          clear HW HR HRH hD
          have dK : (l.drop k).drop 512 = l.drop K := by rw [List.drop_drop, hK]
          cases ok with
          | false =>
            have HV := hide ((unhide HT).bad (U_none hd5 (unhide HNZ) (by rw [unhide TT]; rfl)) (by decide))
            clear TT dK
            go_wp2_with fail
            go_ret2
            exact una _ (unhide HV) rfl (FlsO.nil _ _) (unhide W1)
          | true =>
            have ht : toldL ((l.drop k).take 512) = some (p, s) := by rw [unhide TT]; rfl
            have hs9 := told_lt htl ht
            by_cases h1 : 1048576 < s
            · have h1' : (1048576 : Int) < (s : Int) := by omega
              have HV := hide ((unhide HT).bad (U_size hd5 (unhide HNZ) ht h1) (by decide))
              clear TT dK ht
              go_wp2_with fail
              go_ret2
              exact una _ (unhide HV) rfl (FlsO.nil _ _) (unhide W1)
            · have h1' : ¬ (1048576 : Int) < (s : Int) := by omega
              have hge := fill_ge s
              have hlt := fill_lt s
              have CF := hide (fun X => fill_any s X (by omega))
              have HUL := hide (fun h2 => U_less hd5 (unhide HNZ) ht h1 h2)
              have HUP := hide (fun h2 h3 => U_pad hd5 (unhide HNZ) ht h1 h2 h3)
              have HUO := hide (fun h2 h3 => U_ok hd5 (unhide HNZ) ht h1 h2 h3)
              rw [dK] at HUL HUP HUO
              clear TT dK ht
              generalize fill s = F at *
              obtain ⟨E, hE⟩ : ∃ E, F - s = E := ⟨_, rfl⟩
              rw [hE] at CF HUP HUO
              obtain ⟨D2, hD2⟩ : ∃ D2, N - K = D2 := ⟨_, rfl⟩
              have hDl : (l.drop K).length = D2 := by rw [List.length_drop, unhide LL, hD2]
              rw [hDl] at HUL HUP HUO
              have hw3 : IntKind.i64.wrap ((N : Int) - (K : Int)) = (D2 : Int) := by rw [IntWalk.i64_in _ (by omega)]; omega
              have hw4 : IntKind.i64.wrap ((s : Int) + (E : Int)) = (F : Int) := by rw [IntWalk.i64_in _ (by omega)]; omega
              by_cases h2 : D2 < F
              · have h2' : (D2 : Int) < (F : Int) := by omega
                have HV := hide ((unhide HT).bad (unhide HUL h2) (by decide))
                clear HUL HUP HUO
                go_wp2_with (first
                  | (go_at_call 24; refine (unhide CF _).mono ?_; rintro e wn ⟨rfl, hw⟩; rw [hw]; clear hw wn))
                go_ret2
                exact una _ (unhide HV) rfl (FlsO.nil _ _) (unhide W1)
              · have h2' : ¬ (D2 : Int) < (F : Int) := by omega
                obtain ⟨K1, hK1⟩ : ∃ K1, K + s = K1 := ⟨_, rfl⟩
                obtain ⟨K2, hK2⟩ : ∃ K2, K1 + E = K2 := ⟨_, rfl⟩
                have hw5 : IntKind.i64.wrap ((K : Int) + (s : Int)) = (K1 : Int) := by rw [IntWalk.i64_in _ (by omega)]; omega
                have hw6 : IntKind.i64.wrap ((K1 : Int) + (E : Int)) = (K2 : Int) := by rw [IntWalk.i64_in _ (by omega)]; omega
                have hK2N : K2 ≤ N := by omega
                have t1 : (K1 : Int) ≤ (K2 : Int) := by omega
                have t2 : (K2 : Int) ≤ (c : Int) := by omega
                have t3 : K1 ≤ K2 := by omega
                have t4 : K2 ≤ c := by omega
                have t5 : K1 ≤ c := by omega
                have t6 : (K : Int) ≤ (K1 : Int) := by omega
                have t7 : (K1 : Int) ≤ (c : Int) := by omega
                have t8 : K ≤ K1 := by omega
                obtain ⟨z1, hz1⟩ : ∃ z, (if c = K1 then a else Option.map (fun x => x.add K1) a) = z := ⟨_, rfl⟩
                obtain ⟨z2, hz2⟩ : ∃ z, (if c = K then a else Option.map (fun x => x.add K) a) = z := ⟨_, rfl⟩
                have HR1 := hide ((unhide B0).later (unhide W1))
                have e1 : ((l.drop K).drop s).take E = (l.drop K1).take (K2 - K1) := by rw [List.drop_drop, hK1, show K2 - K1 = E by omega]
                have e2 : (l.drop K).take s = (l.drop K).take (K1 - K) := by rw [show K1 - K = s by omega]
                have e3 : (l.drop K).drop F = l.drop K2 := by rw [List.drop_drop, show K + F = K2 by omega]
                have tl1 : ((l.drop K1).take (K2 - K1)).length = E := by rw [List.length_take, List.length_drop, unhide LL]; omega
                have tl2 : ((l.drop K).take (K1 - K)).length = s := by rw [List.length_take, List.length_drop, unhide LL]; omega
                have HP1 := hide (show Rb w1 (.slice z1 (K2 - K1) (c - K1)) ((l.drop K1).take (K2 - K1)) from hz1 ▸ (unhide HR1).cutB t3 (by rw [unhide LL]; exact hK2N))
                have HP2 := hide (show Rb w1 (.slice z2 (K1 - K) (c - K)) ((l.drop K).take (K1 - K)) from hz2 ▸ (unhide HR1).cutB t8 (by rw [unhide LL]; omega))
                have CZ3 := hide (rzero_any (unhide HP1) (by rw [tl1]; omega))
                have CJ := hide (joined_any (unhide HP2) (by rw [tl2]; omega))
                rw [tl2] at CJ
                rw [e1, e2, e3] at HUO
                rw [e1] at HUP
                have hFE : zs E = zs ((l.drop K1).take (K2 - K1)).length := by rw [tl1]
                by_cases h3 : (l.drop K1).take (K2 - K1) = zs E
                · rw [(allz_iff _).2 (h3.trans hFE)] at CZ3
                  have HG2 := hide ((unhide HT).next (unhide HUO h2 h3))
                  have HDL := hide tl2
                  have HAC := hide (show acc.length + 1 ≤ 1073741824 by omega)
                  clear HUL HUP HUO HR1 HP1 HP2 hFE h3 e1 e2 e3 tl1 tl2 hE hDl
                  generalize (l.drop K).take (K1 - K) = dat at *
                  obtain ⟨fa, fc, rfl⟩ := (unhide F1).form
                  go_wp2_with (first
                    | (go_at_call 24; refine (unhide CF _).mono ?_; rintro e wn ⟨rfl, hw⟩; rw [hw]; clear hw wn)
                    | (go_at_call 21; refine (unhide CZ3).mono ?_; rintro e wn ⟨rfl, hw⟩; rw [hw]; clear hw wn CZ3)
                    | (go_at_call 25; refine (unhide CJ).mono ?_; rintro e w3 ⟨ga, gc, rfl, o3, b3⟩; have W3 := hide ((unhide W1).trans (b3.mono (unhide HSZ))); have F3 := hide ((unhide F1).later b3); obtain ⟨v9, w9, hap, HF9, HB9⟩ := (unhide F3).app2 (unhide W3).size (p := p) (o3.mono (unhide HSZ)) (unhide HDL) (unhide HAC); have F9 := hide HF9; have W9 := hide ((unhide W3).trans HB9); clear o3 b3 HF9 HB9 CJ F1 F3)
                    | (at_builtin; refine wpList_append_run rfl _ _ 22 rfl _ _ rfl rfl hap ?_; clear hap))
                  go_roundg (N - K2)
                  case measure => omega
                  case rel => exact ⟨K2, acc ++ [(p, dat)], by go_num, hK2N, Nat.le_refl _, by simp; omega, F9, HG2, W9⟩
                · rw [show allz ((l.drop K1).take (K2 - K1)) = false from by
                    cases e : allz ((l.drop K1).take (K2 - K1)) with
                    | false => rfl
                    | true => exact absurd (((allz_iff _).1 e).trans hFE.symm) h3] at CZ3
                  have HV := hide ((unhide HT).bad (unhide HUP h2 h3) (by decide))
                  clear HUL HUP HUO HR1 HP1 HP2 CJ hFE h3 e1 e2 e3 tl1 tl2 hE hDl
                  go_wp2_with (first
                    | (go_at_call 24; refine (unhide CF _).mono ?_; rintro e wn ⟨rfl, hw⟩; rw [hw]; clear hw wn)
                    | (go_at_call 21; refine (unhide CZ3).mono ?_; rintro e wn ⟨rfl, hw⟩; rw [hw]; clear hw wn CZ3))
                  go_ret2
                  exact una _ (unhide HV) rfl (FlsO.nil _ _) (unhide W1)
end Go.Proofs.YtjmomdnlibfbkaaDoor
