import Derived.Test.YtjmomdnlibfbkaaDoorAbJ
namespace Go.Proofs.YtjmomdnlibfbkaaDoor
open Go.RowKit

theorem zeroC44 : Tryd.zeroCells44 = ((zs 512).map cb).toArray := by kernel_rfl
def UnA (w : World) (R : Int × List Fl) (e : Ending) (w' : World) : Prop := ∃ v, e = .returned (.tuple #[v, .int .i64 R.1]) ∧ FlsO w' w.heap.size v R.2 ∧ Below w.heap.size w w'
theorem una {w w' : World} {R : Int × List Fl} {e : Ending} (v : Value) {er : Int} {fs : List Fl} (h : R = (er, fs)) (h1 : e = .returned (.tuple #[v, .int .i64 er])) (h2 : FlsO w' w.heap.size v fs) (h3 : Below w.heap.size w w') : UnA w R e w' := by
  subst h
  exact ⟨v, h1, h2, h3⟩
/-- A FILE TAKEN: refused, or one more. -/
theorem take_two {w : World} {g : Nat} {d T : Bs} {a : Option Addr} {c : Nat} (hB : By w g (d.take 512)) (h : ¬ d.length < 512) (hz : ¬ d.take 512 = zs 512) (hT : d.drop 512 = T) (hR : Rb w (.slice a T.length c) T) (hd : d.length ≤ 1073741824) (hg : Glob w) :
    (∃ er : Int, er ≠ 0 ∧ U d = (er, []) ∧ Calls Tryd.prog 19 #[.pointer (some ⟨g, 0, none⟩), .slice a T.length c] w fun e w' => e = .returned (.tuple #[noF, .slice none 0 0, .int .i64 er]) ∧ Below w.heap.size w w') ∨
    (∃ (f : Fl) (d2 : Bs), U d = ((U d2).1, if (U d2).1 = 0 then f :: (U d2).2 else []) ∧ d2.length + 512 ≤ d.length ∧ Calls Tryd.prog 19 #[.pointer (some ⟨g, 0, none⟩), .slice a T.length c] w fun e w' => ∃ dv rv, e = .returned (.tuple #[.agg #[.string f.1, dv], rv, .int .i64 0]) ∧ w'.ownsRow w.heap.size 5 1 dv f.2.length (f.2.map cb) ∧ (∀ X, Rb X (.slice a T.length c) T → Rb X rv d2) ∧ Below w.heap.size w w') := by
  have hl : (d.take 512).length = 512 := by rw [List.length_take]; omega
  have hTl : T.length = d.length - 512 := by rw [← hT, List.length_drop]
  cases ht : toldL (d.take 512) with
  | none => exact .inl ⟨72, by decide, U_none h hz ht, takeFile_none hB hl hg ht⟩
  | some ps =>
    obtain ⟨p, s⟩ := ps
    by_cases h1 : 1048576 < s
    · exact .inl ⟨78, by decide, U_size h hz ht h1, takeFile_size hB hl hg ht h1⟩
    · by_cases h2 : T.length < fill s
      · exact .inl ⟨73, by decide, U_less h hz ht h1 (by rw [hT]; exact h2), takeFile_short hB hl hg ht (by omega) h2⟩
      · by_cases h3 : (T.drop s).take (fill s - s) = zs (fill s - s)
        · have hge := fill_ge s
          have hs : (T.take s).length = s := by rw [List.length_take]; omega
          refine .inr ⟨(p, T.take s), T.drop (fill s), ?_, ?_, (takeFile_ok hB hl hR (by omega) hg ht (by omega) (by omega) h3).mono ?_⟩
          · have q := U_ok h hz ht h1 (by rw [hT]; exact h2) (by rw [hT]; exact h3)
            rw [hT] at q
            exact q
          · rw [List.length_drop]
            omega
          · rintro e w' ⟨dv, rv, q1, q2, q3, q4⟩
            exact ⟨dv, rv, q1, by rw [hs]; exact q2, q3, q4⟩
        · exact .inl ⟨74, by decide, U_pad h hz ht h1 (by rw [hT]; exact h2) (by rw [hT]; exact h3), takeFile_pad hB hl hg hR (by omega) ht (by omega) (by omega) h3⟩
set_option maxRecDepth 100000 in
set_option maxHeartbeats 16000000 in
theorem Untar_any {w : World} {v : Value} {l : Bs} (h : Rb w v l) (hl : l.length ≤ 1073741824) (hg : Glob w) :
    Calls Tryd.prog 8 #[v] w fun e w' => UnA w (if 16777216 < l.length then (2, []) else U l) e w' := by
  obtain ⟨a, c, rfl, hc⟩ := h.form
  by_cases h0 : 16777216 < l.length
  · rw [if_pos h0]
    have h0' : (16777216 : Int) < (l.length : Int) := by omega
    clear h
    go_enter Tryd.func8, Tryd.ntmps8
    go_wp2_with fail
    go_ret2
    exact una _ rfl rfl (FlsO.nil _ _) (Below.refl _ _)
  · rw [if_neg h0]
    have h0' : ¬ (16777216 : Int) < (l.length : Int) := by omega
    obtain ⟨R, hR⟩ : ∃ R, U l = R := ⟨_, rfl⟩
    rw [hR]
    have HG := hide hg
    have G0 := hide (show Gt R [] l from hR ▸ Gt.start l)
    have B0 := hide h
    have F0 := hide (FlsO.nil w w.heap.size)
    have HBH := hide builtH
    clear h hg hR
    go_enter Tryd.func8, Tryd.ntmps8
    go_wp2_with fail
    go_loopg [0, 4, 5, 6, 7, 8] l.length (fun gq dv fv _ _ _ _ wr => ∃ (d : Bs) (acc : List Fl), d.length ≤ gq ∧ d.length ≤ l.length ∧ acc.length + d.length ≤ l.length ∧ Hid (Rb w dv d) ∧ Hid (FlsO wr w.heap.size fv acc) ∧ Hid (Gt R acc d) ∧ Hid (Below w.heap.size w wr))
    case atStart => exact ⟨l, [], by omega, by omega, by simp, B0, F0, G0, hide (Below.refl _ _)⟩
    case round =>
      clear B0 F0 G0
      obtain ⟨d, acc, hd1, hd2, hd3, HR, HF, HT, HW⟩ := hrel
      obtain ⟨da, dc, rfl, hdc⟩ := (unhide HR).form
      by_cases h5 : d.length < 512
      · have h5' : (d.length : Int) < 512 := by omega
        have HU := hide ((unhide HT).bad (U_short h5) (by decide))
        go_wp2_with fail
        go_ret2
        exact una _ (unhide HU) rfl (FlsO.nil _ _) (unhide HW)
      · have h5' : ¬ (d.length : Int) < 512 := by omega
        have h5c : (512 : Int) ≤ (dc : Int) := by omega
        have h5n : 512 ≤ dc := by omega
        have h5l : (512 : Int) ≤ (d.length : Int) := by omega
        obtain ⟨da2, hif⟩ : ∃ da2, (if dc = 512 then da else Option.map (fun x => x.add 512) da) = da2 := ⟨_, rfl⟩
        go_upto_region 8 with (first
          | ((with_reducible refine b_alloc (t := 44) (k := 512) zeroH rfl rfl ?_); intro w1 q1 k1 z1; have P1 := hide (By.of_bk q1); have K1 := hide k1; clear q1 k1 z1)
          | ((with_reducible refine b_copyB _ _ rfl rfl rfl rfl (unhide P1) (zs_len 512) ((unhide HR).later ((unhide HW).trans ((unhide K1).mono (unhide HW).size))) (by omega) ?_); intro w2 q2 o2; have P2 := hide q2; have O2 := hide o2; clear q2 o2))
        have BW2 := hide ((unhide HW).trans (((unhide K1).mono (unhide HW).size).trans ((unhide O2).bel.mono (unhide HW).size)))
        have HSZ := hide (show w.heap.size ≤ w2.heap.size from (unhide BW2).size)
        have HR0 := hide (show Rb w (.slice (if dc = 512 then da else Option.map (fun x => x.add 512) da) (d.length - 512) (dc - 512)) (d.drop 512) from by
          have q := (unhide HR).cutA (i := 512) (j := d.length) (by omega) (Nat.le_refl _)
          rw [List.take_of_length_le (by rw [List.length_drop]; exact Nat.le_refl _)] at q
          by_cases e : dc = 512
          · rw [if_pos e]
            have e2 : d.drop 512 = [] := List.drop_of_length_le (by omega)
            rw [e2, show d.length - 512 = 0 by omega]
            exact Rb.nil' _ _ _
          · rw [if_neg e]
            exact q)
        have heq : (if dc = 512 then da else Option.map (fun x => x.add 512) da) = (if dc = 512 then da else Option.map (fun x => { block := x.block, off := x.off + 512 }) da) := rfl
        rw [hif] at HR0
        rw [heq] at hif
        rw [hif]
        have HF2 := hide ((unhide HF).later ((unhide K1).trans ((unhide O2).bel.mono (Nat.le_refl _))))
        clear heq hif HR K1 P1 O2 HF
        obtain ⟨T, hT⟩ : ∃ T, d.drop 512 = T := ⟨_, rfl⟩
        have hTl : d.length - 512 = T.length := by rw [← hT, List.length_drop]
        rw [hTl] at HR0 ⊢
        rw [hT] at HR0
        have HR2 := hide ((unhide HR0).later (unhide BW2))
        obtain ⟨L, hL⟩ : ∃ L, d.take 512 = L := ⟨_, rfl⟩
        have hlt : L.length = 512 := by rw [← hL, List.length_take]; omega
        have HLH := hide (show (L.map cb).length = 512 by rw [List.length_map]; exact hlt)
        rw [hL] at P2
        have hEq : ∀ X, Sem.run Tryd.prog (Op.equalIn 10000 44 (.agg (L.map cb).toArray) (.agg Tryd.zeroCells44)) X = .ok (decide (L = zs 512)) X := fun X => by
          rw [zeroC44]
          exact equH hlt (zs_len 512) X
        by_cases hz : L = zs 512
        · have hdec : decide (L = zs 512) = true := decide_eq_true hz
          simp only [hdec] at hEq
          have CE := hide (checkEnd_any (unhide HR2) (by rw [← hTl]; omega))
          have HU := hide (U_end h5 (hL.trans hz))
          rw [hT] at HU
          clear hz hdec hlt hL
          by_cases h0e : endE T = 0
          · rw [h0e] at CE HU
            have HV := hide ((unhide HT).done (unhide HU))
            clear h0e
            go_wp2_with (first
              | ((with_reducible refine m_load (t := 44) (k := 512) Tryd.underlying44 rfl infoH _ rfl rfl wr.heap.size 0 rfl (L.map cb) (Rb.of_by (unhide P2)) (unhide HLH) ?_))
              | (go_at_call 20; refine (unhide CE).mono ?_; rintro e w3 ⟨rfl, hw⟩; rw [hw]; clear hw w3 CE))
            go_ret2
            exact una _ (unhide HV) rfl (unhide HF2) (unhide BW2)
          · have HV := hide ((unhide HT).bad (unhide HU) h0e)
            go_wp2_with (first
              | ((with_reducible refine m_load (t := 44) (k := 512) Tryd.underlying44 rfl infoH _ rfl rfl wr.heap.size 0 rfl (L.map cb) (Rb.of_by (unhide P2)) (unhide HLH) ?_))
              | (go_at_call 20; refine (unhide CE).mono ?_; rintro e w3 ⟨rfl, hw⟩; rw [hw]; clear hw w3 CE))
            go_ret2
            exact una _ (unhide HV) rfl (FlsO.nil _ _) (unhide BW2)
        · have hdec : decide (L = zs 512) = false := decide_eq_false hz
          simp only [hdec] at hEq
          go_upto_region 9 with (first
              | ((with_reducible refine m_load (t := 44) (k := 512) Tryd.underlying44 rfl infoH _ rfl rfl wr.heap.size 0 rfl (L.map cb) (Rb.of_by (unhide P2)) (unhide HLH) ?_)))
          have CT := take_two (hL ▸ unhide P2) h5 (hL ▸ hz) hT (unhide HR2) (by omega) ((unhide HG).later (unhide BW2))
          clear hz hdec hlt hEq
          rcases CT with ⟨er, he0, hU, CT⟩ | ⟨f, d2, hU, hd2', CT⟩
          · have HV := hide ((unhide HT).bad hU he0)
            have HC := hide CT
            clear hU CT
            go_wp2_with (first
              | (go_at_call 19; refine (unhide HC).mono ?_; rintro e w3 ⟨rfl, b3⟩; have B3 := hide ((unhide BW2).trans (b3.mono (unhide HSZ))); clear b3 HC)
              | ((with_reducible refine b_alloc (t := 40) (k := 2) zeroBl rfl rfl ?_); intro w4 q4 k4 z4; have P4 := hide q4; have B4 := hide ((unhide B3).trans (k4.mono (unhide B3).size)); clear q4 k4 z4)
              | ((with_reducible refine b_store (t := 40) (k := 2) infoBl _ _ rfl rfl w3.heap.size rfl [.string ⟨#[]⟩, .slice none 0 0] rfl rfl (two_one rfl) _ (unhide P4) ?_); intro w5 q5 o5 k5 z5; have B5 := hide ((unhide B4).trans (k5 w.heap.size (unhide B3).size)); clear q5 o5 k5 z5))
            go_ret2
            exact una _ (unhide HV) rfl (FlsO.nil _ _) (unhide B5)
          · have HG2 := hide ((unhide HT).next hU)
            have HC := hide CT
            clear hU CT
            go_upto_region 12 with (first
              | (go_at_call 19; refine (unhide HC).mono ?_; rintro e w3 ⟨dv, rv, rfl, o3, r3, b3⟩; obtain ⟨da3, dc3, rfl⟩ := owns_form o3; have r4 := r3 w (unhide HR0); obtain ⟨ra3, rc3, rfl, hrc3⟩ := r4.form; have F3 := hide ((unhide HF2).later (b3.mono (Nat.le_refl _))); have O3 := hide (o3.mono (unhide HSZ)); have R9 := hide r4; have B3 := hide ((unhide BW2).trans (b3.mono (unhide HSZ))); clear o3 r3 r4 b3 HC HR0)
              | ((with_reducible refine b_alloc (t := 40) (k := 2) zeroBl rfl rfl ?_); intro w4 q4 k4 z4; have P4 := hide q4; have K4 := hide k4; clear q4 k4 z4)
              | ((with_reducible refine b_store (t := 40) (k := 2) infoBl _ _ rfl rfl w3.heap.size rfl [.string f.1, .slice da3 f.2.length dc3] rfl rfl (two_one rfl) _ (unhide P4) ?_); intro w5 q5 o5 k5 z5; have P5 := hide q5; have K5 := hide ((unhide K4).trans (k5 _ (Nat.le_refl _))); have F5 := hide ((unhide F3).later (unhide K5)); have O5 := hide (own_low (unhide O3) (unhide K5)); have B5 := hide ((unhide B3).trans ((unhide K5).mono (unhide B3).size)); clear q5 o5 k5 z5 K4 K5 F3 O3 B3 P4 HF2 HR2 P2))
            obtain ⟨fa, fc, rfl⟩ := (unhide F5).form
            obtain ⟨v9, w9, hap, HF9, HB9⟩ := (unhide F5).app (unhide B5).size (unhide O5) (by omega)
            have F9 := hide HF9
            have B9 := hide ((unhide B5).trans HB9)
            go_wp2_with (first
              | ((with_reducible refine m_load (t := 40) (k := 2) Tryd.underlying40 rfl infoBl _ rfl rfl w3.heap.size 0 rfl [.string f.1, .slice da3 f.2.length dc3] (unhide P5).range rfl ?_))
              | (at_builtin; refine wpList_append_run rfl _ _ 22 rfl _ _ rfl rfl hap ?_; clear hap))
            go_roundg d2.length
            case measure => omega
            case rel => exact ⟨d2, acc ++ [f], Nat.le_refl _, by omega, by simp; omega, R9, F9, HG2, B9⟩
end Go.Proofs.YtjmomdnlibfbkaaDoor
