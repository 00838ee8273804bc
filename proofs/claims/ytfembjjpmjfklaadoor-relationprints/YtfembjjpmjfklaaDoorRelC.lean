import Derived.Test.YtfembjjpmjfklaaDoorRelA
namespace Go.Proofs.YtfembjjpmjfklaaDoor
open Go.RowKit

theorem isVersion_gl (s : ByteArray) (w : World) (hs : s.size < 4294967281) :
    Calls Tryd.prog 89 #[.string s] w fun e w' => e = .returned (.bool ((parse s).2 == 0)) ∧ Below w.heap.size w w' :=
  isVersion_any s (by unfold maxLen; omega) w

set_option maxHeartbeats 4000000 in
theorem readConstraint_any (s : ByteArray) (w : World) (hs : s.size < 4294967281) (ha : asc s) (hg : Glob w) :
    Calls Tryd.prog 51 #[.string s] w fun e w' => e = .returned (.tuple #[.int .i64 (readC s).1, .string (readC s).2.1, .int .i64 (readC s).2.2]) ∧ Below w.heap.size w w' := by
  have z1 := cutB_size s
  have z2 := trimO_size (cutB s).1
  have z3 := trimL_size (trimO (cutB s).1)
  have c1 := hide (fun w => cutBrackets_any s w hs ha)
  have c2 := hide (fun w => cTrimO (cutB s).1 w)
  have c3 := hide (fun w hg => operator_any ((cutB s).1.extract 0 ((cutB s).1.size - (trimO (cutB s).1).size)) w hg)
  have c4 := hide (fun w => cTrimL (trimO (cutB s).1) w)
  have c5 := hide (fun w => isVersion_gl (trimL (trimO (cutB s).1)) w (by omega))
  have HF := hide (show readC s = if (cutB s).2 = false then (0, nob, 23) else
    if (opOf ((cutB s).1.extract 0 ((cutB s).1.size - (trimO (cutB s).1).size))).2 = false then (0, nob, 21) else
    if (parse (trimL (trimO (cutB s).1))).2 ≠ 0 then (0, nob, 22) else
    ((opOf ((cutB s).1.extract 0 ((cutB s).1.size - (trimO (cutB s).1).size))).1, trimL (trimO (cutB s).1), 0) from rfl)
  have hzz : (trimO (cutB s).1).size ≤ (cutB s).1.size := z2
  have HG := hide hg
  generalize (parse (trimL (trimO (cutB s).1))).2 = pv at *
  generalize trimL (trimO (cutB s).1) = ver at *
  rcases hop : opOf ((cutB s).1.extract 0 ((cutB s).1.size - (trimO (cutB s).1).size)) with ⟨op, ok⟩
  rw [hop] at HF c3
  generalize trimO (cutB s).1 = rest at *
  rcases hcb : cutB s with ⟨wi, b1⟩
  rw [hcb] at c1 c2 c3 HF hzz
  rw [hcb] at z1
  simp only at c1 c2 c3 HF hzz z1
  obtain ⟨d, hd⟩ : ∃ d : Nat, wi.size - rest.size = d := ⟨_, rfl⟩
  have hcast : ((wi.size : Int) - (rest.size : Int)) = (d : Int) := by omega
  have hw : wrap64 (d : Int) = (d : Int) := by unfold wrap64; omega
  have hdl : d ≤ wi.size := by omega
  rw [hd] at c3
  clear hop hcb z1 z2 z3 hs ha hg hd hzz
  cases b1
  · have HH := hide (show readC s = (0, nob, 23) by rw [unhide HF, if_pos rfl])
    go_enter Tryd.func51, Tryd.ntmps51
    go_wp2_with (first | (go_at_call 87; refine (unhide c1 _).mono ?_; rintro e w1 ⟨rfl, hb1⟩; have HB1 := hide hb1; clear hb1))
    refine bodyPost_ret (v := .tuple #[.int .i64 0, .string nob, .int .i64 23]) (by simp [results, Tryd.results51, go_sem, nob]) rfl ⟨by rw [unhide HH], unhide HB1⟩
  · go_enter Tryd.func51, Tryd.ntmps51
    go_wp2_with (first | (go_at_call 87; refine (unhide c1 _).mono ?_; rintro e w1 ⟨rfl, hb1⟩; have HB1 := hide hb1; clear hb1) | (go_at_call_of 77 (Value.string wi); refine (unhide c2 _).mono ?_; rintro e w2 ⟨rfl, hb2⟩; have HB2 := hide (bl_t (unhide HB1) hb2); clear hb2))
    have g2 : Glob w2 := (unhide HG).later (unhide HB2)
    refine (unhide c3 _ g2).mono ?_
    rintro e w3 ⟨rfl, hb3⟩
    have HB3 := hide (bl_t (unhide HB2) hb3)
    clear hb3 g2
    cases ok
    · have HH := hide (show readC s = (0, nob, 21) by rw [unhide HF, if_neg (by simp), if_pos rfl])
      go_wp2_with fail
      refine bodyPost_ret (v := .tuple #[.int .i64 0, .string nob, .int .i64 21]) (by simp [results, Tryd.results51, go_sem, nob]) rfl ⟨by rw [unhide HH], unhide HB3⟩
    · cases hpv : (pv == 0)
      · have hpn : pv ≠ 0 := by simpa using hpv
        have HH := hide (show readC s = (0, nob, 22) by rw [unhide HF, if_neg (by simp), if_neg (by simp), if_pos hpn])
        rw [hpv] at c5
        clear hpv hpn
        go_wp2_with (first | (go_at_call_of 77 (Value.string rest); refine (unhide c4 _).mono ?_; rintro e w4 ⟨rfl, hb4⟩; have HB4 := hide (bl_t (unhide HB3) hb4); clear hb4) | (go_at_call 89; refine (unhide c5 _).mono ?_; rintro e w5 ⟨rfl, hb5⟩; have HB5 := hide (bl_t (unhide HB4) hb5); clear hb5))
        refine bodyPost_ret (v := .tuple #[.int .i64 0, .string nob, .int .i64 22]) (by simp [results, Tryd.results51, go_sem, nob]) rfl ⟨by rw [unhide HH], unhide HB5⟩
      · have hpn : ¬ pv ≠ 0 := by simpa using hpv
        have HH := hide (show readC s = (op, ver, 0) by rw [unhide HF, if_neg (by simp), if_neg (by simp), if_neg hpn])
        rw [hpv] at c5
        clear hpv hpn
        go_wp2_with (first | (go_at_call_of 77 (Value.string rest); refine (unhide c4 _).mono ?_; rintro e w4 ⟨rfl, hb4⟩; have HB4 := hide (bl_t (unhide HB3) hb4); clear hb4) | (go_at_call 89; refine (unhide c5 _).mono ?_; rintro e w5 ⟨rfl, hb5⟩; have HB5 := hide (bl_t (unhide HB4) hb5); clear hb5))
        refine bodyPost_ret (v := .tuple #[.int .i64 op, .string ver, .int .i64 0]) (by simp [results, Tryd.results51, go_sem]) rfl ⟨by rw [unhide HH], unhide HB5⟩

theorem readC_size (s : ByteArray) : (readC s).2.1.size ≤ s.size := by
  unfold readC
  split
  · exact Nat.zero_le _
  · split
    · exact Nat.zero_le _
    · split
      · exact Nat.zero_le _
      · exact Nat.le_trans (trimL_size _) (Nat.le_trans (trimO_size _) (cutB_size s))

theorem below_set3 {w w2 : World} {b : Nat} (h : Below b w w2) (v0 v1 v2 : Value) :
    Below b w (((w2.setCell ⟨b, 0, none⟩ v0).setCell ⟨b, 1, none⟩ v1).setCell ⟨b, 2, none⟩ v2) :=
  ((h.setCell (p := ⟨b, 0, none⟩) (Nat.le_refl _) v0).setCell (p := ⟨b, 1, none⟩) (Nat.le_refl _) v1).setCell (p := ⟨b, 2, none⟩) (Nat.le_refl _) v2

set_option maxHeartbeats 4000000 in
theorem ParseAtom_any (s : ByteArray) (w : World) (hs : s.size ≤ 9223372036854775807) (ha : asc s) (hg : Glob w) :
    Calls Tryd.prog 14 #[.string s] w fun e w' => e = .returned (.tuple #[amV (parseA s).1, .int .i64 (parseA s).2]) ∧ Below w.heap.size w w' := by
  have HF := hide (show parseA s = if 16777216 < s.size then (am0, 2) else
    if okName (cutN (trimB s)).1 = false then (am0, 20) else
    if (cutN (trimB s)).2.size = 0 then (⟨(cutN (trimB s)).1, 0, nob⟩, 0) else
    if (readC (cutN (trimB s)).2).2.2 ≠ 0 then (am0, (readC (cutN (trimB s)).2).2.2) else
    (⟨(cutN (trimB s)).1, (readC (cutN (trimB s)).2).1, (readC (cutN (trimB s)).2).2.1⟩, 0) from rfl)
  by_cases hlong : 16777216 < s.size
  · have HH := hide (show parseA s = (am0, 2) by rw [unhide HF, if_pos hlong])
    have hl : ((16777216 : Int) < (s.size : Int)) := by omega
    clear HF hlong hg ha hs
    go_enter Tryd.func14, Tryd.ntmps14
    go_wp2_with fail
    refine bodyPost_ret (v := .tuple #[amV am0, .int .i64 2]) (by simp [results, Tryd.results14, go_sem, nob, amV, am0]) rfl ⟨by rw [unhide HH], (Below.refl _ w).alloc (Nat.le_refl _) _⟩
  · have z1 := trimB_size s
    have z2 := cutN_size (trimB s)
    have a1 := cutN_asc (asc_trimB ha)
    have c1 := hide (fun w => cTrimB s w hs)
    have c2 := hide (fun w => cutName_any (trimB s) w (by omega) (asc_trimB ha))
    have c3 := hide (fun w => CheckName_any (cutN (trimB s)).1 w (by unfold maxLen; omega))
    have c4 := hide (fun w hg => readConstraint_any (cutN (trimB s)).2 w (by omega) a1.2 hg)
    have hl : ¬ ((16777216 : Int) < (s.size : Int)) := by omega
    rw [if_neg hlong] at HF
    have HB0 := hide ((Below.refl w.heap.size w).alloc (Nat.le_refl _) (.cells #[.string ⟨#[]⟩, .int .i64 0, .string ⟨#[]⟩] 34))
    have HGl := hide hg
    generalize trimB s = t at *
    rcases hcn : cutN t with ⟨nm, rs⟩
    rw [hcn] at c2 c3 c4 HF
    simp only at c2 c3 c4 HF
    clear hcn a1 z1 z2 hs ha hg hlong
    cases hok : okName nm
    · have HH := hide (show parseA s = (am0, 20) by rw [unhide HF, if_pos hok])
      have c3' := hide (fun w => (ckName_no nm hok) ▸ unhide c3 w)
      clear c3 hok c4 HF
      go_enter Tryd.func14, Tryd.ntmps14
      go_wp2_with (first | (go_at_call 49; refine (unhide c1 _).mono ?_; rintro e w1 ⟨rfl, hb1⟩; have HB1 := hide hb1; clear hb1) | (go_at_call 48; refine (unhide c2 _).mono ?_; rintro e w2 ⟨rfl, hb2⟩; have HB2 := hide (bl_t (unhide HB1) hb2); have hq := (unhide HB2).size; obtain ⟨hc2, hf2⟩ := bcell (unhide HB2); simp at hq; clear hb2) | (go_at_call 50; refine (unhide c3' _).mono ?_; rintro e w' ⟨rfl, rfl⟩))
      refine bodyPost_ret (v := .tuple #[amV am0, .int .i64 20]) (by simp [results, Tryd.results14, go_sem, nob, amV, am0, hc2]) rfl ⟨by rw [unhide HH], below_set3 ((unhide HB0).trans ((unhide HB2).mono (unhide HB0).size)) _ _ _⟩
    · have c3' := hide (fun w => (ckName_yes nm hok) ▸ unhide c3 w)
      rw [if_neg (by simp [hok])] at HF
      clear c3 hok
      by_cases hr : rs.size = 0
      · have HH := hide (show parseA s = (⟨nm, 0, nob⟩, 0) by rw [unhide HF, if_pos hr])
        have hre : (rs.toList == []) = true := by
          have : rs.data.toList.length = 0 := by rw [size_list]; exact hr
          rw [Lib.toList_data, List.length_eq_zero_iff.1 this]
          rfl
        have hrl : rs.toList = [] := eq_of_beq hre
        clear c4 HF hr
        go_enter Tryd.func14, Tryd.ntmps14
        go_wp2_with (first | (go_at_call 49; refine (unhide c1 _).mono ?_; rintro e w1 ⟨rfl, hb1⟩; have HB1 := hide hb1; clear hb1) | (go_at_call 48; refine (unhide c2 _).mono ?_; rintro e w2 ⟨rfl, hb2⟩; have HB2 := hide (bl_t (unhide HB1) hb2); have hq := (unhide HB2).size; obtain ⟨hc2, hf2⟩ := bcell (unhide HB2); simp at hq; clear hb2) | (go_at_call 50; refine (unhide c3' _).mono ?_; rintro e w' ⟨rfl, rfl⟩))
        refine bodyPost_ret (v := .tuple #[amV ⟨nm, 0, nob⟩, .int .i64 0]) (by simp [results, Tryd.results14, go_sem, nob, amV, hc2]) rfl ⟨by rw [unhide HH], below_set3 ((unhide HB0).trans ((unhide HB2).mono (unhide HB0).size)) _ _ _⟩
      · rcases hrc : readC rs with ⟨op, ver, e0⟩
        rw [hrc] at c4 HF
        simp only at c4 HF
        rw [if_neg hr] at HF
        have hre : (rs.toList == []) = false := by
          cases h : (rs.toList == []) with
          | false => rfl
          | true =>
            have := eq_of_beq h
            rw [Lib.toList_data] at this
            exact absurd (by rw [← size_list, this]; rfl) hr
        clear hrc hr
        by_cases he : e0 = 0
        · subst he
          have HH := hide (show parseA s = (⟨nm, op, ver⟩, 0) by rw [unhide HF, if_neg (by simp)])
          clear HF
          go_enter Tryd.func14, Tryd.ntmps14
          go_wp2_with (first | (go_at_call 49; refine (unhide c1 _).mono ?_; rintro e w1 ⟨rfl, hb1⟩; have HB1 := hide hb1; clear hb1) | (go_at_call 48; refine (unhide c2 _).mono ?_; rintro e w2 ⟨rfl, hb2⟩; have HB2 := hide (bl_t (unhide HB1) hb2); have hq := (unhide HB2).size; obtain ⟨hc2, hf2⟩ := bcell (unhide HB2); simp at hq; clear hb2) | (go_at_call 50; refine (unhide c3' _).mono ?_; rintro e w' ⟨rfl, rfl⟩))
          have g2 : Glob w' := (unhide HGl).later ((unhide HB0).trans ((unhide HB2).mono (unhide HB0).size))
          refine (unhide c4 _ g2).mono ?_
          rintro e w3 ⟨rfl, hb3⟩
          have HB3 := hide (bl_t (unhide HB2) hb3)
          clear hc2 hf2 hq
          have hq := (unhide HB3).size
          obtain ⟨hc2, hf2⟩ := bcell (unhide HB3)
          simp at hq
          clear hb3 g2
          go_wp2_with fail
          refine bodyPost_ret (v := .tuple #[amV ⟨nm, op, ver⟩, .int .i64 0]) (by simp [results, Tryd.results14, go_sem, amV, hc2]) rfl ⟨by rw [unhide HH], below_set3 ((unhide HB0).trans ((unhide HB3).mono (unhide HB0).size)) _ _ _⟩
        · have HH := hide (show parseA s = (am0, e0) by rw [unhide HF, if_pos he])
          have hen : (e0 == 0) = false := by simpa using he
          clear HF he
          go_enter Tryd.func14, Tryd.ntmps14
          go_wp2_with (first | (go_at_call 49; refine (unhide c1 _).mono ?_; rintro e w1 ⟨rfl, hb1⟩; have HB1 := hide hb1; clear hb1) | (go_at_call 48; refine (unhide c2 _).mono ?_; rintro e w2 ⟨rfl, hb2⟩; have HB2 := hide (bl_t (unhide HB1) hb2); have hq := (unhide HB2).size; obtain ⟨hc2, hf2⟩ := bcell (unhide HB2); simp at hq; clear hb2) | (go_at_call 50; refine (unhide c3' _).mono ?_; rintro e w' ⟨rfl, rfl⟩))
          have g2 : Glob w' := (unhide HGl).later ((unhide HB0).trans ((unhide HB2).mono (unhide HB0).size))
          refine (unhide c4 _ g2).mono ?_
          rintro e w3 ⟨rfl, hb3⟩
          have HB3 := hide (bl_t (unhide HB2) hb3)
          clear hc2 hf2 hq
          have hq := (unhide HB3).size
          obtain ⟨hc2, hf2⟩ := bcell (unhide HB3)
          simp at hq
          clear hb3 g2
          go_wp2_with fail
          refine bodyPost_ret (v := .tuple #[amV am0, .int .i64 e0]) (by simp [results, Tryd.results14, go_sem, nob, amV, am0, hc2]) rfl ⟨by rw [unhide HH], below_set3 ((unhide HB0).trans ((unhide HB3).mono (unhide HB0).size)) _ _ _⟩

end Go.Proofs.YtfembjjpmjfklaaDoor
