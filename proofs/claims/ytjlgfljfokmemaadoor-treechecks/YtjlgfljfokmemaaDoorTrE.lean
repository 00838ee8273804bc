import Derived.Test.YtjlgfljfokmemaaDoorTrD
namespace Go.Proofs.YtjlgfljfokmemaaDoor
open Go.RowKit

theorem results_tmp4 {fn : Func} {t u v x : Tmp} (h : fn.results = #[.tmp t, .tmp u, .tmp v, .tmp x]) (tmps : Array Value) (P : Program) (w : World) :
    (results fn tmps).run P w = .ok (.tuple #[tmps.getD t undef, tmps.getD u undef, tmps.getD v undef, tmps.getD x undef]) w := by
  simp [results, h]
theorem hp_take (c d : UInt8) (l : List UInt8) : Lib.hasPrefix l [c, d] = decide (l.take 2 = [c, d]) := by
  unfold Lib.hasPrefix
  match l with
  | [] => simp [List.isPrefixOf]
  | [x] => simp [List.isPrefixOf]
  | x :: y :: r =>
    simp [List.isPrefixOf, eq_comm]
    rfl
theorem trim_take (c d : UInt8) (l : List UInt8) (h : l.take 2 = [c, d]) : Lib.trimPrefix l [c, d] = l.drop 2 := by
  unfold Lib.trimPrefix
  rw [hp_take, if_pos (by simp [h])]
  rfl
theorem prs_tree (s : ByteArray) (h : s.data.toList.take 2 = [116, 47]) (hk : okP (ba (s.data.toList.drop 2)) = true) : prs s = (ba (s.data.toList.drop 2), 0, 0, 1) := by
  unfold prs
  rw [if_pos ⟨h, hk⟩]
theorem prs_rest (s : ByteArray) (h : ¬ (s.data.toList.take 2 = [116, 47] ∧ okP (ba (s.data.toList.drop 2)) = true)) : prs s = (⟨#[]⟩, psA s.data.toList, psB s.data.toList, if psO s.data.toList = true then 2 else 0) := by
  unfold prs psA psB psO
  rw [if_neg h]
  cases pst s.data.toList with
  | none => rfl
  | some p => rfl
theorem ba_le (s : ByteArray) (k : Nat) : (ba (s.data.toList.drop k)).size ≤ s.size := by
  rw [ba_size, List.length_drop, size_list]
  omega
theorem psO_no {l : List UInt8} (h : psO l = false) : psA l = 0 ∧ psB l = 0 := by
  unfold psO at h
  unfold psA psB
  cases e : pst l with
  | none => exact ⟨rfl, rfl⟩
  | some p => rw [e] at h; cases h

set_option maxHeartbeats 1000000 in
theorem Parse_any (s : ByteArray) (w : World) (hs : s.size ≤ 281474976710656) (hg : Glob w) :
    Calls Tryd.prog 12 #[.string s] w fun e w' => e = .returned (.tuple #[.string (prs s).1, .int .i64 (prs s).2.1, .int .i64 (prs s).2.2.1, .int .i64 (prs s).2.2.2]) ∧ Below w.heap.size w w' := by
  have c1 := hide (cPre s w)
  have HG := hide hg
  have hl := ba_le s 2
  have c3 := hide (fun w hg => parseStaged_any s w hs hg)
  by_cases h : s.data.toList.take 2 = [116, 47]
  · rw [hp_take, trim_take _ _ _ h, show decide (s.data.toList.take 2 = [116, 47]) = true by simp [h]] at c1
    have c2 := hide (CheckPath_any (ba (s.data.toList.drop 2)) w (by omega) hg)
    by_cases hk : okP (ba (s.data.toList.drop 2)) = true
    · have e1 : chk (ba (s.data.toList.drop 2)) = 0 := by unfold chk; rw [if_pos hk]
      rw [prs_tree s h hk]
      rw [e1] at c2
      generalize ba (s.data.toList.drop 2) = t at *
      clear h hk e1 c3 hg
      go_enter Tryd.func12, Tryd.ntmps12
      go_wp2_with fail
      refine (unhide c1).mono ?_
      rintro e w1 ⟨rfl, rfl⟩
      go_wp2_with fail
      refine (unhide c2).mono ?_
      rintro e w2 ⟨rfl, hb⟩
      have HB := hide hb
      clear hb
      go_wp2_with fail
      ((try simp only [Exit.inBlock, Exit.then]); refine bodyPost_ret (results_tmp4 rfl _ _ _) rfl ?_)
      exact ⟨rfl, unhide HB⟩
    · have e1 : chk (ba (s.data.toList.drop 2)) = 170 := by unfold chk; rw [if_neg hk]
      rw [prs_rest s (fun e => hk e.2)]
      rw [e1] at c2
      have HP := hide (fun h => psO_no (l := s.data.toList) h)
      generalize ba (s.data.toList.drop 2) = t at *
      generalize psA s.data.toList = pa at *
      generalize psB s.data.toList = pb at *
      generalize psO s.data.toList = po at *
      clear h hk e1 hg
      go_enter Tryd.func12, Tryd.ntmps12
      go_wp2_with fail
      refine (unhide c1).mono ?_
      rintro e w1 ⟨rfl, rfl⟩
      go_wp2_with fail
      refine (unhide c2).mono ?_
      rintro e w2 ⟨rfl, hb⟩
      have HB := hide hb
      clear hb
      go_wp2_with fail
      refine (unhide c3 _ ((unhide HG).later (unhide HB))).mono ?_
      rintro e w3 ⟨rfl, hb⟩
      have HB3 := hide (bl_t (unhide HB) hb)
      clear hb
      cases po
      · have HF := hide (unhide HP rfl)
        clear HP
        go_wp2_with fail
        ((try simp only [Exit.inBlock, Exit.then]); refine bodyPost_ret (results_tmp4 rfl _ _ _) rfl ?_)
        obtain ⟨f1, f2⟩ := unhide HF
        rw [f1, f2]
        exact ⟨rfl, unhide HB3⟩
      · clear HP
        go_wp2_with fail
        ((try simp only [Exit.inBlock, Exit.then]); refine bodyPost_ret (results_tmp4 rfl _ _ _) rfl ?_)
        exact ⟨rfl, unhide HB3⟩
  · rw [hp_take, show decide (s.data.toList.take 2 = [116, 47]) = false by simp [h]] at c1
    rw [prs_rest s (fun e => h e.1)]
    have HP := hide (fun h => psO_no (l := s.data.toList) h)
    generalize ba (Lib.trimPrefix s.data.toList [116, 47]) = t at *
    generalize psA s.data.toList = pa at *
    generalize psB s.data.toList = pb at *
    generalize psO s.data.toList = po at *
    clear h hg
    go_enter Tryd.func12, Tryd.ntmps12
    go_wp2_with fail
    refine (unhide c1).mono ?_
    rintro e w1 ⟨rfl, rfl⟩
    go_wp2_with fail
    refine (unhide c3 _ (unhide HG)).mono ?_
    rintro e w3 ⟨rfl, hb⟩
    have HB3 := hide hb
    clear hb
    cases po
    · have HF := hide (unhide HP rfl)
      clear HP
      go_wp2_with fail
      ((try simp only [Exit.inBlock, Exit.then]); refine bodyPost_ret (results_tmp4 rfl _ _ _) rfl ?_)
      obtain ⟨f1, f2⟩ := unhide HF
      rw [f1, f2]
      exact ⟨rfl, unhide HB3⟩
    · clear HP
      go_wp2_with fail
      ((try simp only [Exit.inBlock, Exit.then]); refine bodyPost_ret (results_tmp4 rfl _ _ _) rfl ?_)
      exact ⟨rfl, unhide HB3⟩

end Go.Proofs.YtjlgfljfokmemaaDoor
