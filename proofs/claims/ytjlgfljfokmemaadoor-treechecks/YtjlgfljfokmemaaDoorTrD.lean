import Derived.Test.YtjlgfljfokmemaaDoorTrC
namespace Go.Proofs.YtjlgfljfokmemaaDoor
open Go.RowKit

theorem st_cat (a b : Nat) : (⟨#[110, 47]⟩ : ByteArray) ++ ba (Lib.decDigits a) ++ ⟨#[46]⟩ ++ ba (Lib.decDigits b) = ba (stT a b) := by
  apply ba_inj
  unfold stT ba
  simp [ByteArray.data_append]
theorem dec_len (u : Nat) (h : u ≤ 281474976710655) : (Lib.decDigits u).length ≤ 15 := ((cn_iff _).1 (cn_dec u (by omega))).2.1
theorem dec_size (u : Nat) (h : u ≤ 281474976710655) : (ba (Lib.decDigits u)).size ≤ 15 := by rw [ba_size]; exact dec_len u h
def nmT (s : ByteArray) : ByteArray := if okP s = true then ⟨#[116, 47]⟩ ++ s else ⟨#[]⟩
def stS (a b : Int) : ByteArray := if stOk a b = true then ba (stT a.toNat b.toNat) else ⟨#[]⟩
def stE (a b : Int) : Int := if stOk a b = true then 0 else 1

theorem Name_any (s : ByteArray) (w : World) (hs : s.size ≤ 9223372036854775807) (hg : Glob w) :
    Calls Tryd.prog 5 #[.string s] w fun e w' => e = .returned (.tuple #[.string (nmT s), .int .i64 (chk s)]) ∧ Below w.heap.size w w' := by
  have c1 := hide (CheckPath_any s w hs hg)
  by_cases h : okP s = true
  · have hsz := ((okP_iff s).1 h).1
    have e1 : chk s = 0 := by unfold chk; rw [if_pos h]
    have e2 : nmT s = ⟨#[116, 47]⟩ ++ s := by unfold nmT; rw [if_pos h]
    rw [e1] at c1 ⊢
    rw [e2]
    clear h e1 e2 hg
    go_enter Tryd.func5, Tryd.ntmps5
    go_wp2_with fail
    refine (unhide c1).mono ?_
    rintro e w1 ⟨rfl, hb⟩
    have HB := hide hb
    clear hb
    go_wp2_with fail
    go_ret2
    exact ⟨rfl, unhide HB⟩
  · have e1 : chk s = 170 := by unfold chk; rw [if_neg h]
    have e2 : nmT s = ⟨#[]⟩ := by unfold nmT; rw [if_neg h]
    rw [e1] at c1 ⊢
    rw [e2]
    clear h e1 e2 hg
    go_enter Tryd.func5, Tryd.ntmps5
    go_wp2_with fail
    refine (unhide c1).mono ?_
    rintro e w1 ⟨rfl, hb⟩
    have HB := hide hb
    clear hb
    go_wp2_with fail
    go_ret2
    exact ⟨rfl, unhide HB⟩

theorem isSeq_any (a : Int) (w : World) :
    Calls Tryd.prog 18 #[.int .i64 a] w fun e w' => e = .returned (.bool (decide (0 ≤ a) && decide (a ≤ 281474976710655))) ∧ w' = w := by
  go_enter Tryd.func18, Tryd.ntmps18
  by_cases h1 : 0 ≤ a
  · by_cases h2 : a ≤ 281474976710655
    · have e : (decide (0 ≤ a) && decide (a ≤ 281474976710655)) = true := by simp [h1, h2]
      rw [e]
      clear e
      go_wp2_with fail
      go_ret
      exact ⟨rfl, rfl⟩
    · have e : (decide (0 ≤ a) && decide (a ≤ 281474976710655)) = false := by simp [h2]
      rw [e]
      clear e
      go_wp2_with fail
      go_ret
      exact ⟨rfl, rfl⟩
  · have e : (decide (0 ≤ a) && decide (a ≤ 281474976710655)) = false := by simp [h1]
    rw [e]
    clear e
    go_wp2_with fail
    go_ret
    exact ⟨rfl, rfl⟩

theorem stagedName_any (a b : Nat) (w : World) (ha : a ≤ 281474976710655) (hb : b ≤ 281474976710655) (hg : Glob w) :
    Calls Tryd.prog 19 #[.int .i64 a, .int .i64 b] w fun e w' => e = .returned (.string (ba (stT a b))) ∧ Below w.heap.size w w' := by
  have c1 := hide (cItoa a w ha hg)
  have c2 := hide (fun w hg => cItoa b w hb hg)
  have HG := hide hg
  rw [← st_cat a b]
  have s1 := dec_size a ha
  have s2 := dec_size b hb
  generalize ba (Lib.decDigits a) = x at *
  generalize ba (Lib.decDigits b) = y at *
  clear hg
  go_enter Tryd.func19, Tryd.ntmps19
  go_wp2_with fail
  refine (unhide c1).mono ?_
  rintro e w1 ⟨rfl, hb⟩
  have HB := hide hb
  clear hb
  go_wp2_with fail
  refine (unhide c2 _ ((unhide HG).later (unhide HB))).mono ?_
  rintro e w2 ⟨rfl, hb2⟩
  have HB2 := hide (bl_t (unhide HB) hb2)
  clear hb2
  go_wp2_with fail
  go_ret
  exact ⟨rfl, unhide HB2⟩

theorem Staged_any (a b : Int) (w : World) (hg : Glob w) :
    Calls Tryd.prog 7 #[.int .i64 a, .int .i64 b] w fun e w' => e = .returned (.tuple #[.string (stS a b), .int .i64 (stE a b)]) ∧ Below w.heap.size w w' := by
  have c1 := hide (isSeq_any a w)
  by_cases h : stOk a b = true
  · obtain ⟨h1, h2, h3, h4⟩ := (stOk_iff a b).1 h
    have e1 : stE a b = 0 := by unfold stE; rw [if_pos h]
    have e2 : stS a b = ba (stT a.toNat b.toNat) := by unfold stS; rw [if_pos h]
    have e3 : (decide (0 ≤ a) && decide (a ≤ 281474976710655)) = true := by simp [h1, h2]
    rw [e3] at c1
    rw [e1, e2]
    have c2 := hide (stagedName_any a.toNat b.toNat w (by omega) (by omega) hg)
    rw [Int.toNat_of_nonneg h1, Int.toNat_of_nonneg h3] at c2
    have k1 : ¬ (b < 0) := by omega
    have k2 : ¬ ((2147483647 : Int) < b) := by omega
    generalize ba (stT a.toNat b.toNat) = x at *
    clear h e1 e2 e3 hg
    go_enter Tryd.func7, Tryd.ntmps7
    go_wp2_with fail
    refine (unhide c1).mono ?_
    rintro e w1 ⟨rfl, rfl⟩
    go_wp2_with fail
    refine (unhide c2).mono ?_
    rintro e w1 ⟨rfl, hb⟩
    have HB := hide hb
    clear hb
    go_wp2_with fail
    go_ret2
    exact ⟨rfl, unhide HB⟩
  · have e1 : stE a b = 1 := by unfold stE; rw [if_neg h]
    have e2 : stS a b = ⟨#[]⟩ := by unfold stS; rw [if_neg h]
    have HN := hide (fun h' => h ((stOk_iff a b).2 h'))
    rw [e1, e2]
    clear h e1 e2 hg
    by_cases e3 : (decide (0 ≤ a) && decide (a ≤ 281474976710655)) = true
    · rw [e3] at c1
      rw [Bool.and_eq_true, decide_eq_true_eq, decide_eq_true_eq] at e3
      obtain ⟨h1, h2⟩ := e3
      by_cases k1 : b < 0
      · clear HN
        go_enter Tryd.func7, Tryd.ntmps7
        go_wp2_with fail
        refine (unhide c1).mono ?_
        rintro e w1 ⟨rfl, rfl⟩
        go_wp2_with fail
        go_ret2
        exact ⟨rfl, Below.refl _ _⟩
      · have k2 : (2147483647 : Int) < b := by
          by_cases k : (2147483647 : Int) < b
          · exact k
          · exact absurd ⟨h1, h2, by omega, by omega⟩ (unhide HN)
        clear HN
        go_enter Tryd.func7, Tryd.ntmps7
        go_wp2_with fail
        refine (unhide c1).mono ?_
        rintro e w1 ⟨rfl, rfl⟩
        go_wp2_with fail
        go_ret2
        exact ⟨rfl, Below.refl _ _⟩
    · rw [Bool.not_eq_true] at e3
      rw [e3] at c1
      clear HN e3
      go_enter Tryd.func7, Tryd.ntmps7
      go_wp2_with fail
      refine (unhide c1).mono ?_
      rintro e w1 ⟨rfl, rfl⟩
      go_wp2_with fail
      go_ret2
      exact ⟨rfl, Below.refl _ _⟩

def psA (l : List UInt8) : Int := match pst l with | some (a, _) => (a : Int) | none => 0
def psB (l : List UInt8) : Int := match pst l with | some (_, b) => (b : Int) | none => 0
def psO (l : List UInt8) : Bool := (pst l).isSome
theorem tp_len (l : List UInt8) : (tp l).length ≤ l.length := by
  unfold tp Lib.trimPrefix
  split
  · simp
  · exact Nat.le_refl _
theorem cF_len (l : List UInt8) : (cF l).length ≤ l.length := by
  unfold cF
  exact (List.takeWhile_sublist _).length_le
theorem cS_len (l : List UInt8) : (cS l).length ≤ l.length := by
  unfold cS
  have := (List.dropWhile_sublist (fun b : UInt8 => b != 46) (l := l)).length_le
  rw [List.length_tail]
  omega
theorem stE_iff (a b : Int) : stE a b = 0 ↔ stOk a b = true := by
  unfold stE
  split
  · rename_i h; simp [h]
  · rename_i h; simp [h]
theorem ps_yes (s : ByteArray) (x y : Int) (hx : x = atv (cF (tp s.data.toList))) (hy : y = atv (cS (tp s.data.toList))) (h1 : stOk x y = true) (h2 : stS x y = s) :
    psA s.data.toList = x ∧ psB s.data.toList = y ∧ psO s.data.toList = true := by
  subst hx hy
  have hk := (stOk_iff _ _).1 h1
  have e := pst_code s.data.toList
  unfold stS at h2
  rw [if_pos h1] at h2
  have h3 := congrArg (fun b : ByteArray => b.data.toList) h2
  simp only [ba_list] at h3
  rw [if_pos ⟨h1, h3⟩] at e
  unfold psA psB psO
  rw [e]
  exact ⟨Int.toNat_of_nonneg hk.1, Int.toNat_of_nonneg hk.2.2.1, rfl⟩
theorem ps_no (s : ByteArray) (x y : Int) (hx : x = atv (cF (tp s.data.toList))) (hy : y = atv (cS (tp s.data.toList))) (h : ¬ (stOk x y = true ∧ stS x y = s)) :
    psA s.data.toList = 0 ∧ psB s.data.toList = 0 ∧ psO s.data.toList = false := by
  subst hx hy
  have e := pst_code s.data.toList
  rw [if_neg] at e
  · unfold psA psB psO
    rw [e]
    exact ⟨rfl, rfl, rfl⟩
  · rintro ⟨h1, h3⟩
    apply h
    refine ⟨h1, ?_⟩
    unfold stS
    rw [if_pos h1]
    apply ba_inj
    rw [ba_list]
    exact h3

set_option maxHeartbeats 1000000 in
theorem parseStaged_any (s : ByteArray) (w : World) (hs : s.size ≤ 281474976710656) (hg : Glob w) :
    Calls Tryd.prog 24 #[.string s] w fun e w' => e = .returned (.tuple #[.int .i64 (psA s.data.toList), .int .i64 (psB s.data.toList), .bool (psO s.data.toList)]) ∧ Below w.heap.size w w' := by
  have c1 := hide (cTrim s w)
  have t1 := tp_len s.data.toList
  have t2 := cF_len (tp s.data.toList)
  have t3 := cS_len (tp s.data.toList)
  rw [size_list] at t1
  have c2 := hide (fun w => cCut (ba (tp s.data.toList)) w (by rw [ba_size]; omega))
  rw [ba_list] at c2
  have c3 := hide (fun w hg => cAtoi (ba (cF (tp s.data.toList))) w (by rw [ba_size]; omega) hg)
  have c4 := hide (fun w hg => cAtoi (ba (cS (tp s.data.toList))) w (by rw [ba_size]; omega) hg)
  rw [ba_list] at c3 c4
  have c5 := hide (fun x y w hg => Staged_any x y w hg)
  have HY := hide (fun x y hx hy => ps_yes s x y hx hy)
  have HN := hide (fun x y hx hy => ps_no s x y hx hy)
  have HG := hide hg
  have HE := hide stE_iff
  generalize ba (cF (tp s.data.toList)) = u at *
  generalize ba (cS (tp s.data.toList)) = v at *
  generalize ba (tp s.data.toList) = t at *
  obtain ⟨x, hx⟩ : ∃ x, x = atv (cF (tp s.data.toList)) := ⟨_, rfl⟩
  obtain ⟨y, hy⟩ : ∃ y, y = atv (cS (tp s.data.toList)) := ⟨_, rfl⟩
  have HY' := hide (unhide HY x y hx hy)
  have HN' := hide (unhide HN x y hx hy)
  rw [← hx] at c3
  rw [← hy] at c4
  generalize psA s.data.toList = pa at *
  generalize psB s.data.toList = pb at *
  generalize psO s.data.toList = po at *
  have c5' := hide (unhide c5 x y)
  have HE' := hide (unhide HE x y)
  generalize stE x y = er at *
  generalize stS x y = st at *
  generalize stOk x y = ok at *
  clear t1 t2 t3 hg HY HN hx hy c5 HE
  go_enter Tryd.func24, Tryd.ntmps24
  go_wp2_with fail
  refine (unhide c1).mono ?_
  rintro e w1 ⟨rfl, rfl⟩
  go_wp2_with fail
  refine (unhide c2 _).mono ?_
  rintro e w2 ⟨⟨b2, rfl⟩, hb2⟩
  have HB2 := hide hb2
  clear hb2
  go_wp2_with fail
  refine (unhide c3 _ ((unhide HG).later (unhide HB2))).mono ?_
  rintro e w3 ⟨⟨b3, rfl⟩, hb3⟩
  have HB3 := hide (bl_t (unhide HB2) hb3)
  clear hb3
  go_wp2_with fail
  refine (unhide c4 _ ((unhide HG).later (unhide HB3))).mono ?_
  rintro e w4 ⟨⟨b4, rfl⟩, hb4⟩
  have HB4 := hide (bl_t (unhide HB3) hb4)
  clear hb4
  go_wp2_with fail
  refine (unhide c5' _ ((unhide HG).later (unhide HB4))).mono ?_
  rintro e w5 ⟨rfl, hb5⟩
  have HB5 := hide (bl_t (unhide HB4) hb5)
  clear hb5
  by_cases g1 : er = 0
  · have g1' : (er == 0) = true := by rw [g1]; rfl
    by_cases g2 : st = s
    · have HF := hide (unhide HY' ((unhide HE').1 g1) g2)
      have g2' : (st.toList == s.toList) = true := by rw [g2]; simp
      clear HY' HN' HE'
      go_wp2_with fail
      go_ret3
      obtain ⟨f1, f2, f3⟩ := unhide HF
      rw [f1, f2, f3]
      exact ⟨rfl, unhide HB5⟩
    · have HF := hide (unhide HN' (fun e => g2 e.2))
      have g2' : (st.toList == s.toList) = false := beq_eq_false_iff_ne.2 (fun e => g2 (ba_inj (by rw [← Lib.toList_data, ← Lib.toList_data]; exact e)))
      clear HY' HN' HE'
      go_wp2_with fail
      go_ret3
      obtain ⟨f1, f2, f3⟩ := unhide HF
      rw [f1, f2, f3]
      exact ⟨rfl, unhide HB5⟩
  · have g1' : (er == 0) = false := beq_eq_false_iff_ne.2 g1
    have HF := hide (unhide HN' (fun e => g1 ((unhide HE').2 e.1)))
    clear HY' HN' HE'
    go_wp2_with fail
    go_ret3
    obtain ⟨f1, f2, f3⟩ := unhide HF
    rw [f1, f2, f3]
    exact ⟨rfl, unhide HB5⟩

end Go.Proofs.YtjlgfljfokmemaaDoor
