import Derived.Test.YtmckmeoondlcpaaDoorRef2
namespace Go.Proofs.YtmckmeoondlcpaaDoor
open Go.RowKit

theorem rparts_any (s : ByteArray) (hs : s.size < 4611686018427387904) (w : World) :
    Calls Tryd.prog 34 #[.string s] w fun e w' => e = .returned (verAgg (cut s)) ∧ Below w.heap.size w w' := by
  rcases indexByte_spec s.data.toList 58 with ⟨h1, h2⟩ | ⟨i, hi, h1, h2, h3⟩
  · exact rparts_no s hs h1 h2 w
  · have hi' : i < s.size := by simpa using hi
    exact rparts_yes s hs i hi' h1 (colon_eq hi' h2) (fun j hj h => colon_ne hj (h3 j h)) w

theorem allB_congr (p q : Int → Bool) (u : ByteArray) (h : ∀ c ∈ u.data.toList, p (c.toNat : Int) = q (c.toNat : Int)) : allB p u = allB q u := by
  unfold allB
  rw [Bool.eq_iff_iff, List.all_eq_true, List.all_eq_true]
  exact ⟨fun hp c hc => (h c hc) ▸ hp c hc, fun hq c hc => (h c hc).symm ▸ hq c hc⟩

theorem mem_extract {s : ByteArray} {a b : Nat} {c : UInt8} (h : c ∈ (s.extract a b).data.toList) : c ∈ s.data.toList := by
  rw [ByteArray.data_extract, Array.toList_extract] at h
  exact List.mem_of_mem_drop (List.mem_of_mem_take h)

theorem cut_no_colon (s : ByteArray) (h : (cut s).c = false) : ∀ c ∈ (cut s).u.data.toList, c ≠ 58 := by
  have hi : Lib.indexByte s.data.toList 58 = -1 := by
    have h' : decide (Lib.indexByte s.data.toList 58 ≠ -1) = false := h
    simpa using h'
  have hr : rest s = s := by unfold rest; rw [if_pos hi]
  have hn : ∀ c ∈ s.data.toList, c ≠ 58 := by
    rcases indexByte_spec s.data.toList 58 with ⟨_, h2⟩ | ⟨i, hi', h1, _, _⟩
    · intro c hc
      obtain ⟨j, hj, rfl⟩ := List.getElem_of_mem hc
      exact h2 j hj
    · rw [h1] at hi; omega
  intro c hc
  have hu : (cut s).u = if Lib.lastIndexByte (rest s) 45 = -1 then rest s else (rest s).extract 0 (Lib.lastIndexByte (rest s) 45).toNat := rfl
  rw [hu, hr] at hc
  split at hc
  · exact hn c hc
  · exact hn c (mem_extract hc)

theorem cut_no_hyphen (s : ByteArray) (h : (cut s).d = false) : ∀ c ∈ (cut s).u.data.toList, c ≠ 45 := by
  have hi : Lib.lastIndexByte (rest s) 45 = -1 := by
    have h' : decide (Lib.lastIndexByte (rest s) 45 ≠ -1) = false := h
    simpa using h'
  have hu : (cut s).u = if Lib.lastIndexByte (rest s) 45 = -1 then rest s else (rest s).extract 0 (Lib.lastIndexByte (rest s) 45).toNat := rfl
  rw [hu, if_pos hi]
  rcases Lib.lastIndexByte_spec (rest s) 45 with ⟨_, h2⟩ | ⟨i, _, h1, _, _⟩
  · intro c hc
    obtain ⟨j, hj, rfl⟩ := List.getElem_of_mem hc
    have hj' : j < (rest s).size := by simpa using hj
    have := h2 j hj'
    rw [byteBang _ j hj'] at this
    intro e
    apply this
    have e' : (rest s)[j] = 45 := e
    rw [e']; rfl
  · rw [h1] at hi; omega

theorem u8_ne {c : UInt8} {n : Nat} (hn : n < 256) (h : c ≠ UInt8.ofNat n) : ((c.toNat : Int) == (n : Int)) = false := by
  rw [beq_eq_false_iff_ne]
  intro e
  apply h
  apply UInt8.toNat_inj.1
  rw [UInt8.toNat_ofNat']
  omega

theorem wrong_chk (s : ByteArray) : wrong (cut s).e (cut s).u (cut s).r (cut s).c (cut s).d = chk (cut s).e (cut s).u (cut s).r (cut s).c (cut s).d := by
  have hA : allB (upR (cut s).c (cut s).d) (cut s).u = allB isUp (cut s).u := by
    apply allB_congr
    intro c hc
    unfold upR isUp
    cases hC : (cut s).c <;> cases hD : (cut s).d
    · have e1 : ((c.toNat : Int) == 58) = false := u8_ne (n := 58) (by decide) (cut_no_colon s hC c hc)
      have e2 : ((c.toNat : Int) == 45) = false := u8_ne (n := 45) (by decide) (cut_no_hyphen s hD c hc)
      simp [e1, e2]
    · have e1 : ((c.toNat : Int) == 58) = false := u8_ne (n := 58) (by decide) (cut_no_colon s hC c hc)
      simp [e1]
    · have e2 : ((c.toNat : Int) == 45) = false := u8_ne (n := 45) (by decide) (cut_no_hyphen s hD c hc)
      simp [e2]
    · simp
  have k1 : kind 41 = isDig := rfl
  have k2 : kind 42 = isUp := rfl
  have k3 : kind 43 = isRev := rfl
  unfold wrong chk
  rw [hA, k1, k2, k3]
  generalize (cut s).u.toList.isEmpty = a1
  generalize (cut s).e.toList.isEmpty = a2
  generalize (cut s).r.toList.isEmpty = a3
  generalize allB isDig (cut s).e = a4
  generalize allB isUp (cut s).u = a5
  generalize allB isRev (cut s).r = a6
  generalize isDig (b0 (cut s).u) = a7
  generalize (cut s).c = a8
  generalize (cut s).d = a9
  revert a1 a2 a3 a4 a5 a6 a7 a8 a9
  decide

theorem rparts_as (s : ByteArray) (hs : s.size < 4611686018427387904) (E U R : ByteArray) (C D : Bool) (h : cut s = ⟨E, U, R, C, D⟩) (w : World) :
    Calls Tryd.prog 34 #[.string s] w fun e w' => e = .returned (.agg #[.string E, .string U, .string R, .bool C, .bool D]) ∧ Below w.heap.size w w' := by
  have := rparts_any s hs w
  rw [h] at this
  exact this

theorem rwrong_as (e u r : ByteArray) (c d : Bool) (n : Int) (hn : wrong e u r c d = n) (he : e.size ≤ maxLen) (hu : u.size ≤ maxLen) (hr : r.size ≤ maxLen) (w : World) :
    Calls Tryd.prog 35 #[.agg #[.string e, .string u, .string r, .bool c, .bool d]] w fun x w' => x = .returned (.int .i64 n) ∧ Below w.heap.size w w' := by
  have := rwrong_any e u r c d w he hu hr
  rw [hn] at this
  exact this

set_option maxHeartbeats 1000000 in
theorem rparse_long (s : ByteArray) (h : 256 < s.size) (hs : s.size ≤ maxLen) (w : World) :
    Calls Tryd.prog 27 #[.string s] w fun x w' => x = .returned (.tuple #[.agg #[.string nob, .string nob, .string nob, .bool false, .bool false], .int .i64 10]) ∧ Below w.heap.size w w' := by
  unfold maxLen at hs
  go_enter Tryd.func27, Tryd.ntmps27
  go_wp2
  exact bodyPost_ret (v := .tuple #[.agg #[.string nob, .string nob, .string nob, .bool false, .bool false], .int .i64 10]) (by simp [results, Tryd.results27, go_sem, nob]) rfl ⟨rfl, (Below.refl _ _).alloc (Nat.le_refl _) _⟩

set_option maxHeartbeats 1000000 in
theorem rparse_short (s : ByteArray) (h : s.size ≤ 256) (E U R : ByteArray) (C D : Bool) (hc : cut s = ⟨E, U, R, C, D⟩) (n : Int) (hn : chk E U R C D = n) (w : World) :
    Calls Tryd.prog 27 #[.string s] w fun x w' => x = .returned (.tuple #[if n = 0 then .agg #[.string E, .string U, .string R, .bool C, .bool D] else .agg #[.string nob, .string nob, .string nob, .bool false, .bool false], .int .i64 n]) ∧ Below w.heap.size w w' := by
  have hz := cut_size s
  rw [hc] at hz
  obtain ⟨z1, z2, z3⟩ := hz
  simp only at z1 z2 z3
  have c1 := hide (fun w => rparts_as s (by omega) E U R C D hc w)
  have hw : wrong E U R C D = n := by
    have := wrong_chk s
    rw [hc] at this
    exact this.trans hn
  have c2 := hide (fun w => rwrong_as E U R C D n hw (by unfold maxLen; omega) (by unfold maxLen; omega) (by unfold maxLen; omega) w)
  clear hc hn hw z1 z2 z3
  by_cases e : n = 0
  · subst e
    rw [if_pos rfl]
    go_enter Tryd.func27, Tryd.ntmps27
    go_wp2_with fail
    refine (unhide c1 _).mono ?_
    rintro e w1 ⟨rfl, hb1⟩
    have hz1 := hb1.size
    have hb1' := hide hb1
    obtain ⟨hc1, hf1⟩ := bcell hb1
    clear hb1
    simp at hz1
    go_wp2_with fail
    refine (unhide c2 _).mono ?_
    rintro e w2 ⟨rfl, hb2⟩
    have hz2 := hb2.size
    have hb2' := hide hb2
    obtain ⟨hc2, hf2⟩ := bcell hb2
    clear hb2
    simp at hz2
    have q1 : w.heap.size < w1.heap.size + 1 := by omega
    have q2 : w.heap.size < w1.heap.size := by omega
    go_wp2_with fail
    refine bodyPost_ret (v := .tuple #[.agg #[.string E, .string U, .string R, .bool C, .bool D], .int .i64 0]) (by simp [results, Tryd.results27, go_sem, hc1, hc2, q1, q2]) rfl ⟨rfl, ?_⟩
    exact below_set5 (((((Below.refl _ w).alloc (Nat.le_refl _) _).trans ((unhide hb1').mono (by simp))).alloc (by omega) _).trans ((unhide hb2').mono (by simp; omega))) _ _ _ _ _
  · have hn : (n != 0) = true := by simp [e]
    rw [if_neg e]
    clear e
    go_enter Tryd.func27, Tryd.ntmps27
    go_wp2_with fail
    refine (unhide c1 _).mono ?_
    rintro e w1 ⟨rfl, hb1⟩
    have hz1 := hb1.size
    have hb1' := hide hb1
    obtain ⟨hc1, hf1⟩ := bcell hb1
    clear hb1
    simp at hz1
    go_wp2_with fail
    refine (unhide c2 _).mono ?_
    rintro e w2 ⟨rfl, hb2⟩
    have hz2 := hb2.size
    have hb2' := hide hb2
    obtain ⟨hc2, hf2⟩ := bcell hb2
    clear hb2
    simp at hz2
    have q1 : w.heap.size < w1.heap.size + 1 := by omega
    have q2 : w.heap.size < w1.heap.size := by omega
    go_wp2_with fail
    refine bodyPost_ret (v := .tuple #[.agg #[.string nob, .string nob, .string nob, .bool false, .bool false], .int .i64 n]) (by simp [results, Tryd.results27, go_sem, nob, hc1, hc2, q1, q2]) rfl ⟨rfl, ?_⟩
    exact below_set5 (((((Below.refl _ w).alloc (Nat.le_refl _) _).trans ((unhide hb1').mono (by simp))).alloc (by omega) _).trans ((unhide hb2').mono (by simp; omega))) _ _ _ _ _

/-- larderref01.Parse, WHATEVER THE TEXT. -/
theorem rParse_any (s : ByteArray) (hs : s.size ≤ maxLen) (E U R : ByteArray) (C D : Bool) (n : Int) (h : parse s = (⟨E, U, R, C, D⟩, n)) (w : World) :
    Calls Tryd.prog 27 #[.string s] w fun x w' => x = .returned (.tuple #[.agg #[.string E, .string U, .string R, .bool C, .bool D], .int .i64 n]) ∧ Below w.heap.size w w' := by
  unfold parse at h
  by_cases hl : 256 < s.size
  · rw [if_pos hl] at h
    cases h
    exact rparse_long s hl hs w
  · rw [if_neg hl] at h
    cases hc : cut s with
    | mk E' U' R' C' D' =>
      rw [hc] at h
      have := rparse_short s (by omega) E' U' R' C' D' hc _ rfl w
      by_cases hn : chk E' U' R' C' D' = 0
      · rw [if_pos (show chkV ⟨E', U', R', C', D'⟩ = 0 from hn)] at h
        cases h
        rw [if_pos hn, hn] at this
        exact this
      · rw [if_neg (show ¬ chkV ⟨E', U', R', C', D'⟩ = 0 from hn)] at h
        cases h
        rw [if_neg hn] at this
        exact this


end Go.Proofs.YtmckmeoondlcpaaDoor
