import Derived.Test.YtmckmeoondlcpaaDoorCut
namespace Go.Proofs.YtmckmeoondlcpaaDoor
open Go.RowKit

set_option maxHeartbeats 1000000 in
set_option maxRecDepth 100000 in
theorem slIndexByte_any (s : ByteArray) (c : Int) (w : World) :
    Calls Tryd.prog 56 #[.string s, .int .u8 c] w fun e w' => e = .returned (.int .i64 (Lib.indexByte s.data.toList c.toNat.toUInt8)) ∧ w' = w := by
  go_enter Tryd.func56, Tryd.ntmps56
  go_wp2
  rw [run_callFunc_extern Tryd.func69 (by kernel_rfl) (by kernel_rfl) (by kernel_rfl) (e := Extern.BytealgIndexByte.indexByte) (by kernel_rfl), Lib.run_indexByteString]
  simp only [Result.andThen]
  rw [Oper.upon_value]
  go_wp2
  go_ret
  exact ⟨rfl, rfl⟩

theorem indexByte_any (s : ByteArray) (c : Int) (w : World) :
    Calls Tryd.prog 38 #[.string s, .int .u8 c] w fun e w' => e = .returned (.int .i64 (Lib.indexByte s.data.toList c.toNat.toUInt8)) ∧ w' = w := by
  go_enter Tryd.func38, Tryd.ntmps38
  go_wp2_with (go_at_call 56; refine (slIndexByte_any _ _ _).mono ?_; rintro e w' ⟨rfl, rfl⟩)
  go_ret
  exact ⟨rfl, rfl⟩

theorem byteBang (s : ByteArray) (j : Nat) (hj : j < s.size) : s.data[j]! = s[j] := by
  rw [getElem!_pos s.data j (by simpa using hj)]; rfl

set_option maxHeartbeats 1000000 in
theorem baLastIndexByte_any (s : ByteArray) (c : Int) (hs : s.size < 4611686018427387904) (w : World) :
    Calls Tryd.prog 57 #[.string s, .int .u8 c] w fun e w' => e = .returned (.int .i64 (Lib.lastIndexByte s c)) ∧ w' = w := by
  go_enter Tryd.func57, Tryd.ntmps57
  go_wp2
  go_loop [5] (fun vi => ∃ k : Nat, k ≤ s.size ∧ vi = .int .i64 ((k : Int) - 1) ∧ Hid (Lib.lastIndexByte s c = Lib.lastIdx s c k)) (fun vi => ((RowKit.intOf vi) + 1).toNat)
  case atStart => exact ⟨s.size, Nat.le_refl _, by first | rfl | go_num | (congr 1; omega), rfl⟩
  case round =>
    obtain ⟨k, hk, rfl, hh⟩ := hrel
    go_wp2
    · have hc : (((s[k - 1]).toNat : Int) == c) = true := by assumption
      have k1 : 1 ≤ k := by omega
      have e1 : Lib.lastIdx s c k = ((k - 1 : Nat) : Int) := by
        have := Lib.lastIdx_hit s c (k - 1) (by rw [byteBang s (k - 1) (by omega)]; simpa using hc)
        rwa [show k - 1 + 1 = k by omega] at this
      have e2 : ((k - 1 : Nat) : Int) = (k : Int) - 1 := by omega
      go_ret
      rw [hh.out, e1, e2]
      exact ⟨rfl, rfl⟩
    · have hc : (((s[k - 1]).toNat : Int) == c) = false := by assumption
      have k1 : 1 ≤ k := by omega
      have e1 : Lib.lastIdx s c k = Lib.lastIdx s c (k - 1) := by
        have := Lib.lastIdx_miss s c (k - 1) (by rw [byteBang s (k - 1) (by omega)]; simpa using hc)
        rwa [show k - 1 + 1 = k by omega] at this
      refine ⟨⟨k - 1, by omega, by congr 1; omega, hh.out.trans e1⟩, ?_⟩
      simp [RowKit.intOf]; omega
    · have k0 : k = 0 := by omega
      subst k0
      go_ret
      rw [hh.out]
      exact ⟨rfl, rfl⟩

theorem lastIndexByte_any (s : ByteArray) (c : Int) (hs : s.size < 4611686018427387904) (w : World) :
    Calls Tryd.prog 39 #[.string s, .int .u8 c] w fun e w' => e = .returned (.int .i64 (Lib.lastIndexByte s c)) ∧ w' = w := by
  go_enter Tryd.func39, Tryd.ntmps39
  go_wp2_with (go_at_call 57; refine (baLastIndexByte_any _ _ (by assumption) _).mono ?_; rintro e w' ⟨rfl, rfl⟩)
  go_ret
  exact ⟨rfl, rfl⟩

theorem indexByte_no (s : ByteArray) (h : Lib.indexByte s.data.toList 58 = -1) (w : World) :
    Calls Tryd.prog 38 #[.string s, .int .u8 58] w fun e w' => e = .returned (.int .i64 (-1)) ∧ w' = w := by
  have := indexByte_any s 58 w
  rw [show (58 : Int).toNat.toUInt8 = 58 from rfl, h] at this
  exact this
theorem indexByte_yes (s : ByteArray) (i : Nat) (h : Lib.indexByte s.data.toList 58 = i) (w : World) :
    Calls Tryd.prog 38 #[.string s, .int .u8 58] w fun e w' => e = .returned (.int .i64 i) ∧ w' = w := by
  have := indexByte_any s 58 w
  rw [show (58 : Int).toNat.toUInt8 = 58 from rfl, h] at this
  exact this
theorem lastIndexByte_val (s : ByteArray) (i : Int) (hs : s.size < 4611686018427387904) (h : Lib.lastIndexByte s 45 = i) (w : World) :
    Calls Tryd.prog 39 #[.string s, .int .u8 45] w fun e w' => e = .returned (.int .i64 i) ∧ w' = w := by
  have := lastIndexByte_any s 45 hs w
  rw [h] at this
  exact this

def verAgg (v : Ver) : Value := .agg #[.string v.e, .string v.u, .string v.r, .bool v.c, .bool v.d]


set_option maxHeartbeats 1000000 in
theorem cutParts_any (s : ByteArray) (hs : s.size < 4611686018427387904) (w : World) :
    Calls Tryd.prog 29 #[.string s] w fun e w' => e = .returned (verAgg (cut s)) ∧ Below w.heap.size w w' := by
  have hR := rest_size s
  rcases indexByte_spec s.data.toList 58 with ⟨h1, -⟩ | ⟨i, hi, h1, -, -⟩
  · have hrest : rest s = s := by unfold rest; rw [if_pos h1]
    have c1 := hide (fun w => indexByte_no s h1 w)
    rcases Lib.lastIndexByte_spec s 45 with ⟨h2, -⟩ | ⟨j, hj, h2, -, -⟩
    · have HF := hide (show cut s = ⟨nob, s, nob, false, false⟩ by unfold cut; rw [hrest]; simp [h1, h2])
      have c2 := hide (fun w => lastIndexByte_val s (-1) (by omega) h2 w)
      clear h1 h2 hR hrest
      go_enter Tryd.func29, Tryd.ntmps29
      go_wp2_with (first | (go_at_call 38; refine (unhide c1 _).mono ?_; rintro e w' ⟨rfl, rfl⟩) | (go_at_call 39; refine (unhide c2 _).mono ?_; rintro e w' ⟨rfl, rfl⟩))
      exact bodyPost_ret (v := .agg #[.string nob, .string s, .string nob, .bool false, .bool false]) (by simp [results, Tryd.results29, go_sem, nob]) rfl ⟨by rw [unhide HF]; rfl, ((Below.refl _ _).alloc (Nat.le_refl _) _).alloc (by simp) _⟩
    · have HF := hide (show cut s = ⟨nob, s.extract 0 j, s.extract (j + 1) s.size, false, true⟩ by unfold cut; rw [hrest]; simp [h1, h2, show ¬ ((j : Int) = -1) by omega])
      have c2 := hide (fun w => lastIndexByte_val s j (by omega) h2 w)
      clear h1 h2 hR hrest
      go_enter Tryd.func29, Tryd.ntmps29
      go_wp2_with (first | (go_at_call 38; refine (unhide c1 _).mono ?_; rintro e w' ⟨rfl, rfl⟩) | (go_at_call 39; refine (unhide c2 _).mono ?_; rintro e w' ⟨rfl, rfl⟩))
      exact bodyPost_ret (v := .agg #[.string nob, .string (s.extract 0 j), .string (s.extract (j + 1) s.size), .bool false, .bool true]) (by simp [results, Tryd.results29, go_sem, nob]) rfl ⟨by rw [unhide HF]; rfl, ((Below.refl _ _).alloc (Nat.le_refl _) _).alloc (by simp) _⟩
  · have hi' : i < s.size := by simpa using hi
    have hrest : rest s = s.extract (i + 1) s.size := by unfold rest; rw [if_neg (by rw [h1]; omega), h1]; rfl
    have c1 := hide (fun w => indexByte_yes s i h1 w)
    rcases Lib.lastIndexByte_spec (s.extract (i + 1) s.size) 45 with ⟨h2, -⟩ | ⟨j, hj, h2, -, -⟩
    · have HF := hide (show cut s = ⟨s.extract 0 i, s.extract (i + 1) s.size, nob, true, false⟩ by unfold cut; rw [hrest]; simp [h1, h2, show ¬ ((i : Int) = -1) by omega])
      have c2 := hide (fun w => lastIndexByte_val (s.extract (i + 1) s.size) (-1) (by rw [hrest] at hR; omega) h2 w)
      clear h1 h2 hR hrest hi
      go_enter Tryd.func29, Tryd.ntmps29
      go_wp2_with (first | (go_at_call 38; refine (unhide c1 _).mono ?_; rintro e w' ⟨rfl, rfl⟩) | (go_at_call 39; refine (unhide c2 _).mono ?_; rintro e w' ⟨rfl, rfl⟩))
      exact bodyPost_ret (v := .agg #[.string (s.extract 0 i), .string (s.extract (i + 1) s.size), .string nob, .bool true, .bool false]) (by simp [results, Tryd.results29, go_sem, nob]) rfl ⟨by rw [unhide HF]; rfl, ((Below.refl _ _).alloc (Nat.le_refl _) _).alloc (by simp) _⟩
    · have HF := hide (show cut s = ⟨s.extract 0 i, (s.extract (i + 1) s.size).extract 0 j, (s.extract (i + 1) s.size).extract (j + 1) (s.extract (i + 1) s.size).size, true, true⟩ by unfold cut; rw [hrest]; simp [h1, h2, show ¬ ((i : Int) = -1) by omega, show ¬ ((j : Int) = -1) by omega])
      have c2 := hide (fun w => lastIndexByte_val (s.extract (i + 1) s.size) j (by rw [hrest] at hR; omega) h2 w)
      have hsz : (s.extract (i + 1) s.size).size = s.size - (i + 1) := by rw [ByteArray.size_extract]; omega
      rw [hsz] at HF hj
      clear h1 h2 hR hrest hi hsz
      go_enter Tryd.func29, Tryd.ntmps29
      go_wp2_with (first | (go_at_call 38; refine (unhide c1 _).mono ?_; rintro e w' ⟨rfl, rfl⟩) | (go_at_call 39; refine (unhide c2 _).mono ?_; rintro e w' ⟨rfl, rfl⟩))
      exact bodyPost_ret (v := .agg #[.string (s.extract 0 i), .string ((s.extract (i + 1) s.size).extract 0 j), .string ((s.extract (i + 1) s.size).extract (j + 1) (s.size - (i + 1))), .bool true, .bool true]) (by simp [results, Tryd.results29, go_sem]) rfl ⟨by rw [unhide HF]; rfl, ((Below.refl _ _).alloc (Nat.le_refl _) _).alloc (by simp) _⟩

theorem cutParts_as (s : ByteArray) (hs : s.size < 4611686018427387904) (E U R : ByteArray) (C D : Bool) (h : cut s = ⟨E, U, R, C, D⟩) (w : World) :
    Calls Tryd.prog 29 #[.string s] w fun e w' => e = .returned (.agg #[.string E, .string U, .string R, .bool C, .bool D]) ∧ Below w.heap.size w w' := by
  have := cutParts_any s hs w
  rw [h] at this
  exact this

theorem checkParts_as (e u r : ByteArray) (c d : Bool) (n : Int) (hn : chk e u r c d = n) (he : e.size ≤ maxLen) (hu : u.size ≤ maxLen) (hr : r.size ≤ maxLen) (w : World) :
    Calls Tryd.prog 30 #[.agg #[.string e, .string u, .string r, .bool c, .bool d]] w fun x w' => x = .returned (.int .i64 n) ∧ Below w.heap.size w w' := by
  have := checkParts_any e u r c d w he hu hr
  rw [hn] at this
  exact this

theorem bcell {W w1 : World} (hb : Below W.heap.size W w1) : (∀ b o, b < W.heap.size → w1.cell? ⟨b, o, none⟩ = W.cell? ⟨b, o, none⟩) ∧ (∀ b o, b < W.heap.size → w1.frozen? ⟨b, o, none⟩ = W.frozen? ⟨b, o, none⟩) :=
  ⟨fun b o h => hb.cell (p := ⟨b, o, none⟩) h, fun b o h => hb.frozen (p := ⟨b, o, none⟩) h⟩

theorem below_set5 {w w2 : World} {b : Nat} (h : Below b w w2) (v0 v1 v2 v3 v4 : Value) :
    Below b w (((((w2.setCell ⟨b, 0, none⟩ v0).setCell ⟨b, 1, none⟩ v1).setCell ⟨b, 2, none⟩ v2).setCell ⟨b, 3, none⟩ v3).setCell ⟨b, 4, none⟩ v4) :=
  ((((h.setCell (p := ⟨b, 0, none⟩) (Nat.le_refl _) _).setCell (p := ⟨b, 1, none⟩) (Nat.le_refl _) _).setCell (p := ⟨b, 2, none⟩) (Nat.le_refl _) _).setCell (p := ⟨b, 3, none⟩) (Nat.le_refl _) _).setCell (p := ⟨b, 4, none⟩) (Nat.le_refl _) _

set_option maxHeartbeats 1000000 in
theorem parse_long (s : ByteArray) (h : 256 < s.size) (hs : s.size ≤ maxLen) (w : World) :
    Calls Tryd.prog 24 #[.string s] w fun x w' => x = .returned (.tuple #[.agg #[.string nob, .string nob, .string nob, .bool false, .bool false], .int .i64 10]) ∧ Below w.heap.size w w' := by
  unfold maxLen at hs
  go_enter Tryd.func24, Tryd.ntmps24
  go_wp2
  exact bodyPost_ret (v := .tuple #[.agg #[.string nob, .string nob, .string nob, .bool false, .bool false], .int .i64 10]) (by simp [results, Tryd.results24, go_sem, nob]) rfl ⟨rfl, (Below.refl _ _).alloc (Nat.le_refl _) _⟩

set_option maxHeartbeats 1000000 in
theorem parse_short (s : ByteArray) (h : s.size ≤ 256) (E U R : ByteArray) (C D : Bool) (hc : cut s = ⟨E, U, R, C, D⟩) (n : Int) (hn : chk E U R C D = n) (w : World) :
    Calls Tryd.prog 24 #[.string s] w fun x w' => x = .returned (.tuple #[if n = 0 then .agg #[.string E, .string U, .string R, .bool C, .bool D] else .agg #[.string nob, .string nob, .string nob, .bool false, .bool false], .int .i64 n]) ∧ Below w.heap.size w w' := by
  have hz := cut_size s
  rw [hc] at hz
  obtain ⟨z1, z2, z3⟩ := hz
  simp only at z1 z2 z3
  have c1 := hide (fun w => cutParts_as s (by omega) E U R C D hc w)
  have c2 := hide (fun w => checkParts_as E U R C D n hn (by unfold maxLen; omega) (by unfold maxLen; omega) (by unfold maxLen; omega) w)
  clear hc hn z1 z2 z3
  by_cases e : n = 0
  · subst e
    rw [if_pos rfl]
    go_enter Tryd.func24, Tryd.ntmps24
    go_wp2_with fail
    refine (unhide c1 _).mono ?_
    rintro e w1 ⟨rfl, hb1⟩
    have hz1 := hb1.size
    have hb1' := hide hb1
    obtain ⟨hc1, hf1⟩ := bcell hb1
    clear hb1
    simp at hz1
    go_wp2_with fail
    refine (unhide c2 _).mono ?_
    rintro e w2 ⟨rfl, hb2⟩
    have hz2 := hb2.size
    have hb2' := hide hb2
    obtain ⟨hc2, hf2⟩ := bcell hb2
    clear hb2
    simp at hz2
    have q1 : w.heap.size < w1.heap.size + 1 := by omega
    have q2 : w.heap.size < w1.heap.size := by omega
    go_wp2_with fail
    refine bodyPost_ret (v := .tuple #[.agg #[.string E, .string U, .string R, .bool C, .bool D], .int .i64 0]) (by simp [results, Tryd.results24, go_sem, hc1, hc2, q1, q2]) rfl ⟨rfl, ?_⟩
    exact below_set5 (((((Below.refl _ w).alloc (Nat.le_refl _) _).trans ((unhide hb1').mono (by simp))).alloc (by omega) _).trans ((unhide hb2').mono (by simp; omega))) _ _ _ _ _
  · have hn : (n != 0) = true := by simp [e]
    rw [if_neg e]
    clear e
    go_enter Tryd.func24, Tryd.ntmps24
    go_wp2_with fail
    refine (unhide c1 _).mono ?_
    rintro e w1 ⟨rfl, hb1⟩
    have hz1 := hb1.size
    have hb1' := hide hb1
    obtain ⟨hc1, hf1⟩ := bcell hb1
    clear hb1
    simp at hz1
    go_wp2_with fail
    refine (unhide c2 _).mono ?_
    rintro e w2 ⟨rfl, hb2⟩
    have hz2 := hb2.size
    have hb2' := hide hb2
    obtain ⟨hc2, hf2⟩ := bcell hb2
    clear hb2
    simp at hz2
    have q1 : w.heap.size < w1.heap.size + 1 := by omega
    have q2 : w.heap.size < w1.heap.size := by omega
    go_wp2_with fail
    refine bodyPost_ret (v := .tuple #[.agg #[.string nob, .string nob, .string nob, .bool false, .bool false], .int .i64 n]) (by simp [results, Tryd.results24, go_sem, nob, hc1, hc2, q1, q2]) rfl ⟨rfl, ?_⟩
    exact below_set5 (((((Below.refl _ w).alloc (Nat.le_refl _) _).trans ((unhide hb1').mono (by simp))).alloc (by omega) _).trans ((unhide hb2').mono (by simp; omega))) _ _ _ _ _

/-- debver.Parse, WHATEVER THE TEXT. -/
theorem Parse_any (s : ByteArray) (hs : s.size ≤ maxLen) (E U R : ByteArray) (C D : Bool) (n : Int) (h : parse s = (⟨E, U, R, C, D⟩, n)) (w : World) :
    Calls Tryd.prog 24 #[.string s] w fun x w' => x = .returned (.tuple #[.agg #[.string E, .string U, .string R, .bool C, .bool D], .int .i64 n]) ∧ Below w.heap.size w w' := by
  unfold parse at h
  by_cases hl : 256 < s.size
  · rw [if_pos hl] at h
    cases h
    exact parse_long s hl hs w
  · rw [if_neg hl] at h
    cases hc : cut s with
    | mk E' U' R' C' D' =>
      rw [hc] at h
      have := parse_short s (by omega) E' U' R' C' D' hc _ rfl w
      by_cases hn : chk E' U' R' C' D' = 0
      · rw [if_pos (show chkV ⟨E', U', R', C', D'⟩ = 0 from hn)] at h
        cases h
        rw [if_pos hn, hn] at this
        exact this
      · rw [if_neg (show ¬ chkV ⟨E', U', R', C', D'⟩ = 0 from hn)] at h
        cases h
        rw [if_neg hn] at this
        exact this

end Go.Proofs.YtmckmeoondlcpaaDoor
