import Derived.Test.YtfembjjpmjfklaaDoorRelV
namespace Go.Proofs.YtfembjjpmjfklaaDoor
open Go.RowKit

set_option maxRecDepth 100000 in
set_option maxHeartbeats 4000000 in
theorem printRowN_any (al : List ByteArray) (v : Value) (sep : ByteArray) (most : Nat) (w : World) (hv : Sts w v al) (hz : ∀ j (h : j < al.length), al[j].size ≤ maxLen) (hm : most ≤ 1024) (hsep : sep.size ≤ 3) (hg : Glob w) :
    Calls Tryd.prog 96 #[v, .string sep, .int .i64 most, .func (.func 69) #[] #[]] w fun e w' => e = .returned (.tuple #[.string (prR (fun a => (prN a).1) (fun a => (prN a).2) al sep most).1, .int .i64 (prR (fun a => (prN a).1) (fun a => (prN a).2) al sep most).2]) ∧ Below w.heap.size w w' := by
  have HV := hide hv
  have HF := hide (show prR (fun a => (prN a).1) (fun a => (prN a).2) al sep most = if most < al.length then (nob, 24) else if errG (fun a => (prN a).2) al ≠ 0 then (nob, errG (fun a => (prN a).2) al) else if 16777216 < (prJ (fun a => (prN a).1) al sep).size then (nob, 2) else (prJ (fun a => (prN a).1) al sep, 0) from rfl)
  obtain ⟨va, vc, rfl, hbig, -⟩ := hv
  have HZ := hide hz
  have HG := hide hg
  clear hz hg
  by_cases h1 : most < al.length
  · have HH := hide (show prR (fun a => (prN a).1) (fun a => (prN a).2) al sep most = (nob, 24) by rw [unhide HF, if_pos h1])
    have h2 : (most : Int) < (al.length : Int) := by omega
    clear HF h1
    go_enter Tryd.func96, Tryd.ntmps96
    go_wp2_with fail
    go_ret2
    rw [unhide HH]
    exact ⟨rfl, Below.refl _ _⟩
  · rw [if_neg h1] at HF
    have h2 : ¬ (most : Int) < (al.length : Int) := by omega
    obtain ⟨N, hN⟩ : ∃ N, al.length = N := ⟨_, rfl⟩
    rw [hN] at h2 hbig ⊢
    have hNs : N ≤ 1024 := by omega
    obtain ⟨i0, hi, hz0, hz1, hz2⟩ := info_parts info9
    clear h1
    go_enter Tryd.func96, Tryd.ntmps96
    go_wp2_with (first | (at_make; go_must (refine wpList_make_own _ rfl _ _ 44 rfl w.heap.size 9 i0 (.string ⟨#[]⟩) 1 Tryd.underlying44 hi hz0 hz1 _ _ _ N rfl rfl rfl (by rw [hz2]; omega) (by unfold maxLen; omega) (Nat.le_refl _) ?_); intro w2 hown hgrow))
    have HP := hide (Prt.start hown hgrow)
    clear hown hgrow
    go_wp2_with fail
    go_loopw [10, 25] (fun v i wr => ∃ k : Nat, k ≤ N ∧ i = .int .i64 k ∧ v = .slice (some ⟨w.heap.size, 0, none⟩) k N ∧ Hid (Prt w wr N k ((al.take k).map fun a => (prN a).1)) ∧ Hid (∀ j (h : j < al.length), j < k → (prN al[j]).2 = 0)) (fun _ i _ => N - (intOf i).toNat)
    case atStart => exact ⟨0, Nat.zero_le _, rfl, rfl, HP, hide (fun j h hj => absurd hj (Nat.not_lt_zero _))⟩
    case round =>
      obtain ⟨k, hk, rfl, rfl, HR, HZ0⟩ := hrel
      by_cases hlt : k < N
      · have hkl : k < al.length := by omega
        obtain ⟨b, o, rfl, hbw, q0⟩ := ((unhide HV).later (unhide HR).bel).elem k hkl
        have ha3 := unhide HZ k hkl
        have HT := hide (show (al.take (k + 1)).map (fun a => (prN a).1) = (al.take k).map (fun a => (prN a).1) ++ [(prN al[k]).1] by rw [List.take_succ_eq_append_getElem hkl, List.map_append]; rfl)
        have HE := hide (fun hn : (prN al[k]).2 ≠ 0 => errG_at (fun a => (prN a).2) al k hkl (fun j hj hjk => unhide HZ0 j hj hjk) hn)
        have HZ' := hide (fun (h0 : (prN al[k]).2 = 0) => upto_nxG (fun a => (prN a).2 = 0) al k hkl (unhide HZ0) h0)
        generalize al[k] = a at *
        have c3 := hide (fun (w' : World) => printName_any a w' ha3)
        rcases hp : prN a with ⟨tx, e0⟩
        rw [hp] at c3 HT HE HZ'
        simp only at c3 HE HZ'
        clear hp ha3 HZ0
        by_cases he : e0 = 0
        · subst he
          go_wp2_with fail
          refine (unhide c3 _).mono ?_
          rintro e w4 ⟨rfl, hb4⟩
          have HR4 := hide ((unhide HR).later hb4)
          clear hb4
          go_wp2_with (first | (at_builtin; go_must (refine wpList_append_fits _ rfl _ _ 44 rfl w.heap.size 9 i0 1 Tryd.underlying44 hi hz1 w.heap.size k N _ rfl ((unhide HR4).row.alloc _) _ 1 1 [.string tx] rfl rfl (by simpa using cells1_new w4 _ _) (by simp [Value.oneCell']) (by omega) ?_); intro w5 hown5 hgrow5))
          have HR5 := hide (((unhide HR4).later ((Below.refl _ w4).alloc (Nat.le_refl _) _)).put hown5 hgrow5)
          clear hown5 hgrow5
          go_wp2_with fail
          go_roundw
          case rel => exact ⟨k + 1, by omega, by go_num, rfl, by rw [unhide HT]; exact HR5, hide (unhide HZ' (by first | trivial | rfl))⟩
          case measure => simp [intOf]; omega
        · have he' : (e0 == 0) = false := by simpa using he
          have HE' := hide (unhide HE he)
          have HH := hide (show prR (fun a => (prN a).1) (fun a => (prN a).2) al sep most = (nob, e0) by rw [unhide HF, if_pos (by rw [unhide HE']; exact he), unhide HE'])
          go_wp2_with fail
          refine (unhide c3 _).mono ?_
          rintro e w4 ⟨rfl, hb4⟩
          have HR4 := hide ((unhide HR).later hb4)
          clear hb4 he
          go_wp2_with fail
          go_ret2
          rw [unhide HH]
          exact ⟨rfl, (unhide HR4).bel⟩
      · obtain rfl : k = N := by omega
        have HE := hide (errG_none (fun a => (prN a).2) al (fun j hj => unhide HZ0 j hj (by omega)))
        have hcells : ∀ (j : Nat) x, (al.map fun a => (prN a).1)[j]? = some x → wr.cell? ⟨w.heap.size, j, none⟩ = some (.string x) := fun j x hx => by
          have h := (unhide HR).row.cells (g := w.heap.size) rfl j (.string x) (by rw [List.take_of_length_le (by omega)]; rw [List.getElem?_map, hx]; rfl)
          rw [Go.WideShapes.add_plain, Nat.zero_add] at h
          exact h
        have hlen : (Lib.join ((al.map fun a => (prN a).1).map (·.data.toList)) sep.data.toList).length ≤ 140737488355328 := by
          have h := join_le sep.data.toList 16777216 ((al.map fun a => (prN a).1).map (·.data.toList)) (fun x hx => by
            obtain ⟨y, hy, rfl⟩ := List.mem_map.1 hx
            obtain ⟨a, _, rfl⟩ := List.mem_map.1 hy
            rw [size_list]
            exact prN_size a)
          rw [size_list, List.length_map, List.length_map, hN] at h
          have h' : k * (16777216 + sep.size) ≤ 1024 * (16777216 + 3) := Nat.mul_le_mul hNs (by omega)
          omega
        have c5 := hide (cJoin w.heap.size k (al.map fun a => (prN a).1) sep wr hcells ((unhide HR).row.lt _ rfl).2 (by simp; omega) (by simp; omega) hlen)
        rw [List.length_map, hN, List.map_map] at c5
        have HJ := hide (show prJ (fun a => (prN a).1) al sep = ba (Lib.join (al.map ((fun x => x.data.toList) ∘ fun a => (prN a).1)) sep.data.toList) from rfl)
        rw [unhide HE, if_neg (by simp)] at HF
        rw [unhide HJ] at HF
        generalize ba (Lib.join (al.map ((fun x => x.data.toList) ∘ fun a => (prN a).1)) sep.data.toList) = jt at *
        clear hcells hlen HJ
        by_cases hbg : 16777216 < jt.size
        · have HH := hide (show prR (fun a => (prN a).1) (fun a => (prN a).2) al sep most = (nob, 2) by rw [unhide HF, if_pos hbg])
          have hbg' : (16777216 : Int) < (jt.size : Int) := by omega
          clear HF hbg
          go_wp2_with fail
          refine (unhide c5).mono ?_
          rintro e w4 ⟨rfl, hb4⟩
          have HB4 := hide ((unhide HR).bel.trans (hb4.mono (unhide HR).bel.size))
          clear hb4
          go_wp2_with fail
          go_ret2
          rw [unhide HH]
          exact ⟨rfl, unhide HB4⟩
        · have HH := hide (show prR (fun a => (prN a).1) (fun a => (prN a).2) al sep most = (jt, 0) by rw [unhide HF, if_neg hbg])
          have hbg' : ¬ (16777216 : Int) < (jt.size : Int) := by omega
          clear HF hbg
          go_wp2_with fail
          refine (unhide c5).mono ?_
          rintro e w4 ⟨rfl, hb4⟩
          have HB4 := hide ((unhide HR).bel.trans (hb4.mono (unhide HR).bel.size))
          clear hb4
          go_wp2_with fail
          go_ret2
          rw [unhide HH]
          exact ⟨rfl, unhide HB4⟩

set_option maxHeartbeats 2000000 in
theorem readFieldA_any (s : ByteArray) (w : World) (hs : s.size ≤ 9223372036854775807) (ha : asc s) (hg : Glob w) :
    Calls Tryd.prog 56 #[.string s, .func (.func 14) #[] #[]] w fun e w' => (∃ v, e = .returned (.tuple #[v, .int .i64 (afE s)]) ∧ (afE s = 0 → Ams w' v (afL s)) ∧ (afE s ≠ 0 → v = .slice none 0 0) ∧ (∀ g, v.ownBlock = some g → w.heap.size ≤ g)) ∧ Below w.heap.size w w' := by
  have c1 := hide (cTrimB s w hs)
  have c2 := hide (fun (w' : World) (hb : Below w.heap.size w w') => readRowA_all s 44 1024 w' hs ha (hg.later hb))
  have hb0 := hide (empty_beq (trimB s))
  by_cases h1 : s.size ≤ 16777216
  · have h1' : ((s.size : Int) ≤ 16777216) := by omega
    by_cases h2 : (trimB s).size = 0
    · have HF := hide (show afE s = 0 ∧ afL s = [] by unfold afE afL; rw [if_pos ⟨h1, h2⟩, if_pos ⟨h1, h2⟩]; exact ⟨rfl, rfl⟩)
      have hb : ((trimB s).toList == []) = true := by rw [unhide hb0]; simpa using h2
      have hbl : (trimB s).toList = [] := eq_of_beq hb
      generalize trimB s = t at *
      clear h1 h2 ha hg hs c2 hb0
      go_enter Tryd.func56, Tryd.ntmps56
      go_wp2_with fail
      refine (unhide c1).mono ?_
      rintro e w1 ⟨rfl, hb1⟩
      have HB1 := hide hb1
      clear hb1
      go_wp2_with fail
      go_ret2
      rw [(unhide HF).1, (unhide HF).2]
      exact ⟨⟨_, rfl, fun _ => ⟨none, 0, rfl, by simp, fun i h => absurd h (Nat.not_lt_zero _)⟩, fun _ => rfl, fun g h => by cases h⟩, unhide HB1⟩
    · have HF := hide (show afE s = rowE (fun t => (parseA t).2) s 44 1024 ∧ afL s = (pcs s 44).map (fun t => (parseA t).1) by unfold afE afL; rw [if_neg (fun h => h2 h.2), if_neg (fun h => h2 h.2)]; exact ⟨rfl, rfl⟩)
      have hb : ((trimB s).toList == []) = false := by rw [unhide hb0]; simpa using h2
      generalize trimB s = t at *
      clear h1 h2 ha hg hs hb0
      go_enter Tryd.func56, Tryd.ntmps56
      go_wp2_with fail
      refine (unhide c1).mono ?_
      rintro e w1 ⟨rfl, hb1⟩
      have HB1 := hide hb1
      clear hb1
      go_wp2_with fail
      refine (unhide c2 _ (unhide HB1)).mono ?_
      rintro e w2 ⟨⟨v, rfl, k1, k2, k3⟩, hb2⟩
      have HH := hide (And.intro k1 (And.intro k2 (And.intro k3 hb2)))
      clear k1 k2 k3 hb2
      go_wp2_with fail
      go_ret2
      rw [(unhide HF).1, (unhide HF).2]
      exact ⟨⟨v, rfl, (unhide HH).1, (unhide HH).2.1, fun g e => Nat.le_trans (unhide HB1).size ((unhide HH).2.2.1 g e)⟩, bl_t (unhide HB1) (unhide HH).2.2.2⟩
  · have h1' : ¬ ((s.size : Int) ≤ 16777216) := by omega
    have HF := hide (show afE s = rowE (fun t => (parseA t).2) s 44 1024 ∧ afL s = (pcs s 44).map (fun t => (parseA t).1) by unfold afE afL; rw [if_neg (fun h => h1 h.1), if_neg (fun h => h1 h.1)]; exact ⟨rfl, rfl⟩)
    have c3 := hide (unhide c2 w (Below.refl _ _))
    clear h1 ha hg hs hb0 c1 c2
    go_enter Tryd.func56, Tryd.ntmps56
    go_wp2_with fail
    refine (unhide c3).mono ?_
    rintro e w2 ⟨⟨v, rfl, k1, k2, k3⟩, hb2⟩
    have HH := hide (And.intro k1 (And.intro k2 (And.intro k3 hb2)))
    clear k1 k2 k3 hb2
    go_wp2_with fail
    go_ret2
    rw [(unhide HF).1, (unhide HF).2]
    exact ⟨⟨v, rfl, (unhide HH).1, (unhide HH).2.1, (unhide HH).2.2.1⟩, (unhide HH).2.2.2⟩

set_option maxHeartbeats 1000000 in
theorem ParseAtoms_any (s : ByteArray) (w : World) (hs : s.size ≤ 9223372036854775807) (ha : asc s) (hg : Glob w) :
    Calls Tryd.prog 16 #[.string s] w fun e w' => (∃ v, e = .returned (.tuple #[v, .int .i64 (afE s)]) ∧ (afE s = 0 → Ams w' v (afL s)) ∧ (afE s ≠ 0 → v = .slice none 0 0) ∧ (∀ g, v.ownBlock = some g → w.heap.size ≤ g)) ∧ Below w.heap.size w w' := by
  have c1 := hide (readFieldA_any s w hs ha hg)
  clear hs ha hg
  go_enter Tryd.func16, Tryd.ntmps16
  go_wp2_with fail
  refine (unhide c1).mono ?_
  rintro e w1 ⟨⟨v, rfl, h1, h2⟩, hb⟩
  have HH := hide (And.intro h1 (And.intro h2 hb))
  clear h1 h2 hb
  go_wp2_with fail
  go_ret2
  exact ⟨⟨v, rfl, (unhide HH).1, (unhide HH).2.1⟩, (unhide HH).2.2⟩

set_option maxHeartbeats 2000000 in
theorem readFieldN_any (s : ByteArray) (w : World) (hs : s.size ≤ 9223372036854775807) (ha : asc s) (hg : Glob w) :
    Calls Tryd.prog 58 #[.string s, .func (.func 59) #[] #[]] w fun e w' => (∃ v, e = .returned (.tuple #[v, .int .i64 (nfE s)]) ∧ (nfE s = 0 → Sts w' v (nfL s)) ∧ (nfE s ≠ 0 → v = .slice none 0 0) ∧ (∀ g, v.ownBlock = some g → w.heap.size ≤ g)) ∧ Below w.heap.size w w' := by
  have c1 := hide (cTrimB s w hs)
  have c2 := hide (fun (w' : World) (hb : Below w.heap.size w w') => readRowN_all s 44 1024 w' hs ha (hg.later hb))
  have hb0 := hide (empty_beq (trimB s))
  by_cases h1 : s.size ≤ 16777216
  · have h1' : ((s.size : Int) ≤ 16777216) := by omega
    by_cases h2 : (trimB s).size = 0
    · have HF := hide (show nfE s = 0 ∧ nfL s = [] by unfold nfE nfL; rw [if_pos ⟨h1, h2⟩, if_pos ⟨h1, h2⟩]; exact ⟨rfl, rfl⟩)
      have hb : ((trimB s).toList == []) = true := by rw [unhide hb0]; simpa using h2
      have hbl : (trimB s).toList = [] := eq_of_beq hb
      generalize trimB s = t at *
      clear h1 h2 ha hg hs c2 hb0
      go_enter Tryd.func58, Tryd.ntmps58
      go_wp2_with fail
      refine (unhide c1).mono ?_
      rintro e w1 ⟨rfl, hb1⟩
      have HB1 := hide hb1
      clear hb1
      go_wp2_with fail
      go_ret2
      rw [(unhide HF).1, (unhide HF).2]
      exact ⟨⟨_, rfl, fun _ => ⟨none, 0, rfl, by simp, fun i h => absurd h (Nat.not_lt_zero _)⟩, fun _ => rfl, fun g h => by cases h⟩, unhide HB1⟩
    · have HF := hide (show nfE s = rowE (fun t => (rdN t).2) s 44 1024 ∧ nfL s = (pcs s 44).map (fun t => (rdN t).1) by unfold nfE nfL; rw [if_neg (fun h => h2 h.2), if_neg (fun h => h2 h.2)]; exact ⟨rfl, rfl⟩)
      have hb : ((trimB s).toList == []) = false := by rw [unhide hb0]; simpa using h2
      generalize trimB s = t at *
      clear h1 h2 ha hg hs hb0
      go_enter Tryd.func58, Tryd.ntmps58
      go_wp2_with fail
      refine (unhide c1).mono ?_
      rintro e w1 ⟨rfl, hb1⟩
      have HB1 := hide hb1
      clear hb1
      go_wp2_with fail
      refine (unhide c2 _ (unhide HB1)).mono ?_
      rintro e w2 ⟨⟨v, rfl, k1, k2, k3⟩, hb2⟩
      have HH := hide (And.intro k1 (And.intro k2 (And.intro k3 hb2)))
      clear k1 k2 k3 hb2
      go_wp2_with fail
      go_ret2
      rw [(unhide HF).1, (unhide HF).2]
      exact ⟨⟨v, rfl, (unhide HH).1, (unhide HH).2.1, fun g e => Nat.le_trans (unhide HB1).size ((unhide HH).2.2.1 g e)⟩, bl_t (unhide HB1) (unhide HH).2.2.2⟩
  · have h1' : ¬ ((s.size : Int) ≤ 16777216) := by omega
    have HF := hide (show nfE s = rowE (fun t => (rdN t).2) s 44 1024 ∧ nfL s = (pcs s 44).map (fun t => (rdN t).1) by unfold nfE nfL; rw [if_neg (fun h => h1 h.1), if_neg (fun h => h1 h.1)]; exact ⟨rfl, rfl⟩)
    have c3 := hide (unhide c2 w (Below.refl _ _))
    clear h1 ha hg hs hb0 c1 c2
    go_enter Tryd.func58, Tryd.ntmps58
    go_wp2_with fail
    refine (unhide c3).mono ?_
    rintro e w2 ⟨⟨v, rfl, k1, k2, k3⟩, hb2⟩
    have HH := hide (And.intro k1 (And.intro k2 (And.intro k3 hb2)))
    clear k1 k2 k3 hb2
    go_wp2_with fail
    go_ret2
    rw [(unhide HF).1, (unhide HF).2]
    exact ⟨⟨v, rfl, (unhide HH).1, (unhide HH).2.1, (unhide HH).2.2.1⟩, (unhide HH).2.2.2⟩

set_option maxHeartbeats 1000000 in
theorem ParseNames_any (s : ByteArray) (w : World) (hs : s.size ≤ 9223372036854775807) (ha : asc s) (hg : Glob w) :
    Calls Tryd.prog 18 #[.string s] w fun e w' => (∃ v, e = .returned (.tuple #[v, .int .i64 (nfE s)]) ∧ (nfE s = 0 → Sts w' v (nfL s)) ∧ (nfE s ≠ 0 → v = .slice none 0 0) ∧ (∀ g, v.ownBlock = some g → w.heap.size ≤ g)) ∧ Below w.heap.size w w' := by
  have c1 := hide (readFieldN_any s w hs ha hg)
  clear hs ha hg
  go_enter Tryd.func18, Tryd.ntmps18
  go_wp2_with fail
  refine (unhide c1).mono ?_
  rintro e w1 ⟨⟨v, rfl, h1, h2⟩, hb⟩
  have HH := hide (And.intro h1 (And.intro h2 hb))
  clear h1 h2 hb
  go_wp2_with fail
  go_ret2
  exact ⟨⟨v, rfl, (unhide HH).1, (unhide HH).2.1⟩, (unhide HH).2.2⟩

set_option maxHeartbeats 1000000 in
theorem printFieldA_any (cl : List Am) (v : Value) (w : World) (hv : Ams w v cl) (hz : Szs cl) (hg : Glob w) :
    Calls Tryd.prog 67 #[v, .func (.func 28) #[] #[]] w fun e w' => e = .returned (.tuple #[.string (prA cl).1, .int .i64 (prA cl).2]) ∧ Below w.heap.size w w' := by
  have c1 := hide (printRowA_any cl v ⟨#[44, 32]⟩ 1024 w hv hz (by decide) (by decide) hg)
  have HF := hide (show prA cl = prR (fun a => (printA a).1) (fun a => (printA a).2) cl ⟨#[44, 32]⟩ 1024 from rfl)
  rcases hp : prR (fun a => (printA a).1) (fun a => (printA a).2) cl ⟨#[44, 32]⟩ 1024 with ⟨tx, e0⟩
  rw [hp] at c1 HF
  clear hz hg hp hv
  go_enter Tryd.func67, Tryd.ntmps67
  go_wp2_with fail
  refine (unhide c1).mono ?_
  rintro e w1 ⟨rfl, hb⟩
  have HB := hide hb
  clear hb
  go_wp2_with fail
  go_ret2
  rw [unhide HF]
  exact ⟨rfl, unhide HB⟩

set_option maxHeartbeats 1000000 in
theorem PrintAtoms_any (cl : List Am) (v : Value) (w : World) (hv : Ams w v cl) (hz : Szs cl) (hg : Glob w) :
    Calls Tryd.prog 35 #[v] w fun e w' => e = .returned (.tuple #[.string (prA cl).1, .int .i64 (prA cl).2]) ∧ Below w.heap.size w w' := by
  have c1 := hide (printFieldA_any cl v w hv hz hg)
  rcases hp : prA cl with ⟨tx, e0⟩
  rw [hp] at c1
  clear hz hg hp hv
  go_enter Tryd.func35, Tryd.ntmps35
  go_wp2_with fail
  refine (unhide c1).mono ?_
  rintro e w1 ⟨rfl, hb⟩
  have HB := hide hb
  clear hb
  go_wp2_with fail
  go_ret2
  exact ⟨rfl, unhide HB⟩

set_option maxHeartbeats 1000000 in
theorem printFieldN_any (cl : List ByteArray) (v : Value) (w : World) (hv : Sts w v cl) (hz : ∀ j (h : j < cl.length), cl[j].size ≤ maxLen) (hg : Glob w) :
    Calls Tryd.prog 68 #[v, .func (.func 69) #[] #[]] w fun e w' => e = .returned (.tuple #[.string (prNs cl).1, .int .i64 (prNs cl).2]) ∧ Below w.heap.size w w' := by
  have c1 := hide (printRowN_any cl v ⟨#[44, 32]⟩ 1024 w hv hz (by decide) (by decide) hg)
  have HF := hide (show prNs cl = prR (fun a => (prN a).1) (fun a => (prN a).2) cl ⟨#[44, 32]⟩ 1024 from rfl)
  rcases hp : prR (fun a => (prN a).1) (fun a => (prN a).2) cl ⟨#[44, 32]⟩ 1024 with ⟨tx, e0⟩
  rw [hp] at c1 HF
  clear hz hg hp hv
  go_enter Tryd.func68, Tryd.ntmps68
  go_wp2_with fail
  refine (unhide c1).mono ?_
  rintro e w1 ⟨rfl, hb⟩
  have HB := hide hb
  clear hb
  go_wp2_with fail
  go_ret2
  rw [unhide HF]
  exact ⟨rfl, unhide HB⟩

set_option maxHeartbeats 1000000 in
theorem PrintNames_any (cl : List ByteArray) (v : Value) (w : World) (hv : Sts w v cl) (hz : ∀ j (h : j < cl.length), cl[j].size ≤ maxLen) (hg : Glob w) :
    Calls Tryd.prog 37 #[v] w fun e w' => e = .returned (.tuple #[.string (prNs cl).1, .int .i64 (prNs cl).2]) ∧ Below w.heap.size w w' := by
  have c1 := hide (printFieldN_any cl v w hv hz hg)
  rcases hp : prNs cl with ⟨tx, e0⟩
  rw [hp] at c1
  clear hz hg hp hv
  go_enter Tryd.func37, Tryd.ntmps37
  go_wp2_with fail
  refine (unhide c1).mono ?_
  rintro e w1 ⟨rfl, hb⟩
  have HB := hide hb
  clear hb
  go_wp2_with fail
  go_ret2
  exact ⟨rfl, unhide HB⟩

end Go.Proofs.YtfembjjpmjfklaaDoor
