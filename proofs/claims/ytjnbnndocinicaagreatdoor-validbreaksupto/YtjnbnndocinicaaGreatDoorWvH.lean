import Derived.Test.YtjnbnndocinicaaGreatDoorWvG
namespace Go.Proofs.YtjnbnndocinicaaGreatDoor
open Go.RowKit Go.Maps

theorem fnew {wr w2 w3 : World} (k2 : Below wr.heap.size wr w2) (k3 : ∀ B, B ≤ wr.heap.size → Below B w2 w3) : Below wr.heap.size wr w3 := k2.trans (k3 _ (Nat.le_refl _))
theorem pathC_of {x : List Value} {s : Nm} (h : x[0]? = some (.string s)) : pathC x = s := by unfold pathC; rw [h]
set_option maxRecDepth 100000 in
set_option maxHeartbeats 8000000 in
theorem paths_any {w : World} {b3 : Nat} {v d1 d2 av : Value} {ps : List Pk} {k3 p : Nat} {q : Pk} (dv : Dv w b3 (fsH (spL ps ps.length)) k3) (sm : SmP ps) (pk : Pkl w v ps) (hq : ps[p]? = some q) :
    Calls Tryz.prog 36 #[.agg #[v, d1, d2, av, .map (some b3)], .int .i64 (p : Int)] w fun e w' => ∃ r, e = .returned r ∧ w'.ownsRow w.heap.size 59 6 r (paJ ps p q q.fs.length).length (ftC (paJ ps p q q.fs.length)) ∧ RowKit.Below w.heap.size w w' := by
  obtain ⟨i0, hi, hz0, hz1, hz2⟩ := info_parts2 infoFt
  have hpl := (List.getElem?_eq_some_iff.1 hq).1
  have hpn : (p : Int) < (ps.length : Int) := by omega
  obtain ⟨vb, vo, vc, cs, dd, rr, cc, pv, ff, rfl, hvb, hr, hpc, hll⟩ := pk.at2 hq
  obtain ⟨fa, fc, rfl⟩ : ∃ a c, ff = .slice a q.fs.length c := let ⟨a, c, e, _⟩ := hll.fl; ⟨a, c, e⟩
  have hc7 : w.cell? ⟨vb, vo + p * 43 + 7, none⟩ = some (.slice fa q.fs.length fc) := hr 7 _ hpc.c7
  have hmem := List.mem_of_getElem? hq
  have hNl : q.fs.length ≤ 1048576 := Nat.le_trans (le_sum (fun p : Pk => p.fs.length) hmem) sm.sf
  obtain ⟨W1, hW1⟩ : ∃ W, W = w.alloc (.cells #[.slice (some ⟨vb, vo, none⟩) ps.length vc, d1, d2, av, .map (some b3)] 62) := ⟨_, rfl⟩
  have hb1 : RowKit.Below w.heap.size w W1 := by rw [hW1]; exact (Below.refl _ w).alloc (Nat.le_refl _) _
  have hx1 : W1.heap[w.heap.size]? = some (.cells #[.slice (some ⟨vb, vo, none⟩) ps.length vc, d1, d2, av, .map (some b3)] 62 (0, 0)) := by rw [hW1]; exact World.alloc_heap_new w _
  have HFI := hide (show ∀ X, RowKit.Below w.heap.size w X → Fls X (.slice fa q.fs.length fc) q.fs from fun X hX => hll.fl.later hX)
  have HLK := hide (show ∀ (i : Nat) (x : List Value), q.fs[i]? = some x → ∃ (s : Nm) (t : Nat × Nat) (q2 : Pk), x[0]? = some (.string s) ∧ ps[t.1]? = some q2 ∧ paO ps p q i x = (if t = (p, i) then [] else [⟨5, q.nm, q.vr, i, q2.nm, q2.vr⟩]) ∧ ∀ X, RowKit.Below w.heap.size w X → (Instr.lookup 60 (.map (some b3)) (.string s) false).run Tryz.prog X = .ok (.agg #[.int .i64 (t.1 : Int), .int .i64 (t.2 : Int)]) X from fun i x hx => by
    obtain ⟨s, hs1, hs2⟩ := sm.f q hmem x (List.mem_of_getElem? hx)
    obtain ⟨t, ht1, ht2⟩ := fst1_some (spL_mem hq (spQ_mem hx) ps.length hpl)
    obtain ⟨_, q2, x2, h4, _, _⟩ := spL_inv _ ht2
    rw [pathC_of hs1] at ht1
    refine ⟨s, t, q2, hs1, h4, ?_, fun X hX => ?_⟩
    · unfold paO
      rw [pathC_of hs1, ht1]
      simp only
      unfold nmA vrA
      rw [h4]
    · rw [(dv.later hX).look1 hs2]
      unfold fsH
      rw [ht1]
      rfl)
  have HF := hide (show ∀ X, RowKit.Below w.heap.size w X → ∀ (i j : Nat) (q2 : Pk), ps[j]? = some q2 → Calls Tryz.prog 47 #[.agg #[.slice (some ⟨vb, vo, none⟩) ps.length vc, d1, d2, av, .map (some b3)], .int .i64 5, .int .i64 (p : Int), .int .i64 (i : Int), .int .i64 (j : Int)] X fun e w' => e = .returned (Ft.v ⟨5, q.nm, q.vr, i, q2.nm, q2.vr⟩) ∧ RowKit.Below X.heap.size X w' from fun X hX i j q2 h2 => fault_two 5 (i : Int) (pk.later hX) hq h2)
  have HIX := hide (show ∀ x : List Value, isF x → (Tryz.prog.info? 79).map (·.size) = some x.length from fun x hx => by rw [hx.1]; exact sizeF)
  obtain ⟨N, hN⟩ : ∃ N, N = q.fs.length := ⟨_, rfl⟩
  rw [← hN] at hc7 hNl HFI ⊢
  have HN := hide hN
  have HST := hide (Fs.start W1)
  have HW1 := hide (And.intro hb1 hx1)
  clear dv sm pk hq hr hpc hll hb1 hx1 hN hmem
  go_enter Tryz.func36, Tryz.ntmps36
  go_wp2_with fail
  rw [← hW1]
  clear hW1
  go_loopw [5, 17] (fun sv iv wr => ∃ i : Nat, iv = .int .i64 i ∧ i ≤ N ∧ Hid (Fs W1 wr sv (paJ ps p q i))) (fun _ iv _ => N - (intOf iv).toNat)
  case atStart => exact ⟨0, rfl, Nat.zero_le _, HST⟩
  case round =>
    clear HST
    obtain ⟨i, rfl, hile, HU⟩ := hrel
    have hu := unhide HU
    by_cases hlt : i < N
    · have hlt2 : (i : Int) < (N : Int) := by omega
      have hip : i < q.fs.length := by have := unhide HN; omega
      have hx : q.fs[i]? = some q.fs[i] := List.getElem?_eq_getElem hip
      generalize q.fs[i] = x at *
      obtain ⟨hxF, fb, fo, rfl, hfb, hfr⟩ := (unhide HFI wr (bl_t (unhide HW1).1 hu.bw)).at hx
      obtain ⟨s, t, q2, hxs, ht, hpo, hlk⟩ := unhide HLK i x hx
      obtain ⟨t1, t2⟩ := t
      have HR := hide hfr
      have HIF := hide (unhide HIX x hxF)
      have HXL := hide (show x.length = 34 from hxF.1)
      have HXO := hide (show ∀ v ∈ x, v.oneCell' = true from hxF.2.2)
      have hle := paJ_len ps p q i
      have HE := hide (show paJ ps p q (i + 1) = paJ ps p q i ++ (if (t1, t2) = (p, i) then [] else [⟨5, q.nm, q.vr, i, q2.nm, q2.vr⟩]) from by rw [paJ, hx]; simp only; rw [hpo])
      have HAT := hide (show ∀ X, RowKit.Below wr.heap.size wr X → X.cell? ⟨w.heap.size, 0, none⟩ = some (.slice (some ⟨vb, vo, none⟩) ps.length vc) ∧ X.cell? ⟨w.heap.size, 1, none⟩ = some d1 ∧ X.cell? ⟨w.heap.size, 2, none⟩ = some d2 ∧ X.cell? ⟨w.heap.size, 3, none⟩ = some av ∧ X.cell? ⟨w.heap.size, 4, none⟩ = some (.map (some b3)) ∧ w.heap.size < X.heap.size ∧ (Instr.lookup 60 (.map (some b3)) (.string s) false).run Tryz.prog X = .ok (.agg #[.int .i64 (t1 : Int), .int .i64 (t2 : Int)]) X from fun X hX => by
        have b := bl_t hu.bw hX
        have e := (b.block _ (blk_lt (unhide HW1).2)).trans (unhide HW1).2
        obtain ⟨s0, s1, s2, s3, s4⟩ := five e
        exact ⟨s0, s1, s2, s3, s4, blk_lt e, hlk X (bl_t (unhide HW1).1 b)⟩)
      have HFA := hide (show ∀ X, RowKit.Below wr.heap.size wr X → ∀ Y, RowKit.Below X.heap.size X Y → Calls Tryz.prog 47 #[.agg #[.slice (some ⟨vb, vo, none⟩) ps.length vc, d1, d2, av, .map (some b3)], .int .i64 5, .int .i64 (p : Int), .int .i64 (i : Int), .int .i64 (t1 : Int)] Y fun e w' => e = .returned (Ft.v ⟨5, q.nm, q.vr, i, q2.nm, q2.vr⟩) ∧ RowKit.Below Y.heap.size Y w' from fun X hX Y hY => unhide HF Y (bl_t (unhide HW1).1 (bl_t hu.bw (bl_t hX hY))) i t1 q2 ht)
      have hneq := fun X => spNeq (t1 : Int) (t2 : Int) (p : Int) (i : Int) X
      clear hfr hxF hx hip hpo hlk ht hfb
      by_cases ht : (t1, t2) = (p, i)
      · have hd : (!(decide ((t1 : Int) = (p : Int)) && decide ((t2 : Int) = (i : Int)))) = false := by
          injection ht with h1 h2
          subst h1 h2
          simp
        rw [hd] at hneq
        have HE2 := hide (show paJ ps p q (i + 1) = paJ ps p q i from by rw [unhide HE, if_pos ht, List.append_nil])
        clear ht hd HE
        go_wp2_with (first | ((with_reducible refine wpList_load_p (op := { dst := some 21, op := Op.load 79 (Operand.tmp 20), type := 79, pos := "check.go:80", after := #[{ on := 1, ground := Ground.data }], guard := none }) ?pxa 79 (.tmp 20) ?pxb fb (fo + i * 34) ?pxc x _ (unhide HR) Tryz.underlying79 ?pxd (unhide HIF) ?pxe); (case pxa => rfl); (case pxb => rfl); (case pxc => rfl); (case pxd => rfl)) | (with_reducible refine f_alloc rfl rfl ?_; intro w2 zc bk2 k2 z2) | ((with_reducible refine f_store _ _ rfl rfl wr.heap.size rfl x rfl (unhide HXL) (unhide HXO) zc bk2 ?_); intro w3 bk3 k3; have hbel := fnew k2 k3; obtain ⟨s0, s1, s2, s3, s4, hzw, lk⟩ := unhide HAT w3 hbel; have c0 := bk3.path hxs; have hzg := blk_lt bk3.at_; have HU2 := hide (hu.later hbel); have HFA2 := hide (unhide HFA w3 hbel); clear k2 k3 bk2 bk3 z2 hbel))
        have HU3 := hide ((unhide HU2).later ((Below.refl _ w3).alloc (Nat.le_refl _) (.cells #[.int .i64 (t1 : Int), .int .i64 (t2 : Int)] 81)))
        go_roundw
        case rel => exact ⟨i + 1, by go_num, by omega, by rw [unhide HE2]; exact HU3⟩
        case measure => simp [intOf]; omega
      · have hd : (!(decide ((t1 : Int) = (p : Int)) && decide ((t2 : Int) = (i : Int)))) = true := by
          rw [Bool.not_eq_true', Bool.and_eq_false_iff]
          by_cases h1 : (t1 : Int) = (p : Int)
          · right
            refine decide_eq_false fun h2 => ht ?_
            rw [show t1 = p by omega, show t2 = i by omega]
          · exact .inl (decide_eq_false h1)
        rw [hd] at hneq
        have HE2 := hide (show paJ ps p q (i + 1) = paJ ps p q i ++ [⟨5, q.nm, q.vr, i, q2.nm, q2.vr⟩] from by rw [unhide HE, if_neg ht])
        clear ht hd HE
        generalize paJ ps p q i = l at *
        go_wp2_with (first | ((with_reducible refine wpList_load_p (op := { dst := some 21, op := Op.load 79 (Operand.tmp 20), type := 79, pos := "check.go:80", after := #[{ on := 1, ground := Ground.data }], guard := none }) ?pya 79 (.tmp 20) ?pyb fb (fo + i * 34) ?pyc x _ (unhide HR) Tryz.underlying79 ?pyd (unhide HIF) ?pye); (case pya => rfl); (case pyb => rfl); (case pyc => rfl); (case pyd => rfl)) | (with_reducible refine f_alloc rfl rfl ?_; intro w2 zc bk2 k2 z2) | ((with_reducible refine f_store _ _ rfl rfl wr.heap.size rfl x rfl (unhide HXL) (unhide HXO) zc bk2 ?_); intro w3 bk3 k3; have hbel := fnew k2 k3; obtain ⟨s0, s1, s2, s3, s4, hzw, lk⟩ := unhide HAT w3 hbel; have c0 := bk3.path hxs; have hzg := blk_lt bk3.at_; have HU2 := hide (hu.later hbel); have HFA2 := hide (unhide HFA w3 hbel); clear k2 k3 bk2 bk3 z2 hbel) | (go_at_call 47; refine (unhide HFA2 _ ((Below.refl _ w3).alloc (Nat.le_refl _) _)).mono ?_; rintro e w5 ⟨rfl, hb⟩; have HU3 := hide ((unhide HU2).later (bl_t ((Below.refl _ w3).alloc (Nat.le_refl _) _) hb)); clear hb; have hbz := (unhide HU3).bw.size) | (at_builtin; go_must (refine wpList_append_own _ rfl _ _ 56 rfl W1.heap.size 59 i0 (.agg #[.int .i64 0, .string ⟨#[]⟩, .string ⟨#[]⟩, .int .i64 0, .string ⟨#[]⟩, .string ⟨#[]⟩]) 6 80 Tryz.underlying56 hi hz0 hz1 hz2 rfl (by decide) _ _ _ rfl ((unhide HU3).row.alloc _) ⟨w5.heap.size, 0, none⟩ 1 1 (Ft.cs ⟨5, q.nm, q.vr, i, q2.nm, q2.vr⟩) rfl rfl (news_ft w5 ⟨5, q.nm, q.vr, i, q2.nm, q2.vr⟩ 59) (one_ft _) (by unfold maxLen; omega) (by omega) (by simp; omega) ?_); intro v' w9 hown hgrow _; have HU9 := hide ((unhide HU3).grow hown hgrow); clear hown hgrow))
        go_roundw
        case rel => exact ⟨i + 1, by go_num, by omega, by rw [unhide HE2]; exact HU9⟩
        case measure => simp [intOf]; omega
    · obtain rfl : i = N := by omega
      go_wp2_with fail
      go_ret
      refine ⟨_, rfl, ?_, bl_t (unhide HW1).1 hu.bw⟩
      exact row_lo2 hu.row (unhide HW1).1.size
end Go.Proofs.YtjnbnndocinicaaGreatDoor
