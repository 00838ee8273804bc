import Derived.Test.YtboajcpfoejfeaaTzG
namespace Go.Proofs.Ytboajcpfoejfeaa
open Go.RowKit Go.Maps

/-- WHAT PUT ANSWERS. -/
def Po (w w' : World) (x : Nm) (L : List Nm) (e : Ending) : Prop := ∃ (r : Value) (b : Bool), e = .returned (.tuple #[r, .bool b]) ∧ ((b = false ∧ x ∈ L) ∨ (b = true ∧ ∃ l', Ris l' (L ++ [x]) ∧ x ∉ L ∧ Pr w' w.heap.size r l'))
theorem own_base {W : World} {b e size n : Nat} {v : Value} {xs : List Value} (h : W.ownsRow (b + 1) e size v n xs) : W.ownsRow b e size v n xs := by
  refine ⟨h.1, ?_⟩
  rcases h.2 with h' | ⟨g, cap, cur, h1, h2, h3⟩
  · exact .inl h'
  · exact .inr ⟨g, cap, cur, h1, by omega, h3⟩
set_option maxRecDepth 100000 in
set_option maxHeartbeats 4000000 in
theorem put_any {w : World} {lo : Nat} {v : Value} {l L : List Nm} (x : Nm) (hl : l.length ≤ 2513169434843) (hr : Ris l L) (h : Pr w lo v l) :
    Calls Try.prog 21 #[v, .agg (pF x).cs.toArray] w fun e w' => Below w.heap.size w w' ∧ Po w w' x L e := by
  obtain ⟨a, c, rfl⟩ := owns_form h
  obtain ⟨zc, hi3, hzl, _⟩ := infoFz
  obtain ⟨i0, hi0, hz0, hz1, hz2⟩ := info_parts hi3
  have HP := hide (show ∀ i (hi : i < l.length), ∃ b, a = some ⟨b, 0, none⟩ ∧ b < w.heap.size ∧ ∀ X, Below w.heap.size w X → X.rangeAt b (i * 34) (pF l[i]).cs from fun i hi => by
    obtain ⟨b, e, hb, hr⟩ := h.at hi
    exact ⟨b, e, hb, fun X hX j u hj => (hX.cell (p := ⟨b, _, none⟩) hb).trans (hr j u hj)⟩)
  have HR := hide hr
  have HL := hide (pF_len x)
  have HI := hide (show (Try.prog.info? 32).map (·.size) = some (pF x).cs.length by rw [pF_len]; exact infoF)
  have HC0 := hide (show (pF x).cs[0]? = some (.string x) from rfl)
  have H1 := hide (pF x).one
  have HG := hide (show ∀ (wr w5 w9 : World) (mv v' : Value) (M : List Nm), Pm w wr (pF x).cs mv M → Below wr.heap.size wr w5 → w9.ownsRow (w.heap.size + 1) 32 34 v' (M.length + 1) (lC M ++ (pF x).cs) → w5.grownBy w9 mv.ownBlock → Pm w w9 (pF x).cs v' (M ++ [x]) from fun wr w5 w9 mv v' M q1 q2 q3 q4 => q1.grow q2 q3 q4)
  obtain ⟨N, hN⟩ : ∃ N, N = l.length := ⟨_, rfl⟩
  have HN := hide hN
  rw [← hN] at hl ⊢
  have HST := hide (show Pm w (w.alloc (.cells (pF x).cs.toArray 32)) (pF x).cs (.slice none 0 0) [] from ⟨⟨rfl, .inl ⟨rfl, rfl⟩⟩, heap_alloc_new w _, (Below.refl _ _).alloc (Nat.le_refl _) _⟩)
  have HSP := hide (Pst.start l x)
  generalize (pF x).cs = cs at *
  clear h hr hN hi3
  go_enter Try.func21, Try.ntmps21
  go_wp2_with fail
  go_loopg [6, 7, 8] N (fun gq mv bv iv wr => ∃ (i : Nat) (M : List Nm) (b : Bool), bv = .bool b ∧ iv = .int .i64 i ∧ i ≤ N ∧ N - i ≤ gq ∧ Hid (Pm w wr cs mv M) ∧ Hid (Pst l x i M b))
  case atStart => exact ⟨0, [], false, rfl, by go_num, by omega, by omega, HST, HSP⟩
  case round =>
    clear HST HSP
    obtain ⟨i, M, b, rfl, rfl, hi, hg, HM, HS⟩ := hrel
    have hml : M.length ≤ N + 1 := by have := (unhide HS).len; have := unhide HN; omega
    have HBX := hide (show wr.rangeAt w.heap.size 0 cs from fun j u hj => by rw [Nat.zero_add, (cell_blk (unhide HM).box j).1]; simpa using hj)
    by_cases hlt : i < N
    · have hin : (i : Int) < (N : Int) := by omega
      have hil : i < l.length := by have := unhide HN; omega
      obtain ⟨g, rfl, hgw, hra⟩ := unhide HP i hil
      have hr := hra wr (unhide HM).bw
      have HYA := hide hra
      clear hra
      have hbl := blk_lt (unhide HM).box
      have hgl : g < wr.heap.size := Nat.lt_of_lt_of_le hgw (unhide HM).bw.size
      have HALL := hide (fun X (hX : Below wr.heap.size wr X) => (⟨(unhide HM).later hX, fun j u hj => (hX.cell (p := ⟨w.heap.size, _, none⟩) hbl).trans (unhide HBX j u hj), fun j u hj => (hX.cell (p := ⟨g, _, none⟩) hgl).trans (hr j u hj), (hX.cell (p := ⟨w.heap.size, _, none⟩) hbl).trans (unhide HBX 0 _ (unhide HC0)), (hX.cell (p := ⟨g, _, none⟩) hgl).trans (hr 0 _ rfl)⟩ : Pm w X cs _ M ∧ X.rangeAt w.heap.size 0 cs ∧ X.rangeAt g (i * 34) (pF l[i]).cs ∧ X.cell? ⟨w.heap.size, 0, none⟩ = some (.string x) ∧ X.cell? ⟨g, i * 34, none⟩ = some (.string l[i])))
      obtain ⟨_, _, _, hx0, hy0⟩ := unhide HALL wr (Below.refl _ _)
      have HLY := hide (pF_len l[i])
      have HIY := hide (show (Try.prog.info? 32).map (·.size) = some (pF l[i]).cs.length by rw [pF_len]; exact infoF)
      have H1Y := hide (pF l[i]).one
      have HGY := hide (show ∀ (wr w5 w9 : World) (mv v' : Value) (M : List Nm), Pm w wr cs mv M → Below wr.heap.size wr w5 → w9.ownsRow (w.heap.size + 1) 32 34 v' (M.length + 1) (lC M ++ (pF l[i]).cs) → w5.grownBy w9 mv.ownBlock → Pm w w9 cs v' (M ++ [l[i]]) from fun wr w5 w9 mv v' M q1 q2 q3 q4 => q1.grow q2 q3 q4)
      have hE := ba_if l[i] x
      have hL := lt_iff l[i] x
      have HS1 := hide (fun (h : Pst l x i M false) (k : lt x l[i]) => h.lay (unhide HR).up hil k)
      have HS2 := hide (fun (h : Pst l x i M false) (k : lt l[i] x) => h.pass hil k)
      have HS3 := hide (fun (h : Pst l x i M true) => h.more hil)
      have HMEM := hide (show l[i] ∈ L from ((unhide HR).mem _).1 (List.getElem_mem hil))
      generalize (pF l[i]).cs = ds at *
      generalize l[i] = y at *
      clear hr
      by_cases hxy : y = x
      · have HIN := hide (show x ∈ L by rw [← hxy]; exact unhide HMEM)
        rw [decide_eq_true hxy] at hE
        clear hxy hL HS1 HS2 HS3 HGY
        go_wp2_with fail
        go_quiet (fail)
        go_wp2
        go_ret2
        exact ⟨bl_t (unhide HM).bw (bl_drewN _ _), _, false, rfl, .inl ⟨rfl, unhide HIN⟩⟩
      · rw [decide_eq_false hxy] at hE
        cases b with
        | false =>
          by_cases hyx : lt y x
          · rw [decide_eq_true hyx] at hL
            have HS4 := hide (unhide HS2 (unhide HS) hyx)
            clear hxy hyx HS1 HS2 HS3 HMEM
            go_wp2_with fail
            go_quiet (fail)
            generalize hW1 : World.drewN wr nq = W1
            have HA1 := hide (unhide HALL W1 (by rw [← hW1]; exact bl_drewN _ _))
            have HB1 := hide (show Below wr.heap.size wr W1 from by rw [← hW1]; exact bl_drewN _ _)
            clear hW1
            obtain ⟨hm1, hb1, hr1, hx1, hy1⟩ := unhide HA1
            have HM1 := hide hm1
            have HX1 := hide hb1
            have HY1 := hide hr1
            clear hm1 hb1 hr1 HA1
            go_wp2
            go_quiet (fail)
            generalize hW2 : World.drewN W1 nq = W2
            have HA2 := hide (unhide HALL W2 (by rw [← hW2]; exact bl_t (unhide HB1) (bl_drewN _ _)))
            have HB2 := hide (show Below wr.heap.size wr W2 from by rw [← hW2]; exact bl_t (unhide HB1) (bl_drewN _ _))
            clear hW2
            obtain ⟨hm2, hb2, hr2, hx2, hy2⟩ := unhide HA2
            have HM2 := hide hm2
            have HX2 := hide hb2
            have HY2 := hide hr2
            clear hm2 hb2 hr2 HA2
            go_wp2_with (first
              | ((with_reducible refine wpList_load_p (o := { dst := some 44, op := Op.load 32 (Operand.tmp 43), type := 32, pos := "ref.go:129", after := #[{ on := 3, ground := Ground.data }], guard := none }) ?q5a 32 (.tmp 43) ?q5b g (i * 34) ?q5c ds _ (unhide HY2) Try.underlying32 ?q5d (unhide HIY) ?q5e); (case q5a => rfl); (case q5b => rfl); (case q5c => rfl); (case q5d => rfl))
              | (refine f_sl1 _ rfl rfl ds rfl (unhide HLY) ?_; intro w5 r5 k5 z5; have HK5 := hide k5; have HR5 := hide r5; have HP5 := hide ((unhide HM2).later k5); have hz5 := k5.size; clear r5 k5)
              | (at_builtin; go_must (refine wpList_append_own _ rfl _ _ 22 rfl (w.heap.size + 1) 32 i0 (.agg zc.toArray) 34 56 Try.underlying22 hi0 hz0 hz1 hz2 (by simp [Value.cells, hzl]) (by decide) _ _ _ rfl (unhide HP5).row ⟨W2.heap.size, 0, none⟩ 1 1 ds rfl (by rw [unhide HLY]) (fun k u hk => by have := unhide HR5 k u hk; rw [Addr.add_mid]; exact this) (unhide H1Y) (by unfold maxLen; omega) (by omega) (by have := blk_lt (unhide HP5).box; omega) ?_); intro v5 w59 hown hgrow _; have HE5 := hide (unhide HGY _ _ _ _ _ _ (unhide HM2) (unhide HK5) hown hgrow); clear hown hgrow HP5 HK5 HR5))
            go_roundg (N - (i + 1))
            case measure => omega
            case rel => exact ⟨i + 1, _, false, rfl, by go_num, by omega, by omega, HE5, HS4⟩
          · rw [decide_eq_false hyx] at hL
            have HS4 := hide (unhide HS1 (unhide HS) (lt_tri hyx hxy))
            have hml2 : (M ++ [x]).length ≤ N + 2 := by rw [List.length_append]; simp only [List.length_singleton]; omega
            clear hxy hyx HS1 HS2 HS3 HMEM
            go_wp2_with fail
            go_quiet (fail)
            generalize hW1 : World.drewN wr nq = W1
            have HA1 := hide (unhide HALL W1 (by rw [← hW1]; exact bl_drewN _ _))
            have HB1 := hide (show Below wr.heap.size wr W1 from by rw [← hW1]; exact bl_drewN _ _)
            clear hW1
            obtain ⟨hm1, hb1, hr1, hx1, hy1⟩ := unhide HA1
            have HM1 := hide hm1
            have HX1 := hide hb1
            have HY1 := hide hr1
            clear hm1 hb1 hr1 HA1
            go_wp2
            go_quiet (fail)
            generalize hW2 : World.drewN W1 nq = W2
            have HA2 := hide (unhide HALL W2 (by rw [← hW2]; exact bl_t (unhide HB1) (bl_drewN _ _)))
            have HB2 := hide (show Below wr.heap.size wr W2 from by rw [← hW2]; exact bl_t (unhide HB1) (bl_drewN _ _))
            clear hW2
            obtain ⟨hm2, hb2, hr2, hx2, hy2⟩ := unhide HA2
            have HM2 := hide hm2
            have HX2 := hide hb2
            have HY2 := hide hr2
            clear hm2 hb2 hr2 HA2
            go_wp2_with (first
              | ((with_reducible refine wpList_load_p (o := { dst := some 37, op := Op.load 32 (Operand.tmp 3), type := 32, pos := "ref.go:126", after := #[], guard := none }) ?q6a 32 (.tmp 3) ?q6b w.heap.size (0) ?q6c cs _ (unhide HX2) Try.underlying32 ?q6d (unhide HI) ?q6e); (case q6a => rfl); (case q6b => rfl); (case q6c => rfl); (case q6d => rfl))
              | (refine f_sl1 _ rfl rfl cs rfl (unhide HL) ?_; intro w6 r6 k6 z6; have HK6 := hide k6; have HR6 := hide r6; have HP6 := hide ((unhide HM2).later k6); have hz6 := k6.size; clear r6 k6)
              | (at_builtin; (refine wpList_append_own _ rfl _ _ 22 rfl (w.heap.size + 1) 32 i0 (.agg zc.toArray) 34 56 Try.underlying22 hi0 hz0 hz1 hz2 (by simp [Value.cells, hzl]) (by decide) _ _ _ rfl (unhide HP6).row ⟨W2.heap.size, 0, none⟩ 1 1 cs rfl (by rw [unhide HL]) (fun k u hk => by have := unhide HR6 k u hk; rw [Addr.add_mid]; exact this) (unhide H1) (by unfold maxLen; omega) (by omega) (by have := blk_lt (unhide HP6).box; omega) ?_); intro v6 w69 hown hgrow _; have HE5 := hide (unhide HG _ _ _ _ _ _ (unhide HM2) (unhide HK6) hown hgrow); clear hown hgrow HP6 HK6 HR6)
              | ((with_reducible refine wpList_load_p (o := { dst := some 44, op := Op.load 32 (Operand.tmp 43), type := 32, pos := "ref.go:129", after := #[{ on := 3, ground := Ground.data }], guard := none }) ?q7a 32 (.tmp 43) ?q7b g (i * 34) ?q7c ds _ (unhide HYA _ (unhide HE5).bw) Try.underlying32 ?q7d (unhide HIY) ?q7e); (case q7a => rfl); (case q7b => rfl); (case q7c => rfl); (case q7d => rfl))
              | (refine f_sl1 _ rfl rfl ds rfl (unhide HLY) ?_; intro w7 r7 k7 z7; have HK7 := hide k7; have HR7 := hide r7; have HP7 := hide ((unhide HE5).later k7); have hz7 := k7.size; clear r7 k7)
              | (at_builtin; go_must (refine wpList_append_own _ rfl _ _ 22 rfl (w.heap.size + 1) 32 i0 (.agg zc.toArray) 34 56 Try.underlying22 hi0 hz0 hz1 hz2 (by simp [Value.cells, hzl]) (by decide) _ _ _ rfl (unhide HP7).row ⟨w69.heap.size, 0, none⟩ 1 1 ds rfl (by rw [unhide HLY]) (fun k u hk => by have := unhide HR7 k u hk; rw [Addr.add_mid]; exact this) (unhide H1Y) (by unfold maxLen; omega) (by omega) (by have := blk_lt (unhide HP7).box; omega) ?_); intro v7 w79 hown hgrow _; have HE7 := hide (unhide HGY _ _ _ _ _ _ (unhide HE5) (unhide HK7) hown hgrow); clear hown hgrow HP7 HK7 HR7))
            go_roundg (N - (i + 1))
            case measure => omega
            case rel => exact ⟨i + 1, _, true, rfl, by go_num, by omega, by omega, HE7, HS4⟩
        | true =>
          have HS4 := hide (unhide HS3 (unhide HS))
          clear hxy hL HS1 HS2 HS3 HMEM
          go_wp2_with fail
          go_quiet (fail)
          generalize hW1 : World.drewN wr nq = W1
          have HA1 := hide (unhide HALL W1 (by rw [← hW1]; exact bl_drewN _ _))
          have HB1 := hide (show Below wr.heap.size wr W1 from by rw [← hW1]; exact bl_drewN _ _)
          clear hW1
          obtain ⟨hm1, hb1, hr1, hx1, hy1⟩ := unhide HA1
          have HM1 := hide hm1
          have HX1 := hide hb1
          have HY1 := hide hr1
          clear hm1 hb1 hr1 HA1
          go_wp2
          go_quiet (fail)
          generalize hW2 : World.drewN W1 nq = W2
          have HA2 := hide (unhide HALL W2 (by rw [← hW2]; exact bl_t (unhide HB1) (bl_drewN _ _)))
          have HB2 := hide (show Below wr.heap.size wr W2 from by rw [← hW2]; exact bl_t (unhide HB1) (bl_drewN _ _))
          clear hW2
          obtain ⟨hm2, hb2, hr2, hx2, hy2⟩ := unhide HA2
          have HM2 := hide hm2
          have HX2 := hide hb2
          have HY2 := hide hr2
          clear hm2 hb2 hr2 HA2
          go_wp2_with (first
            | ((with_reducible refine wpList_load_p (o := { dst := some 44, op := Op.load 32 (Operand.tmp 43), type := 32, pos := "ref.go:129", after := #[{ on := 3, ground := Ground.data }], guard := none }) ?q8a 32 (.tmp 43) ?q8b g (i * 34) ?q8c ds _ (unhide HY2) Try.underlying32 ?q8d (unhide HIY) ?q8e); (case q8a => rfl); (case q8b => rfl); (case q8c => rfl); (case q8d => rfl))
            | (refine f_sl1 _ rfl rfl ds rfl (unhide HLY) ?_; intro w8 r8 k8 z8; have HK8 := hide k8; have HR8 := hide r8; have HP8 := hide ((unhide HM2).later k8); have hz8 := k8.size; clear r8 k8)
            | (at_builtin; go_must (refine wpList_append_own _ rfl _ _ 22 rfl (w.heap.size + 1) 32 i0 (.agg zc.toArray) 34 56 Try.underlying22 hi0 hz0 hz1 hz2 (by simp [Value.cells, hzl]) (by decide) _ _ _ rfl (unhide HP8).row ⟨W2.heap.size, 0, none⟩ 1 1 ds rfl (by rw [unhide HLY]) (fun k u hk => by have := unhide HR8 k u hk; rw [Addr.add_mid]; exact this) (unhide H1Y) (by unfold maxLen; omega) (by omega) (by have := blk_lt (unhide HP8).box; omega) ?_); intro v8 w89 hown hgrow _; have HE5 := hide (unhide HGY _ _ _ _ _ _ (unhide HM2) (unhide HK8) hown hgrow); clear hown hgrow HP8 HK8 HR8))
          go_roundg (N - (i + 1))
          case measure => omega
          case rel => exact ⟨i + 1, _, true, rfl, by go_num, by omega, by omega, HE5, HS4⟩
    · obtain rfl : i = N := by omega
      cases b with
      | false =>
        obtain ⟨hq1, hq2⟩ := (show Pst l x l.length M false from by have := unhide HS; rw [unhide HN] at this; exact this).end1 (unhide HR)
        have HQ := hide (And.intro hq1 hq2)
        clear hq1 hq2 HS
        go_wp2_with (first
          | ((with_reducible refine wpList_load_p (o := { dst := some 50, op := Op.load 32 (Operand.tmp 3), type := 32, pos := "ref.go:132", after := #[], guard := none }) ?q4a 32 (.tmp 3) ?q4b w.heap.size (0) ?q4c cs _ (unhide HBX) Try.underlying32 ?q4d (unhide HI) ?q4e); (case q4a => rfl); (case q4b => rfl); (case q4c => rfl); (case q4d => rfl))
          | (refine f_sl1 _ rfl rfl cs rfl (unhide HL) ?_; intro w4 r4 k4 z4; have HK4 := hide k4; have HR4 := hide r4; have HP4 := hide ((unhide HM).later k4); have hz4 := k4.size; clear r4 k4)
          | (at_builtin; go_must (refine wpList_append_own _ rfl _ _ 22 rfl (w.heap.size + 1) 32 i0 (.agg zc.toArray) 34 56 Try.underlying22 hi0 hz0 hz1 hz2 (by simp [Value.cells, hzl]) (by decide) _ _ _ rfl (unhide HP4).row ⟨wr.heap.size, 0, none⟩ 1 1 cs rfl (by rw [unhide HL]) (fun k u hk => by have := unhide HR4 k u hk; rw [Addr.add_mid]; exact this) (unhide H1) (by unfold maxLen; omega) (by omega) (by have := blk_lt (unhide HP4).box; omega) ?_); intro v4 w49 hown hgrow _; have HE5 := hide (unhide HG _ _ _ _ _ _ (unhide HM) (unhide HK4) hown hgrow); clear hown hgrow HP4 HK4 HR4))
        go_ret2
        exact ⟨(unhide HE5).bw, _, true, rfl, .inr ⟨rfl, _, (unhide HQ).1, (unhide HQ).2, own_base (unhide HE5).row⟩⟩
      | true =>
        obtain ⟨hq1, hq2⟩ := (show Pst l x l.length M true from by have := unhide HS; rw [unhide HN] at this; exact this).end2 (unhide HR)
        have HQ := hide (And.intro hq1 hq2)
        clear hq1 hq2 HS
        go_wp2_with fail
        go_ret2
        exact ⟨(unhide HM).bw, _, true, rfl, .inr ⟨rfl, _, (unhide HQ).1, (unhide HQ).2, own_base (unhide HM).row⟩⟩
end Go.Proofs.Ytboajcpfoejfeaa
