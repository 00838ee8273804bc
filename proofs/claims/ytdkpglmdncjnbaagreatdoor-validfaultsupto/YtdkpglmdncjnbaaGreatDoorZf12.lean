import Derived.Test.YtdkpglmdncjnbaaGreatDoorZf11
namespace Go.Proofs.YtdkpglmdncjnbaaGreatDoor
open Go.RowKit Go.Maps Go.Shelf
abbrev y12_1 : Oper := ⟨some 28, .load 48 (.tmp 2), 48, "set.go:37", #[], none⟩
abbrev y12_2 : Oper := ⟨some 29, .fieldAddr 62 (.tmp 1) 0, 0, "set.go:37", #[], none⟩
abbrev y12_3 : Oper := ⟨some 30, .load 22 (.tmp 29), 22, "set.go:37", #[⟨1, .data⟩], none⟩
abbrev y12_4 : Oper := ⟨some 31, .move (.tmp 7), 3, "set.go:37", #[], none⟩
abbrev y12_5 : Oper := ⟨some 32, .indexAddr 22 (.tmp 30) (.tmp 31), 0, "set.go:37", #[⟨2, .data⟩, ⟨3, .data⟩], none⟩
abbrev y12_6 : Oper := ⟨some 33, .load 46 (.tmp 32), 46, "set.go:37", #[⟨4, .data⟩], none⟩
abbrev y12_7 : Oper := ⟨some 34, .call { callee := .value (.func 76), args := #[.tmp 28, .tmp 33], argTypes := #[48, 46] }, 4, "set.go:37", #[⟨0, .data⟩, ⟨5, .data⟩], none⟩
abbrev y12_8 : Oper := ⟨some 35, .move (.tmp 34), 4, "set.go:37", #[⟨6, .data⟩, ⟨6, .chain⟩], none⟩
abbrev y12_9 : Oper := ⟨some 36, .move (.tmp 0), 133, "set.go:37", #[⟨7, .guard⟩], some (7, true)⟩
abbrev y12_10 : Oper := ⟨some 37, .move (.tmp 7), 3, "set.go:37", #[⟨7, .guard⟩], some (7, true)⟩
abbrev y12_11 : Oper := ⟨some 38, .call { callee := .value (.tmp 36), args := #[.tmp 37], argTypes := #[3] }, 4, "set.go:37", #[⟨8, .data⟩, ⟨9, .data⟩, ⟨7, .chain⟩, ⟨7, .guard⟩], some (7, true)⟩
abbrev y12_12 : Oper := ⟨some 39, .unOp .not 4 (.tmp 38), 4, "set.go:37", #[⟨10, .data⟩, ⟨7, .guard⟩], some (7, true)⟩
abbrev y12_13 : Oper := ⟨some 40, .pick (.tmp 35) (.tmp 39) (.const (Value.bool false)), 4, "set.go:37", #[⟨7, .data⟩, ⟨11, .data⟩], none⟩
attribute [local go_sem] Oper.semAt_some
attribute [local simp] wide_fn
attribute [local go_sem] wide_fn
theorem wpIn_load_run {F : Fence} {n : Nat} {P : Program} {o : Oper} {a : Act} {w : World} {v : Value} {K : Act → World → Prop} {Q : Exit → Act → World → Prop} (ty : TypeId) (x : Operand) (ho : o.op = .load ty x) (vx : Value) (hx : a.eval x = vx)
 (hr : (Instr.loadAt ty vx).run P w = .ok v w) (h : K (a.put o.dst v) w) : o.wpIn F n P a w K Q := by
 unfold Oper.wpIn
 refine ⟨by simp [Oper.about, ho], ?_⟩
 rw [Oper.semAt_plain F _ _ (by rw [ho]; intro c hc'; cases hc')]
 simp only [execOp, ho, hx, hr, Result.andThen_ok, Sem.run_bind, Sem.run_pure]
 exact h
set_option maxRecDepth 100000 in
set_option maxHeartbeats 8000000 in
theorem rg26t {n l : Nat} {Q : Exit → Act → World → Prop} (hQ : ∀ c (d : Option Tmp) v a w, Q (.panic c) (a.put d v) w → Q (.panic c) a w) {v3 v4 v5 v6 v8 v9 v10 v11 v12 v13 v14 v15 v16 v17 v18 v19 v20 v21 v22 v23 v24 v25 v26 v27 v28 v29 v30 v31 v32 v33 v34 v35 v36 v37 v38 v39 v40 v41 v42 : Value} {ds : List Deferred} {Bs Ba b o NN vc p : Nat} {an bd : ByteArray} {op : Int} {cs : List Value} {W : World}
 (ha0 : W.cell? ⟨Ba, 0, none⟩ = some (.string an)) (ha1 : W.cell? ⟨Ba, 1, none⟩ = some (.int .i64 op)) (ha2 : W.cell? ⟨Ba, 2, none⟩ = some (.string bd)) (hs0 : W.cell? ⟨Bs, 0, none⟩ = some (.slice (some ⟨b, o, none⟩) NN vc)) (hpn : (p : Int) < (NN : Int)) (hld : (Instr.loadAt 46 (.pointer (some ⟨b, o + p * 43, none⟩))).run Tryz.prog W = .ok (.agg cs.toArray) W)
 (hM : Calls Tryz.prog 76 #[.agg #[.string an, .int .i64 op, .string bd], .agg cs.toArray] W fun e w' => e = .returned (.bool true) ∧ RowKit.Below W.heap.size W w')
 {R : World → Prop} (hY : ∀ W2, RowKit.Below W.heap.size W W2 → YieldAt Fence.wide (n - 1) Tryz.prog l #[.int .i64 (p : Int)] W2 fun e W3 => e = .returned (.bool false) ∧ R W3)
 (hKEY : ∀ W3, R W3 → Q .normal { tmps := #[.func (.yield l) #[] #[], .pointer (some ⟨Bs, 0, none⟩), .pointer (some ⟨Ba, 0, none⟩), v3, v4, v5, v6, .int .i64 (p : Int), v8, v9, v10, v11, v12, v13, v14, v15, v16, v17, v18, v19, v20, v21, v22, v23, v24, v25, v26, v27, .agg #[.string an, .int .i64 op, .string bd], .pointer (some ⟨Bs, 0, none⟩), .slice (some ⟨b, o, none⟩) NN vc, .int .i64 (p : Int), .pointer (some ⟨b, o + p * 43, none⟩), .agg cs.toArray, .bool true, .bool true, .func (.yield l) #[] #[], .int .i64 (p : Int), .bool false, .bool true, .bool true, v41, v42], defers := ds } W3) :
 wpAnyIn Fence.wide n Tryz.prog .any #[y12_1, y12_2, y12_3, y12_4, y12_5, y12_6, y12_7, y12_8, y12_9, y12_10, y12_11, y12_12, y12_13] Q 13 #[false, false, false, false, false, false, false, false, false, false, false, false, false] { tmps := #[.func (.yield l) #[] #[], .pointer (some ⟨Bs, 0, none⟩), .pointer (some ⟨Ba, 0, none⟩), v3, v4, v5, v6, .int .i64 (p : Int), v8, v9, v10, v11, v12, v13, v14, v15, v16, v17, v18, v19, v20, v21, v22, v23, v24, v25, v26, v27, v28, v29, v30, v31, v32, v33, v34, v35, v36, v37, v38, v39, v40, v41, v42], defers := ds } W := by
 have KEY := hide hKEY
 have HM := hide hM
 clear hKEY hM
 have HY := hide hY
 clear hY
 have S0 := hide (show wpAnyIn Fence.wide n Tryz.prog .any #[y12_1, y12_2, y12_3, y12_4, y12_5, y12_6, y12_7, y12_8, y12_9, y12_10, y12_11, y12_12, y12_13] Q 7 #[true, true, true, true, true, true, false, false, false, false, false, false, false] { tmps := #[.func (.yield l) #[] #[], .pointer (some ⟨Bs, 0, none⟩), .pointer (some ⟨Ba, 0, none⟩), v3, v4, v5, v6, .int .i64 (p : Int), v8, v9, v10, v11, v12, v13, v14, v15, v16, v17, v18, v19, v20, v21, v22, v23, v24, v25, v26, v27, .agg #[.string an, .int .i64 op, .string bd], .pointer (some ⟨Bs, 0, none⟩), .slice (some ⟨b, o, none⟩) NN vc, .int .i64 (p : Int), .pointer (some ⟨b, o + p * 43, none⟩), .agg cs.toArray, v34, v35, v36, v37, v38, v39, v40, v41, v42], defers := ds } W from by
  refine wpAnyIn_ready (rs := [6]) (by kernel_rfl) (by simp) ?_
  refine AllReadyIn.cons (o := y12_7) rfl (fun K hK => ?_) AllReadyIn.nil
  go_simp
  refine ⟨fun q => (by cases q), (callsIn_wide.2 (unhide HM)).mono ?_⟩
  rintro e W2 ⟨rfl, hb⟩
  obtain ⟨fn, tmps, assign, body, hy, hR⟩ := unhide HY W2 hb
  refine hK _ _ ?_
  clear hK K
  (try simp only [Act.put]); (try simp only [sqB, sq0, sq1])
  refine wpAnyIn_ready (rs := [7]) (by kernel_rfl) (by simp) ?_
  refine AllReadyIn.cons (o := y12_8) rfl (fun K hK => ?_) AllReadyIn.nil
  go_simp
  refine hK _ _ ?_
  clear hK K
  (try simp only [Act.put]); (try simp only [sqB, sq0, sq1])
  refine wpAnyIn_take (i := 8) (oi := y12_9) (v := ?_) rfl rfl (by kernel_rfl) (by kernel_rfl) (by kernel_rfl) (fun c a w h => hQ c _ _ a w h) ⟨Or.inl ⟨by rfl, ?_⟩, fun _ => rfl⟩ ?_; rotate_left
  ·intro w; go_simp; try with_reducible rfl
  (try simp only [Act.put]); (try simp only [sqB, sq0, sq1])
  refine wpAnyIn_take (i := 9) (oi := y12_10) (v := ?_) rfl rfl (by kernel_rfl) (by kernel_rfl) (by kernel_rfl) (fun c a w h => hQ c _ _ a w h) ⟨Or.inl ⟨by rfl, ?_⟩, fun _ => rfl⟩ ?_; rotate_left
  ·intro w; go_simp; try with_reducible rfl
  (try simp only [Act.put]); (try simp only [sqB, sq0, sq1])
  refine wpAnyIn_ready (rs := [10]) (by kernel_rfl) (by simp) ?_
  refine AllReadyIn.cons (o := y12_11) rfl (fun K hK => ?_) AllReadyIn.nil
  go_simp
  refine ⟨fun q => (by cases q), hR.mono ?_⟩
  rintro e W3 ⟨rfl, hr⟩
  have HQQ := unhide KEY W3 hr
  refine hK _ _ ?_
  clear hK K
  (try simp only [Act.put]); (try simp only [sqB, sq0, sq1])
  refine wpAnyIn_ready (rs := [11]) (by kernel_rfl) (by simp) ?_
  refine AllReadyIn.cons (o := y12_12) rfl (fun K hK => ?_) AllReadyIn.nil
  go_simp
  refine hK _ _ ?_
  clear hK K
  (try simp only [Act.put]); (try simp only [sqB, sq0, sq1])
  refine wpAnyIn_ready (rs := [12]) (by kernel_rfl) (by simp) ?_
  refine AllReadyIn.cons (o := y12_13) rfl (fun K hK => ?_) AllReadyIn.nil
  go_simp
  refine hK _ _ ?_
  clear hK K
  (try simp only [Act.put]); (try simp only [sqB, sq0, sq1])
  refine wpAnyIn_done (by kernel_rfl) ?_ _
  exact HQQ)
 have S1 := hide (show wpAnyIn Fence.wide n Tryz.prog .any #[y12_1, y12_2, y12_3, y12_4, y12_5, y12_6, y12_7, y12_8, y12_9, y12_10, y12_11, y12_12, y12_13] Q 8 #[true, true, true, true, true, false, false, false, false, false, false, false, false] { tmps := #[.func (.yield l) #[] #[], .pointer (some ⟨Bs, 0, none⟩), .pointer (some ⟨Ba, 0, none⟩), v3, v4, v5, v6, .int .i64 (p : Int), v8, v9, v10, v11, v12, v13, v14, v15, v16, v17, v18, v19, v20, v21, v22, v23, v24, v25, v26, v27, .agg #[.string an, .int .i64 op, .string bd], .pointer (some ⟨Bs, 0, none⟩), .slice (some ⟨b, o, none⟩) NN vc, .int .i64 (p : Int), .pointer (some ⟨b, o + p * 43, none⟩), v33, v34, v35, v36, v37, v38, v39, v40, v41, v42], defers := ds } W from by
  refine wpAnyIn_ready (rs := [5]) (by kernel_rfl) (by simp) ?_
  refine AllReadyIn.cons (o := y12_6) rfl (fun K hK => ?_) ?_
  ·refine wpIn_load_run _ _ rfl _ rfl hld ?_
   refine hK _ _ ?_
   clear hK K
   (try simp only [Act.put]); (try simp only [sqB, sq0, sq1])
   exact unhide S0
  exact AllReadyIn.nil)
 have S2 := hide (show wpAnyIn Fence.wide n Tryz.prog .any #[y12_1, y12_2, y12_3, y12_4, y12_5, y12_6, y12_7, y12_8, y12_9, y12_10, y12_11, y12_12, y12_13] Q 10 #[true, true, false, true, false, false, false, false, false, false, false, false, false] { tmps := #[.func (.yield l) #[] #[], .pointer (some ⟨Bs, 0, none⟩), .pointer (some ⟨Ba, 0, none⟩), v3, v4, v5, v6, .int .i64 (p : Int), v8, v9, v10, v11, v12, v13, v14, v15, v16, v17, v18, v19, v20, v21, v22, v23, v24, v25, v26, v27, .agg #[.string an, .int .i64 op, .string bd], .pointer (some ⟨Bs, 0, none⟩), v30, .int .i64 (p : Int), v32, v33, v34, v35, v36, v37, v38, v39, v40, v41, v42], defers := ds } W from by
  refine wpAnyIn_ready (rs := [2]) (by kernel_rfl) (by simp) ?_
  refine AllReadyIn.cons (o := y12_3) rfl (fun K hK => ?_) ?_
  ·go_simp
   refine hK _ _ ?_
   clear hK K
   (try simp only [Act.put]); (try simp only [sqB, sq0, sq1])
   refine wpAnyIn_take (i := 4) (oi := y12_5) (v := ?_) rfl rfl (by kernel_rfl) (by kernel_rfl) (by kernel_rfl) (fun c a w h => hQ c _ _ a w h) ⟨Or.inl ⟨by rfl, ?_⟩, fun _ => rfl⟩ ?_; rotate_left
   ·intro w; go_simp; try with_reducible rfl
   (try simp only [Act.put]); (try simp only [sqB, sq0, sq1])
   exact unhide S1
  exact AllReadyIn.nil)
 have S3 := hide (show wpAnyIn Fence.wide n Tryz.prog .any #[y12_1, y12_2, y12_3, y12_4, y12_5, y12_6, y12_7, y12_8, y12_9, y12_10, y12_11, y12_12, y12_13] Q 8 #[false, true, true, true, true, true, false, false, false, false, false, false, false] { tmps := #[.func (.yield l) #[] #[], .pointer (some ⟨Bs, 0, none⟩), .pointer (some ⟨Ba, 0, none⟩), v3, v4, v5, v6, .int .i64 (p : Int), v8, v9, v10, v11, v12, v13, v14, v15, v16, v17, v18, v19, v20, v21, v22, v23, v24, v25, v26, v27, v28, .pointer (some ⟨Bs, 0, none⟩), .slice (some ⟨b, o, none⟩) NN vc, .int .i64 (p : Int), .pointer (some ⟨b, o + p * 43, none⟩), .agg cs.toArray, v34, v35, v36, v37, v38, v39, v40, v41, v42], defers := ds } W from by
  refine wpAnyIn_ready (rs := [0]) (by kernel_rfl) (by simp) ?_
  refine AllReadyIn.cons (o := y12_1) rfl (fun K hK => ?_) ?_
  ·go_simp
   refine hK _ _ ?_
   clear hK K
   (try simp only [Act.put]); (try simp only [List.setIfInBounds_toArray, List.set_cons_zero])
   exact unhide S0
  exact AllReadyIn.nil)
 have S4 := hide (show wpAnyIn Fence.wide n Tryz.prog .any #[y12_1, y12_2, y12_3, y12_4, y12_5, y12_6, y12_7, y12_8, y12_9, y12_10, y12_11, y12_12, y12_13] Q 9 #[false, true, true, true, true, false, false, false, false, false, false, false, false] { tmps := #[.func (.yield l) #[] #[], .pointer (some ⟨Bs, 0, none⟩), .pointer (some ⟨Ba, 0, none⟩), v3, v4, v5, v6, .int .i64 (p : Int), v8, v9, v10, v11, v12, v13, v14, v15, v16, v17, v18, v19, v20, v21, v22, v23, v24, v25, v26, v27, v28, .pointer (some ⟨Bs, 0, none⟩), .slice (some ⟨b, o, none⟩) NN vc, .int .i64 (p : Int), .pointer (some ⟨b, o + p * 43, none⟩), v33, v34, v35, v36, v37, v38, v39, v40, v41, v42], defers := ds } W from by
  refine wpAnyIn_ready (rs := [0, 5]) (by kernel_rfl) (by simp) ?_
  refine AllReadyIn.cons (o := y12_1) rfl (fun K hK => ?_) ?_
  ·go_simp
   refine hK _ _ ?_
   clear hK K
   (try simp only [Act.put]); (try simp only [List.setIfInBounds_toArray, List.set_cons_zero])
   exact unhide S1
  refine AllReadyIn.cons (o := y12_6) rfl (fun K hK => ?_) ?_
  ·refine wpIn_load_run _ _ rfl _ rfl hld ?_
   refine hK _ _ ?_
   clear hK K
   (try simp only [Act.put]); (try simp only [sqB, sq0, sq1])
   exact unhide S3
  exact AllReadyIn.nil)
 have S5 := hide (show wpAnyIn Fence.wide n Tryz.prog .any #[y12_1, y12_2, y12_3, y12_4, y12_5, y12_6, y12_7, y12_8, y12_9, y12_10, y12_11, y12_12, y12_13] Q 11 #[false, true, false, true, false, false, false, false, false, false, false, false, false] { tmps := #[.func (.yield l) #[] #[], .pointer (some ⟨Bs, 0, none⟩), .pointer (some ⟨Ba, 0, none⟩), v3, v4, v5, v6, .int .i64 (p : Int), v8, v9, v10, v11, v12, v13, v14, v15, v16, v17, v18, v19, v20, v21, v22, v23, v24, v25, v26, v27, v28, .pointer (some ⟨Bs, 0, none⟩), v30, .int .i64 (p : Int), v32, v33, v34, v35, v36, v37, v38, v39, v40, v41, v42], defers := ds } W from by
  refine wpAnyIn_ready (rs := [0, 2]) (by kernel_rfl) (by simp) ?_
  refine AllReadyIn.cons (o := y12_1) rfl (fun K hK => ?_) ?_
  ·go_simp
   refine hK _ _ ?_
   clear hK K
   (try simp only [Act.put]); (try simp only [List.setIfInBounds_toArray, List.set_cons_zero])
   exact unhide S2
  refine AllReadyIn.cons (o := y12_3) rfl (fun K hK => ?_) ?_
  ·go_simp
   refine hK _ _ ?_
   clear hK K
   (try simp only [Act.put]); (try simp only [sqB, sq0, sq1])
   refine wpAnyIn_take (i := 4) (oi := y12_5) (v := ?_) rfl rfl (by kernel_rfl) (by kernel_rfl) (by kernel_rfl) (fun c a w h => hQ c _ _ a w h) ⟨Or.inl ⟨by rfl, ?_⟩, fun _ => rfl⟩ ?_; rotate_left
   ·intro w; go_simp; try with_reducible rfl
   (try simp only [Act.put]); (try simp only [sqB, sq0, sq1])
   exact unhide S4
  exact AllReadyIn.nil)
 refine wpAnyIn_take (i := 1) (oi := y12_2) (v := ?_) rfl rfl (by kernel_rfl) (by kernel_rfl) (by kernel_rfl) (fun c a w h => hQ c _ _ a w h) ⟨Or.inl ⟨by rfl, ?_⟩, fun _ => rfl⟩ ?_; rotate_left
 ·intro w; go_simp; try with_reducible rfl
 (try simp only [Act.put]); (try simp only [sqB, sq0, sq1])
 refine wpAnyIn_take (i := 3) (oi := y12_4) (v := ?_) rfl rfl (by kernel_rfl) (by kernel_rfl) (by kernel_rfl) (fun c a w h => hQ c _ _ a w h) ⟨Or.inl ⟨by rfl, ?_⟩, fun _ => rfl⟩ ?_; rotate_left
 ·intro w; go_simp; try with_reducible rfl
 (try simp only [Act.put]); (try simp only [sqB, sq0, sq1])
 exact unhide S5
set_option maxRecDepth 100000 in
set_option maxHeartbeats 8000000 in
theorem rg26f {n l : Nat} {Q : Exit → Act → World → Prop} (hQ : ∀ c (d : Option Tmp) v a w, Q (.panic c) (a.put d v) w → Q (.panic c) a w) {v3 v4 v5 v6 v8 v9 v10 v11 v12 v13 v14 v15 v16 v17 v18 v19 v20 v21 v22 v23 v24 v25 v26 v27 v28 v29 v30 v31 v32 v33 v34 v35 v36 v37 v38 v39 v40 v41 v42 : Value} {ds : List Deferred} {Bs Ba b o NN vc p : Nat} {an bd : ByteArray} {op : Int} {cs : List Value} {W : World}
 (ha0 : W.cell? ⟨Ba, 0, none⟩ = some (.string an)) (ha1 : W.cell? ⟨Ba, 1, none⟩ = some (.int .i64 op)) (ha2 : W.cell? ⟨Ba, 2, none⟩ = some (.string bd)) (hs0 : W.cell? ⟨Bs, 0, none⟩ = some (.slice (some ⟨b, o, none⟩) NN vc)) (hpn : (p : Int) < (NN : Int)) (hld : (Instr.loadAt 46 (.pointer (some ⟨b, o + p * 43, none⟩))).run Tryz.prog W = .ok (.agg cs.toArray) W)
 (hM : Calls Tryz.prog 76 #[.agg #[.string an, .int .i64 op, .string bd], .agg cs.toArray] W fun e w' => e = .returned (.bool false) ∧ RowKit.Below W.heap.size W w')
 (hKEY : ∀ W3, RowKit.Below W.heap.size W W3 → Q .normal { tmps := #[.func (.yield l) #[] #[], .pointer (some ⟨Bs, 0, none⟩), .pointer (some ⟨Ba, 0, none⟩), v3, v4, v5, v6, .int .i64 (p : Int), v8, v9, v10, v11, v12, v13, v14, v15, v16, v17, v18, v19, v20, v21, v22, v23, v24, v25, v26, v27, .agg #[.string an, .int .i64 op, .string bd], .pointer (some ⟨Bs, 0, none⟩), .slice (some ⟨b, o, none⟩) NN vc, .int .i64 (p : Int), .pointer (some ⟨b, o + p * 43, none⟩), .agg cs.toArray, .bool false, .bool false, undef, undef, undef, undef, .bool false, v41, v42], defers := ds } W3) :
 wpAnyIn Fence.wide n Tryz.prog .any #[y12_1, y12_2, y12_3, y12_4, y12_5, y12_6, y12_7, y12_8, y12_9, y12_10, y12_11, y12_12, y12_13] Q 13 #[false, false, false, false, false, false, false, false, false, false, false, false, false] { tmps := #[.func (.yield l) #[] #[], .pointer (some ⟨Bs, 0, none⟩), .pointer (some ⟨Ba, 0, none⟩), v3, v4, v5, v6, .int .i64 (p : Int), v8, v9, v10, v11, v12, v13, v14, v15, v16, v17, v18, v19, v20, v21, v22, v23, v24, v25, v26, v27, v28, v29, v30, v31, v32, v33, v34, v35, v36, v37, v38, v39, v40, v41, v42], defers := ds } W := by
 have KEY := hide hKEY
 have HM := hide hM
 clear hKEY hM
 have S0 := hide (show wpAnyIn Fence.wide n Tryz.prog .any #[y12_1, y12_2, y12_3, y12_4, y12_5, y12_6, y12_7, y12_8, y12_9, y12_10, y12_11, y12_12, y12_13] Q 7 #[true, true, true, true, true, true, false, false, false, false, false, false, false] { tmps := #[.func (.yield l) #[] #[], .pointer (some ⟨Bs, 0, none⟩), .pointer (some ⟨Ba, 0, none⟩), v3, v4, v5, v6, .int .i64 (p : Int), v8, v9, v10, v11, v12, v13, v14, v15, v16, v17, v18, v19, v20, v21, v22, v23, v24, v25, v26, v27, .agg #[.string an, .int .i64 op, .string bd], .pointer (some ⟨Bs, 0, none⟩), .slice (some ⟨b, o, none⟩) NN vc, .int .i64 (p : Int), .pointer (some ⟨b, o + p * 43, none⟩), .agg cs.toArray, v34, v35, v36, v37, v38, v39, v40, v41, v42], defers := ds } W from by
  refine wpAnyIn_ready (rs := [6]) (by kernel_rfl) (by simp) ?_
  refine AllReadyIn.cons (o := y12_7) rfl (fun K hK => ?_) AllReadyIn.nil
  go_simp
  refine ⟨fun q => (by cases q), (callsIn_wide.2 (unhide HM)).mono ?_⟩
  rintro e W2 ⟨rfl, hb⟩
  have HQQ := unhide KEY W2 hb
  refine hK _ _ ?_
  clear hK K
  (try simp only [Act.put]); (try simp only [sqB, sq0, sq1])
  refine wpAnyIn_ready (rs := [7]) (by kernel_rfl) (by simp) ?_
  refine AllReadyIn.cons (o := y12_8) rfl (fun K hK => ?_) AllReadyIn.nil
  go_simp
  refine hK _ _ ?_
  clear hK K
  (try simp only [Act.put]); (try simp only [sqB, sq0, sq1])
  refine wpAnyIn_take (i := 8) (oi := y12_9) (v := undef) rfl rfl (by kernel_rfl) (by kernel_rfl) (by kernel_rfl) (fun c a w h => hQ c _ _ a w h) ⟨Or.inr ⟨by rfl, rfl⟩, fun _ => rfl⟩ ?_
  (try simp only [Act.put]); (try simp only [sqB, sq0, sq1])
  refine wpAnyIn_take (i := 9) (oi := y12_10) (v := undef) rfl rfl (by kernel_rfl) (by kernel_rfl) (by kernel_rfl) (fun c a w h => hQ c _ _ a w h) ⟨Or.inr ⟨by rfl, rfl⟩, fun _ => rfl⟩ ?_
  (try simp only [Act.put]); (try simp only [sqB, sq0, sq1])
  refine wpAnyIn_take (i := 10) (oi := y12_11) (v := undef) rfl rfl (by kernel_rfl) (by kernel_rfl) (by kernel_rfl) (fun c a w h => hQ c _ _ a w h) ⟨Or.inr ⟨by rfl, rfl⟩, fun _ => rfl⟩ ?_
  (try simp only [Act.put]); (try simp only [sqB, sq0, sq1])
  refine wpAnyIn_take (i := 11) (oi := y12_12) (v := undef) rfl rfl (by kernel_rfl) (by kernel_rfl) (by kernel_rfl) (fun c a w h => hQ c _ _ a w h) ⟨Or.inr ⟨by rfl, rfl⟩, fun _ => rfl⟩ ?_
  (try simp only [Act.put]); (try simp only [sqB, sq0, sq1])
  refine wpAnyIn_ready (rs := [12]) (by kernel_rfl) (by simp) ?_
  refine AllReadyIn.cons (o := y12_13) rfl (fun K hK => ?_) AllReadyIn.nil
  go_simp
  refine hK _ _ ?_
  clear hK K
  (try simp only [Act.put]); (try simp only [sqB, sq0, sq1])
  refine wpAnyIn_done (by kernel_rfl) ?_ _
  exact HQQ)
 have S1 := hide (show wpAnyIn Fence.wide n Tryz.prog .any #[y12_1, y12_2, y12_3, y12_4, y12_5, y12_6, y12_7, y12_8, y12_9, y12_10, y12_11, y12_12, y12_13] Q 8 #[true, true, true, true, true, false, false, false, false, false, false, false, false] { tmps := #[.func (.yield l) #[] #[], .pointer (some ⟨Bs, 0, none⟩), .pointer (some ⟨Ba, 0, none⟩), v3, v4, v5, v6, .int .i64 (p : Int), v8, v9, v10, v11, v12, v13, v14, v15, v16, v17, v18, v19, v20, v21, v22, v23, v24, v25, v26, v27, .agg #[.string an, .int .i64 op, .string bd], .pointer (some ⟨Bs, 0, none⟩), .slice (some ⟨b, o, none⟩) NN vc, .int .i64 (p : Int), .pointer (some ⟨b, o + p * 43, none⟩), v33, v34, v35, v36, v37, v38, v39, v40, v41, v42], defers := ds } W from by
  refine wpAnyIn_ready (rs := [5]) (by kernel_rfl) (by simp) ?_
  refine AllReadyIn.cons (o := y12_6) rfl (fun K hK => ?_) ?_
  ·refine wpIn_load_run _ _ rfl _ rfl hld ?_
   refine hK _ _ ?_
   clear hK K
   (try simp only [Act.put]); (try simp only [sqB, sq0, sq1])
   exact unhide S0
  exact AllReadyIn.nil)
 have S2 := hide (show wpAnyIn Fence.wide n Tryz.prog .any #[y12_1, y12_2, y12_3, y12_4, y12_5, y12_6, y12_7, y12_8, y12_9, y12_10, y12_11, y12_12, y12_13] Q 10 #[true, true, false, true, false, false, false, false, false, false, false, false, false] { tmps := #[.func (.yield l) #[] #[], .pointer (some ⟨Bs, 0, none⟩), .pointer (some ⟨Ba, 0, none⟩), v3, v4, v5, v6, .int .i64 (p : Int), v8, v9, v10, v11, v12, v13, v14, v15, v16, v17, v18, v19, v20, v21, v22, v23, v24, v25, v26, v27, .agg #[.string an, .int .i64 op, .string bd], .pointer (some ⟨Bs, 0, none⟩), v30, .int .i64 (p : Int), v32, v33, v34, v35, v36, v37, v38, v39, v40, v41, v42], defers := ds } W from by
  refine wpAnyIn_ready (rs := [2]) (by kernel_rfl) (by simp) ?_
  refine AllReadyIn.cons (o := y12_3) rfl (fun K hK => ?_) ?_
  ·go_simp
   refine hK _ _ ?_
   clear hK K
   (try simp only [Act.put]); (try simp only [sqB, sq0, sq1])
   refine wpAnyIn_take (i := 4) (oi := y12_5) (v := ?_) rfl rfl (by kernel_rfl) (by kernel_rfl) (by kernel_rfl) (fun c a w h => hQ c _ _ a w h) ⟨Or.inl ⟨by rfl, ?_⟩, fun _ => rfl⟩ ?_; rotate_left
   ·intro w; go_simp; try with_reducible rfl
   (try simp only [Act.put]); (try simp only [sqB, sq0, sq1])
   exact unhide S1
  exact AllReadyIn.nil)
 have S3 := hide (show wpAnyIn Fence.wide n Tryz.prog .any #[y12_1, y12_2, y12_3, y12_4, y12_5, y12_6, y12_7, y12_8, y12_9, y12_10, y12_11, y12_12, y12_13] Q 8 #[false, true, true, true, true, true, false, false, false, false, false, false, false] { tmps := #[.func (.yield l) #[] #[], .pointer (some ⟨Bs, 0, none⟩), .pointer (some ⟨Ba, 0, none⟩), v3, v4, v5, v6, .int .i64 (p : Int), v8, v9, v10, v11, v12, v13, v14, v15, v16, v17, v18, v19, v20, v21, v22, v23, v24, v25, v26, v27, v28, .pointer (some ⟨Bs, 0, none⟩), .slice (some ⟨b, o, none⟩) NN vc, .int .i64 (p : Int), .pointer (some ⟨b, o + p * 43, none⟩), .agg cs.toArray, v34, v35, v36, v37, v38, v39, v40, v41, v42], defers := ds } W from by
  refine wpAnyIn_ready (rs := [0]) (by kernel_rfl) (by simp) ?_
  refine AllReadyIn.cons (o := y12_1) rfl (fun K hK => ?_) ?_
  ·go_simp
   refine hK _ _ ?_
   clear hK K
   (try simp only [Act.put]); (try simp only [List.setIfInBounds_toArray, List.set_cons_zero])
   exact unhide S0
  exact AllReadyIn.nil)
 have S4 := hide (show wpAnyIn Fence.wide n Tryz.prog .any #[y12_1, y12_2, y12_3, y12_4, y12_5, y12_6, y12_7, y12_8, y12_9, y12_10, y12_11, y12_12, y12_13] Q 9 #[false, true, true, true, true, false, false, false, false, false, false, false, false] { tmps := #[.func (.yield l) #[] #[], .pointer (some ⟨Bs, 0, none⟩), .pointer (some ⟨Ba, 0, none⟩), v3, v4, v5, v6, .int .i64 (p : Int), v8, v9, v10, v11, v12, v13, v14, v15, v16, v17, v18, v19, v20, v21, v22, v23, v24, v25, v26, v27, v28, .pointer (some ⟨Bs, 0, none⟩), .slice (some ⟨b, o, none⟩) NN vc, .int .i64 (p : Int), .pointer (some ⟨b, o + p * 43, none⟩), v33, v34, v35, v36, v37, v38, v39, v40, v41, v42], defers := ds } W from by
  refine wpAnyIn_ready (rs := [0, 5]) (by kernel_rfl) (by simp) ?_
  refine AllReadyIn.cons (o := y12_1) rfl (fun K hK => ?_) ?_
  ·go_simp
   refine hK _ _ ?_
   clear hK K
   (try simp only [Act.put]); (try simp only [List.setIfInBounds_toArray, List.set_cons_zero])
   exact unhide S1
  refine AllReadyIn.cons (o := y12_6) rfl (fun K hK => ?_) ?_
  ·refine wpIn_load_run _ _ rfl _ rfl hld ?_
   refine hK _ _ ?_
   clear hK K
   (try simp only [Act.put]); (try simp only [sqB, sq0, sq1])
   exact unhide S3
  exact AllReadyIn.nil)
 have S5 := hide (show wpAnyIn Fence.wide n Tryz.prog .any #[y12_1, y12_2, y12_3, y12_4, y12_5, y12_6, y12_7, y12_8, y12_9, y12_10, y12_11, y12_12, y12_13] Q 11 #[false, true, false, true, false, false, false, false, false, false, false, false, false] { tmps := #[.func (.yield l) #[] #[], .pointer (some ⟨Bs, 0, none⟩), .pointer (some ⟨Ba, 0, none⟩), v3, v4, v5, v6, .int .i64 (p : Int), v8, v9, v10, v11, v12, v13, v14, v15, v16, v17, v18, v19, v20, v21, v22, v23, v24, v25, v26, v27, v28, .pointer (some ⟨Bs, 0, none⟩), v30, .int .i64 (p : Int), v32, v33, v34, v35, v36, v37, v38, v39, v40, v41, v42], defers := ds } W from by
  refine wpAnyIn_ready (rs := [0, 2]) (by kernel_rfl) (by simp) ?_
  refine AllReadyIn.cons (o := y12_1) rfl (fun K hK => ?_) ?_
  ·go_simp
   refine hK _ _ ?_
   clear hK K
   (try simp only [Act.put]); (try simp only [List.setIfInBounds_toArray, List.set_cons_zero])
   exact unhide S2
  refine AllReadyIn.cons (o := y12_3) rfl (fun K hK => ?_) ?_
  ·go_simp
   refine hK _ _ ?_
   clear hK K
   (try simp only [Act.put]); (try simp only [sqB, sq0, sq1])
   refine wpAnyIn_take (i := 4) (oi := y12_5) (v := ?_) rfl rfl (by kernel_rfl) (by kernel_rfl) (by kernel_rfl) (fun c a w h => hQ c _ _ a w h) ⟨Or.inl ⟨by rfl, ?_⟩, fun _ => rfl⟩ ?_; rotate_left
   ·intro w; go_simp; try with_reducible rfl
   (try simp only [Act.put]); (try simp only [sqB, sq0, sq1])
   exact unhide S4
  exact AllReadyIn.nil)
 refine wpAnyIn_take (i := 1) (oi := y12_2) (v := ?_) rfl rfl (by kernel_rfl) (by kernel_rfl) (by kernel_rfl) (fun c a w h => hQ c _ _ a w h) ⟨Or.inl ⟨by rfl, ?_⟩, fun _ => rfl⟩ ?_; rotate_left
 ·intro w; go_simp; try with_reducible rfl
 (try simp only [Act.put]); (try simp only [sqB, sq0, sq1])
 refine wpAnyIn_take (i := 3) (oi := y12_4) (v := ?_) rfl rfl (by kernel_rfl) (by kernel_rfl) (by kernel_rfl) (fun c a w h => hQ c _ _ a w h) ⟨Or.inl ⟨by rfl, ?_⟩, fun _ => rfl⟩ ?_; rotate_left
 ·intro w; go_simp; try with_reducible rfl
 (try simp only [Act.put]); (try simp only [sqB, sq0, sq1])
 exact unhide S5
set_option maxRecDepth 100000 in
set_option maxHeartbeats 8000000 in
theorem rg26y {n l : Nat} {Q : Exit → Act → World → Prop} (hQ : ∀ c (d : Option Tmp) v a w, Q (.panic c) (a.put d v) w → Q (.panic c) a w) {v3 v4 v5 v6 v8 v9 v10 v11 v12 v13 v14 v15 v16 v17 v18 v19 v20 v21 v22 v23 v24 v25 v26 v27 v28 v29 v30 v31 v32 v33 v34 v35 v36 v37 v38 v39 v40 v41 v42 : Value} {ds : List Deferred} {Bs Ba b o NN vc p : Nat} {an bd : ByteArray} {op : Int} {cs : List Value} {W : World}
 (ha0 : W.cell? ⟨Ba, 0, none⟩ = some (.string an)) (ha1 : W.cell? ⟨Ba, 1, none⟩ = some (.int .i64 op)) (ha2 : W.cell? ⟨Ba, 2, none⟩ = some (.string bd)) (hs0 : W.cell? ⟨Bs, 0, none⟩ = some (.slice (some ⟨b, o, none⟩) NN vc)) (hpn : (p : Int) < (NN : Int)) (hld : (Instr.loadAt 46 (.pointer (some ⟨b, o + p * 43, none⟩))).run Tryz.prog W = .ok (.agg cs.toArray) W)
 (hM : Calls Tryz.prog 76 #[.agg #[.string an, .int .i64 op, .string bd], .agg cs.toArray] W fun e w' => e = .returned (.bool true) ∧ RowKit.Below W.heap.size W w')
 {R Rx : World → Prop} (hY : ∀ W2, RowKit.Below W.heap.size W W2 → YieldAt Fence.wide (n - 1) Tryz.prog l #[.int .i64 (p : Int)] W2 fun e W3 => (e = .returned (.bool true) ∧ R W3) ∨ (e = .returned (.bool false) ∧ Rx W3))
 (hKEY : ∀ W3, R W3 → Q .normal { tmps := #[.func (.yield l) #[] #[], .pointer (some ⟨Bs, 0, none⟩), .pointer (some ⟨Ba, 0, none⟩), v3, v4, v5, v6, .int .i64 (p : Int), v8, v9, v10, v11, v12, v13, v14, v15, v16, v17, v18, v19, v20, v21, v22, v23, v24, v25, v26, v27, .agg #[.string an, .int .i64 op, .string bd], .pointer (some ⟨Bs, 0, none⟩), .slice (some ⟨b, o, none⟩) NN vc, .int .i64 (p : Int), .pointer (some ⟨b, o + p * 43, none⟩), .agg cs.toArray, .bool true, .bool true, .func (.yield l) #[] #[], .int .i64 (p : Int), .bool true, .bool false, .bool false, v41, v42], defers := ds } W3) (hKEX : ∀ W3, Rx W3 → Q .normal { tmps := #[.func (.yield l) #[] #[], .pointer (some ⟨Bs, 0, none⟩), .pointer (some ⟨Ba, 0, none⟩), v3, v4, v5, v6, .int .i64 (p : Int), v8, v9, v10, v11, v12, v13, v14, v15, v16, v17, v18, v19, v20, v21, v22, v23, v24, v25, v26, v27, .agg #[.string an, .int .i64 op, .string bd], .pointer (some ⟨Bs, 0, none⟩), .slice (some ⟨b, o, none⟩) NN vc, .int .i64 (p : Int), .pointer (some ⟨b, o + p * 43, none⟩), .agg cs.toArray, .bool true, .bool true, .func (.yield l) #[] #[], .int .i64 (p : Int), .bool false, .bool true, .bool true, v41, v42], defers := ds } W3) :
 wpAnyIn Fence.wide n Tryz.prog .any #[y12_1, y12_2, y12_3, y12_4, y12_5, y12_6, y12_7, y12_8, y12_9, y12_10, y12_11, y12_12, y12_13] Q 13 #[false, false, false, false, false, false, false, false, false, false, false, false, false] { tmps := #[.func (.yield l) #[] #[], .pointer (some ⟨Bs, 0, none⟩), .pointer (some ⟨Ba, 0, none⟩), v3, v4, v5, v6, .int .i64 (p : Int), v8, v9, v10, v11, v12, v13, v14, v15, v16, v17, v18, v19, v20, v21, v22, v23, v24, v25, v26, v27, v28, v29, v30, v31, v32, v33, v34, v35, v36, v37, v38, v39, v40, v41, v42], defers := ds } W := by
 have KEY := hide hKEY
 have HM := hide hM
 clear hKEY hM
 have KEX := hide hKEX
 clear hKEX
 have HY := hide hY
 clear hY
 have S0 := hide (show wpAnyIn Fence.wide n Tryz.prog .any #[y12_1, y12_2, y12_3, y12_4, y12_5, y12_6, y12_7, y12_8, y12_9, y12_10, y12_11, y12_12, y12_13] Q 7 #[true, true, true, true, true, true, false, false, false, false, false, false, false] { tmps := #[.func (.yield l) #[] #[], .pointer (some ⟨Bs, 0, none⟩), .pointer (some ⟨Ba, 0, none⟩), v3, v4, v5, v6, .int .i64 (p : Int), v8, v9, v10, v11, v12, v13, v14, v15, v16, v17, v18, v19, v20, v21, v22, v23, v24, v25, v26, v27, .agg #[.string an, .int .i64 op, .string bd], .pointer (some ⟨Bs, 0, none⟩), .slice (some ⟨b, o, none⟩) NN vc, .int .i64 (p : Int), .pointer (some ⟨b, o + p * 43, none⟩), .agg cs.toArray, v34, v35, v36, v37, v38, v39, v40, v41, v42], defers := ds } W from by
  refine wpAnyIn_ready (rs := [6]) (by kernel_rfl) (by simp) ?_
  refine AllReadyIn.cons (o := y12_7) rfl (fun K hK => ?_) AllReadyIn.nil
  go_simp
  refine ⟨fun q => (by cases q), (callsIn_wide.2 (unhide HM)).mono ?_⟩
  rintro e W2 ⟨rfl, hb⟩
  obtain ⟨fn, tmps, assign, body, hy, hR⟩ := unhide HY W2 hb
  refine hK _ _ ?_
  clear hK K
  (try simp only [Act.put]); (try simp only [sqB, sq0, sq1])
  refine wpAnyIn_ready (rs := [7]) (by kernel_rfl) (by simp) ?_
  refine AllReadyIn.cons (o := y12_8) rfl (fun K hK => ?_) AllReadyIn.nil
  go_simp
  refine hK _ _ ?_
  clear hK K
  (try simp only [Act.put]); (try simp only [sqB, sq0, sq1])
  refine wpAnyIn_take (i := 8) (oi := y12_9) (v := ?_) rfl rfl (by kernel_rfl) (by kernel_rfl) (by kernel_rfl) (fun c a w h => hQ c _ _ a w h) ⟨Or.inl ⟨by rfl, ?_⟩, fun _ => rfl⟩ ?_; rotate_left
  ·intro w; go_simp; try with_reducible rfl
  (try simp only [Act.put]); (try simp only [sqB, sq0, sq1])
  refine wpAnyIn_take (i := 9) (oi := y12_10) (v := ?_) rfl rfl (by kernel_rfl) (by kernel_rfl) (by kernel_rfl) (fun c a w h => hQ c _ _ a w h) ⟨Or.inl ⟨by rfl, ?_⟩, fun _ => rfl⟩ ?_; rotate_left
  ·intro w; go_simp; try with_reducible rfl
  (try simp only [Act.put]); (try simp only [sqB, sq0, sq1])
  refine wpAnyIn_ready (rs := [10]) (by kernel_rfl) (by simp) ?_
  refine AllReadyIn.cons (o := y12_11) rfl (fun K hK => ?_) AllReadyIn.nil
  go_simp
  refine ⟨fun q => (by cases q), hR.mono ?_⟩
  rintro e W3 (⟨rfl, hr⟩ | ⟨rfl, hr⟩)
  ·have HQQ := unhide KEY W3 hr
   refine hK _ _ ?_
   clear hK K
   (try simp only [Act.put]); (try simp only [sqB, sq0, sq1])
   refine wpAnyIn_ready (rs := [11]) (by kernel_rfl) (by simp) ?_
   refine AllReadyIn.cons (o := y12_12) rfl (fun K hK => ?_) AllReadyIn.nil
   go_simp
   refine hK _ _ ?_
   clear hK K
   (try simp only [Act.put]); (try simp only [sqB, sq0, sq1])
   refine wpAnyIn_ready (rs := [12]) (by kernel_rfl) (by simp) ?_
   refine AllReadyIn.cons (o := y12_13) rfl (fun K hK => ?_) AllReadyIn.nil
   go_simp
   refine hK _ _ ?_
   clear hK K
   (try simp only [Act.put]); (try simp only [sqB, sq0, sq1])
   refine wpAnyIn_done (by kernel_rfl) ?_ _
   exact HQQ
  ·have HQQ := unhide KEX W3 hr
   refine hK _ _ ?_
   clear hK K
   (try simp only [Act.put]); (try simp only [sqB, sq0, sq1])
   refine wpAnyIn_ready (rs := [11]) (by kernel_rfl) (by simp) ?_
   refine AllReadyIn.cons (o := y12_12) rfl (fun K hK => ?_) AllReadyIn.nil
   go_simp
   refine hK _ _ ?_
   clear hK K
   (try simp only [Act.put]); (try simp only [sqB, sq0, sq1])
   refine wpAnyIn_ready (rs := [12]) (by kernel_rfl) (by simp) ?_
   refine AllReadyIn.cons (o := y12_13) rfl (fun K hK => ?_) AllReadyIn.nil
   go_simp
   refine hK _ _ ?_
   clear hK K
   (try simp only [Act.put]); (try simp only [sqB, sq0, sq1])
   refine wpAnyIn_done (by kernel_rfl) ?_ _
   exact HQQ)
 have S1 := hide (show wpAnyIn Fence.wide n Tryz.prog .any #[y12_1, y12_2, y12_3, y12_4, y12_5, y12_6, y12_7, y12_8, y12_9, y12_10, y12_11, y12_12, y12_13] Q 8 #[true, true, true, true, true, false, false, false, false, false, false, false, false] { tmps := #[.func (.yield l) #[] #[], .pointer (some ⟨Bs, 0, none⟩), .pointer (some ⟨Ba, 0, none⟩), v3, v4, v5, v6, .int .i64 (p : Int), v8, v9, v10, v11, v12, v13, v14, v15, v16, v17, v18, v19, v20, v21, v22, v23, v24, v25, v26, v27, .agg #[.string an, .int .i64 op, .string bd], .pointer (some ⟨Bs, 0, none⟩), .slice (some ⟨b, o, none⟩) NN vc, .int .i64 (p : Int), .pointer (some ⟨b, o + p * 43, none⟩), v33, v34, v35, v36, v37, v38, v39, v40, v41, v42], defers := ds } W from by
  refine wpAnyIn_ready (rs := [5]) (by kernel_rfl) (by simp) ?_
  refine AllReadyIn.cons (o := y12_6) rfl (fun K hK => ?_) ?_
  ·refine wpIn_load_run _ _ rfl _ rfl hld ?_
   refine hK _ _ ?_
   clear hK K
   (try simp only [Act.put]); (try simp only [sqB, sq0, sq1])
   exact unhide S0
  exact AllReadyIn.nil)
 have S2 := hide (show wpAnyIn Fence.wide n Tryz.prog .any #[y12_1, y12_2, y12_3, y12_4, y12_5, y12_6, y12_7, y12_8, y12_9, y12_10, y12_11, y12_12, y12_13] Q 10 #[true, true, false, true, false, false, false, false, false, false, false, false, false] { tmps := #[.func (.yield l) #[] #[], .pointer (some ⟨Bs, 0, none⟩), .pointer (some ⟨Ba, 0, none⟩), v3, v4, v5, v6, .int .i64 (p : Int), v8, v9, v10, v11, v12, v13, v14, v15, v16, v17, v18, v19, v20, v21, v22, v23, v24, v25, v26, v27, .agg #[.string an, .int .i64 op, .string bd], .pointer (some ⟨Bs, 0, none⟩), v30, .int .i64 (p : Int), v32, v33, v34, v35, v36, v37, v38, v39, v40, v41, v42], defers := ds } W from by
  refine wpAnyIn_ready (rs := [2]) (by kernel_rfl) (by simp) ?_
  refine AllReadyIn.cons (o := y12_3) rfl (fun K hK => ?_) ?_
  ·go_simp
   refine hK _ _ ?_
   clear hK K
   (try simp only [Act.put]); (try simp only [sqB, sq0, sq1])
   refine wpAnyIn_take (i := 4) (oi := y12_5) (v := ?_) rfl rfl (by kernel_rfl) (by kernel_rfl) (by kernel_rfl) (fun c a w h => hQ c _ _ a w h) ⟨Or.inl ⟨by rfl, ?_⟩, fun _ => rfl⟩ ?_; rotate_left
   ·intro w; go_simp; try with_reducible rfl
   (try simp only [Act.put]); (try simp only [sqB, sq0, sq1])
   exact unhide S1
  exact AllReadyIn.nil)
 have S3 := hide (show wpAnyIn Fence.wide n Tryz.prog .any #[y12_1, y12_2, y12_3, y12_4, y12_5, y12_6, y12_7, y12_8, y12_9, y12_10, y12_11, y12_12, y12_13] Q 8 #[false, true, true, true, true, true, false, false, false, false, false, false, false] { tmps := #[.func (.yield l) #[] #[], .pointer (some ⟨Bs, 0, none⟩), .pointer (some ⟨Ba, 0, none⟩), v3, v4, v5, v6, .int .i64 (p : Int), v8, v9, v10, v11, v12, v13, v14, v15, v16, v17, v18, v19, v20, v21, v22, v23, v24, v25, v26, v27, v28, .pointer (some ⟨Bs, 0, none⟩), .slice (some ⟨b, o, none⟩) NN vc, .int .i64 (p : Int), .pointer (some ⟨b, o + p * 43, none⟩), .agg cs.toArray, v34, v35, v36, v37, v38, v39, v40, v41, v42], defers := ds } W from by
  refine wpAnyIn_ready (rs := [0]) (by kernel_rfl) (by simp) ?_
  refine AllReadyIn.cons (o := y12_1) rfl (fun K hK => ?_) ?_
  ·go_simp
   refine hK _ _ ?_
   clear hK K
   (try simp only [Act.put]); (try simp only [List.setIfInBounds_toArray, List.set_cons_zero])
   exact unhide S0
  exact AllReadyIn.nil)
 have S4 := hide (show wpAnyIn Fence.wide n Tryz.prog .any #[y12_1, y12_2, y12_3, y12_4, y12_5, y12_6, y12_7, y12_8, y12_9, y12_10, y12_11, y12_12, y12_13] Q 9 #[false, true, true, true, true, false, false, false, false, false, false, false, false] { tmps := #[.func (.yield l) #[] #[], .pointer (some ⟨Bs, 0, none⟩), .pointer (some ⟨Ba, 0, none⟩), v3, v4, v5, v6, .int .i64 (p : Int), v8, v9, v10, v11, v12, v13, v14, v15, v16, v17, v18, v19, v20, v21, v22, v23, v24, v25, v26, v27, v28, .pointer (some ⟨Bs, 0, none⟩), .slice (some ⟨b, o, none⟩) NN vc, .int .i64 (p : Int), .pointer (some ⟨b, o + p * 43, none⟩), v33, v34, v35, v36, v37, v38, v39, v40, v41, v42], defers := ds } W from by
  refine wpAnyIn_ready (rs := [0, 5]) (by kernel_rfl) (by simp) ?_
  refine AllReadyIn.cons (o := y12_1) rfl (fun K hK => ?_) ?_
  ·go_simp
   refine hK _ _ ?_
   clear hK K
   (try simp only [Act.put]); (try simp only [List.setIfInBounds_toArray, List.set_cons_zero])
   exact unhide S1
  refine AllReadyIn.cons (o := y12_6) rfl (fun K hK => ?_) ?_
  ·refine wpIn_load_run _ _ rfl _ rfl hld ?_
   refine hK _ _ ?_
   clear hK K
   (try simp only [Act.put]); (try simp only [sqB, sq0, sq1])
   exact unhide S3
  exact AllReadyIn.nil)
 have S5 := hide (show wpAnyIn Fence.wide n Tryz.prog .any #[y12_1, y12_2, y12_3, y12_4, y12_5, y12_6, y12_7, y12_8, y12_9, y12_10, y12_11, y12_12, y12_13] Q 11 #[false, true, false, true, false, false, false, false, false, false, false, false, false] { tmps := #[.func (.yield l) #[] #[], .pointer (some ⟨Bs, 0, none⟩), .pointer (some ⟨Ba, 0, none⟩), v3, v4, v5, v6, .int .i64 (p : Int), v8, v9, v10, v11, v12, v13, v14, v15, v16, v17, v18, v19, v20, v21, v22, v23, v24, v25, v26, v27, v28, .pointer (some ⟨Bs, 0, none⟩), v30, .int .i64 (p : Int), v32, v33, v34, v35, v36, v37, v38, v39, v40, v41, v42], defers := ds } W from by
  refine wpAnyIn_ready (rs := [0, 2]) (by kernel_rfl) (by simp) ?_
  refine AllReadyIn.cons (o := y12_1) rfl (fun K hK => ?_) ?_
  ·go_simp
   refine hK _ _ ?_
   clear hK K
   (try simp only [Act.put]); (try simp only [List.setIfInBounds_toArray, List.set_cons_zero])
   exact unhide S2
  refine AllReadyIn.cons (o := y12_3) rfl (fun K hK => ?_) ?_
  ·go_simp
   refine hK _ _ ?_
   clear hK K
   (try simp only [Act.put]); (try simp only [sqB, sq0, sq1])
   refine wpAnyIn_take (i := 4) (oi := y12_5) (v := ?_) rfl rfl (by kernel_rfl) (by kernel_rfl) (by kernel_rfl) (fun c a w h => hQ c _ _ a w h) ⟨Or.inl ⟨by rfl, ?_⟩, fun _ => rfl⟩ ?_; rotate_left
   ·intro w; go_simp; try with_reducible rfl
   (try simp only [Act.put]); (try simp only [sqB, sq0, sq1])
   exact unhide S4
  exact AllReadyIn.nil)
 refine wpAnyIn_take (i := 1) (oi := y12_2) (v := ?_) rfl rfl (by kernel_rfl) (by kernel_rfl) (by kernel_rfl) (fun c a w h => hQ c _ _ a w h) ⟨Or.inl ⟨by rfl, ?_⟩, fun _ => rfl⟩ ?_; rotate_left
 ·intro w; go_simp; try with_reducible rfl
 (try simp only [Act.put]); (try simp only [sqB, sq0, sq1])
 refine wpAnyIn_take (i := 3) (oi := y12_4) (v := ?_) rfl rfl (by kernel_rfl) (by kernel_rfl) (by kernel_rfl) (fun c a w h => hQ c _ _ a w h) ⟨Or.inl ⟨by rfl, ?_⟩, fun _ => rfl⟩ ?_; rotate_left
 ·intro w; go_simp; try with_reducible rfl
 (try simp only [Act.put]); (try simp only [sqB, sq0, sq1])
 exact unhide S5
end Go.Proofs.YtdkpglmdncjnbaaGreatDoor
