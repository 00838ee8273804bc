import Derived.Test.YtdkpglmdncjnbaaGreatDoorZf23
namespace Go.Proofs.YtdkpglmdncjnbaaGreatDoor
open Go.RowKit Go.Maps
abbrev y24_1 : Oper := ⟨some 5, .load 66 (.tmp 2), 66, "check.go:33", #[], none⟩
abbrev y24_2 : Oper := ⟨some 6, .move (.tmp 1), 3, "check.go:33", #[], none⟩
abbrev y24_3 : Oper := ⟨some 7, .call { callee := .value (.func 58), args := #[.tmp 5, .tmp 6], argTypes := #[66, 3] }, 24, "check.go:33", #[⟨0, .data⟩, ⟨1, .data⟩], none⟩
abbrev y24_4 : Oper := ⟨some 8, .load 66 (.tmp 2), 66, "check.go:33", #[], none⟩
abbrev y24_5 : Oper := ⟨some 9, .move (.tmp 1), 3, "check.go:33", #[], none⟩
abbrev y24_6 : Oper := ⟨some 10, .call { callee := .value (.func 59), args := #[.tmp 8, .tmp 9], argTypes := #[66, 3] }, 24, "check.go:33", #[⟨3, .data⟩, ⟨4, .data⟩, ⟨2, .chain⟩], none⟩
abbrev y24_7 : Oper := ⟨some 11, .load 66 (.tmp 2), 66, "check.go:33", #[], none⟩
abbrev y24_8 : Oper := ⟨some 12, .move (.tmp 1), 3, "check.go:33", #[], none⟩
abbrev y24_9 : Oper := ⟨some 13, .call { callee := .value (.func 60), args := #[.tmp 11, .tmp 12], argTypes := #[66, 3] }, 24, "check.go:33", #[⟨6, .data⟩, ⟨7, .data⟩, ⟨5, .chain⟩], none⟩
abbrev y24_10 : Oper := ⟨some 14, .load 66 (.tmp 2), 66, "check.go:33", #[], none⟩
abbrev y24_11 : Oper := ⟨some 15, .move (.tmp 1), 3, "check.go:33", #[], none⟩
abbrev y24_12 : Oper := ⟨some 16, .call { callee := .value (.func 61), args := #[.tmp 14, .tmp 15], argTypes := #[66, 3] }, 24, "check.go:33", #[⟨9, .data⟩, ⟨10, .data⟩, ⟨8, .chain⟩], none⟩
abbrev y24_13 : Oper := ⟨some 17, .buildSlice 124 4 #[(0, .tmp 7), (1, .tmp 10), (2, .tmp 13), (3, .tmp 16)], 124, "check.go:33", #[⟨2, .data⟩, ⟨5, .data⟩, ⟨8, .data⟩, ⟨11, .data⟩], none⟩
abbrev y24_14 : Oper := ⟨some 18, .call { callee := .value (.func 57), args := #[.tmp 17], argTypes := #[124] }, 24, "check.go:33", #[⟨12, .data⟩, ⟨11, .chain⟩], none⟩
abbrev y24_15 : Oper := ⟨some 4, .assign (.tmp 18), 24, "check.go:33", #[⟨13, .data⟩, ⟨13, .chain⟩, ⟨0, .phase⟩, ⟨1, .phase⟩, ⟨2, .phase⟩, ⟨3, .phase⟩, ⟨4, .phase⟩, ⟨5, .phase⟩, ⟨6, .phase⟩, ⟨7, .phase⟩, ⟨8, .phase⟩, ⟨9, .phase⟩, ⟨10, .phase⟩, ⟨11, .phase⟩, ⟨12, .phase⟩, ⟨13, .phase⟩], none⟩
def ftA (ps : List Pk) (p : Nat) (q : Pk) : List Ft := twF ps p q ++ unF ps p q ++ cfJ ps p q q.cf.length ++ paJ ps p q q.fs.length
set_option maxRecDepth 100000 in
set_option maxHeartbeats 8000000 in
theorem rgE {Q : Exit → Act → World → Prop} {ps : List Pk} {p : Nat} {q : Pk} {B : Nat} {c0 c1 c2 c3 c4 : Value} {W : World} (hQ : ∀ c (d : Option Tmp) v a w, Q (.panic c) (a.put d v) w → Q (.panic c) a w)
 (hS : ∀ X, RowKit.Below W.heap.size W X → X.cell? ⟨B, 0, none⟩ = some c0 ∧ X.cell? ⟨B, 1, none⟩ = some c1 ∧ X.cell? ⟨B, 2, none⟩ = some c2 ∧ X.cell? ⟨B, 3, none⟩ = some c3 ∧ X.cell? ⟨B, 4, none⟩ = some c4)
 (C2 : ∀ X, RowKit.Below W.heap.size W X → Calls Tryz.prog 58 #[.agg #[c0, c1, c2, c3, c4], .int .i64 (p : Int)] X fun e w' => ∃ r, e = .returned r ∧ w'.ownsRow X.heap.size 31 6 r (twF ps p q).length (ftC (twF ps p q)) ∧ RowKit.Below X.heap.size X w')
 (C5 : ∀ X, RowKit.Below W.heap.size W X → Calls Tryz.prog 59 #[.agg #[c0, c1, c2, c3, c4], .int .i64 (p : Int)] X fun e w' => ∃ r, e = .returned r ∧ w'.ownsRow X.heap.size 31 6 r (unF ps p q).length (ftC (unF ps p q)) ∧ RowKit.Below X.heap.size X w')
 (C8 : ∀ X, RowKit.Below W.heap.size W X → Calls Tryz.prog 60 #[.agg #[c0, c1, c2, c3, c4], .int .i64 (p : Int)] X fun e w' => ∃ r, e = .returned r ∧ w'.ownsRow X.heap.size 31 6 r (cfJ ps p q q.cf.length).length (ftC (cfJ ps p q q.cf.length)) ∧ RowKit.Below X.heap.size X w')
 (C11 : ∀ X, RowKit.Below W.heap.size W X → Calls Tryz.prog 61 #[.agg #[c0, c1, c2, c3, c4], .int .i64 (p : Int)] X fun e w' => ∃ r, e = .returned r ∧ w'.ownsRow X.heap.size 31 6 r (paJ ps p q q.fs.length).length (ftC (paJ ps p q q.fs.length)) ∧ RowKit.Below X.heap.size X w')
 (htot : (twF ps p q).length + (unF ps p q).length + (cfJ ps p q q.cf.length).length + (paJ ps p q q.fs.length).length ≤ 549755813888)
 (KEY : ∀ (a2 : Option Addr) (n2 k2 : Nat) (a5 : Option Addr) (n5 k5 : Nat) (a8 : Option Addr) (n8 k8 : Nat) (a11 : Option Addr) (n11 k11 : Nat) (G : Nat) (r : Value) (X : World), (∃ lo, W.heap.size ≤ lo ∧ X.ownsRow lo 31 6 r (ftA ps p q).length (ftC (ftA ps p q))) → RowKit.Below W.heap.size W X → Q .normal { tmps := #[.agg #[c0, c1, c2, c3, c4], .int .i64 (p : Int), .pointer (some ⟨B, 0, none⟩), undef, r, .agg #[c0, c1, c2, c3, c4], .int .i64 (p : Int), .slice a2 n2 k2, .agg #[c0, c1, c2, c3, c4], .int .i64 (p : Int), .slice a5 n5 k5, .agg #[c0, c1, c2, c3, c4], .int .i64 (p : Int), .slice a8 n8 k8, .agg #[c0, c1, c2, c3, c4], .int .i64 (p : Int), .slice a11 n11 k11, .slice (some ⟨G, 0, none⟩) 4 4, r], defers := [] } X) :
 (Code.region 1 #[y24_1, y24_2, y24_3, y24_4, y24_5, y24_6, y24_7, y24_8, y24_9, y24_10, y24_11, y24_12, y24_13, y24_14, y24_15] true).wp Tryz.prog Q { tmps := #[.agg #[c0, c1, c2, c3, c4], .int .i64 (p : Int), .pointer (some ⟨B, 0, none⟩), undef, .slice none 0 0, undef, undef, undef, undef, undef, undef, undef, undef, undef, undef, undef, undef, undef, undef], defers := [] } W := by
 have HS := hide hS
 have HT := hide htot
 have HKEY := hide KEY
 have H2 := hide C2
 have H5 := hide C5
 have H8 := hide C8
 have H11 := hide C11
 clear hS htot KEY C2 C5 C8 C11
 have B0 := hide ((Below.refl W.heap.size W).drew)
 have S2_5_8_11 := hide (show ∀ (X : World) (a2 : Option Addr) (n2 k2 : Nat) (a5 : Option Addr) (n5 k5 : Nat) (a8 : Option Addr) (n8 k8 : Nat) (a11 : Option Addr) (n11 k11 : Nat), RowKit.Below W.heap.size W X → (∃ lo, X.ownsRow lo 31 6 (.slice a2 n2 k2) (twF ps p q).length (ftC (twF ps p q))) → (∃ lo, X.ownsRow lo 31 6 (.slice a5 n5 k5) (unF ps p q).length (ftC (unF ps p q))) → (∃ lo, X.ownsRow lo 31 6 (.slice a8 n8 k8) (cfJ ps p q q.cf.length).length (ftC (cfJ ps p q q.cf.length))) → (∃ lo, X.ownsRow lo 31 6 (.slice a11 n11 k11) (paJ ps p q q.fs.length).length (ftC (paJ ps p q q.fs.length))) → wpAnyH Tryz.prog .any #[y24_1, y24_2, y24_3, y24_4, y24_5, y24_6, y24_7, y24_8, y24_9, y24_10, y24_11, y24_12, y24_13, y24_14, y24_15] Q (fun w' => w'.cell? ⟨B, 0, none⟩ = some c0 ∧ w'.cell? ⟨B, 1, none⟩ = some c1 ∧ w'.cell? ⟨B, 2, none⟩ = some c2 ∧ w'.cell? ⟨B, 3, none⟩ = some c3 ∧ w'.cell? ⟨B, 4, none⟩ = some c4) 3 #[true, true, true, true, true, true, true, true, true, true, true, true, false, false, false] { tmps := #[.agg #[c0, c1, c2, c3, c4], .int .i64 (p : Int), .pointer (some ⟨B, 0, none⟩), undef, .slice none 0 0, .agg #[c0, c1, c2, c3, c4], .int .i64 (p : Int), .slice a2 n2 k2, .agg #[c0, c1, c2, c3, c4], .int .i64 (p : Int), .slice a5 n5 k5, .agg #[c0, c1, c2, c3, c4], .int .i64 (p : Int), .slice a8 n8 k8, .agg #[c0, c1, c2, c3, c4], .int .i64 (p : Int), .slice a11 n11 k11, undef, undef], defers := [] } X from fun X a2 n2 k2 a5 n5 k5 a8 n8 k8 a11 n11 k11 hX h2 h5 h8 h11 => by
  have hHeld := unhide HS X hX
  refine wpAnyH_ready (rs := [12]) (by kernel_rfl) (by simp) ?_
  refine AllReadyH.cons (o := y24_13) rfl (fun K hK => ?_) AllReadyH.nil
  go_simp
  obtain ⟨Y, hY⟩ : ∃ Y, Y = X.alloc (.cells #[.slice a2 n2 k2, .slice a5 n5 k5, .slice a8 n8 k8, .slice a11 n11 k11] 24) := ⟨_, rfl⟩
  have hbY : RowKit.Below X.heap.size X Y := by rw [hY]; exact (Below.refl _ X).alloc (Nat.le_refl _) _
  have hXY := bl_t hX hbY
  have hYb : Y.heap[X.heap.size]? = some (.cells (([⟨a2, n2, k2⟩, ⟨a5, n5, k5⟩, ⟨a8, n8, k8⟩, ⟨a11, n11, k11⟩] : List Hd).map hv).toArray 24 (0, 0)) := by rw [hY]; exact World.alloc_heap_new X _
  have g2 : ∃ lo, Y.ownsRow lo 31 6 (.slice a2 n2 k2) (twF ps p q).length (ftC (twF ps p q)) := let ⟨lo, h⟩ := h2; ⟨lo, own_same h fun b e => hbY.block b (World.ownsRow.lt h b e).2⟩
  have g5 : ∃ lo, Y.ownsRow lo 31 6 (.slice a5 n5 k5) (unF ps p q).length (ftC (unF ps p q)) := let ⟨lo, h⟩ := h5; ⟨lo, own_same h fun b e => hbY.block b (World.ownsRow.lt h b e).2⟩
  have g8 : ∃ lo, Y.ownsRow lo 31 6 (.slice a8 n8 k8) (cfJ ps p q q.cf.length).length (ftC (cfJ ps p q q.cf.length)) := let ⟨lo, h⟩ := h8; ⟨lo, own_same h fun b e => hbY.block b (World.ownsRow.lt h b e).2⟩
  have g11 : ∃ lo, Y.ownsRow lo 31 6 (.slice a11 n11 k11) (paJ ps p q q.fs.length).length (ftC (paJ ps p q q.fs.length)) := let ⟨lo, h⟩ := h11; ⟨lo, own_same h fun b e => hbY.block b (World.ownsRow.lt h b e).2⟩
  rw [← hY]
  refine hK.out _ _ (unhide HS Y hXY) (fun _ => ?_)
  clear hK K hHeld hY
  try simp only [List.setIfInBounds_toArray, List.set_cons_zero, List.set_cons_succ]
  have CC := concat_any (w := Y) (B := X.heap.size) (hs := [⟨a2, n2, k2⟩, ⟨a5, n5, k5⟩, ⟨a8, n8, k8⟩, ⟨a11, n11, k11⟩]) (ls := [twF ps p q, unF ps p q, cfJ ps p q q.cf.length, paJ ps p q q.fs.length]) rfl hYb (fun i h l e1 e2 => by
   match i, e1, e2 with
   | 0, e1, e2 => cases e1; cases e2; exact g2
   | 1, e1, e2 => cases e1; cases e2; exact g5
   | 2, e1, e2 => cases e1; cases e2; exact g8
   | 3, e1, e2 => cases e1; cases e2; exact g11
   | (j + 4), e1, e2 => simp at e1) (show 4 ≤ 1000 by decide) (by have := unhide HT; simp [totL]; omega)
  refine wpAnyH_ready (rs := [13]) (by kernel_rfl) (by simp) ?_
  refine AllReadyH.cons (o := y24_14) rfl (fun K hK => ?_) AllReadyH.nil
  go_simp
  refine Calls.mono CC ?_
  rintro e Z ⟨r, rfl, hrow, hbZ⟩
  have hXZ := bl_t hXY hbZ
  have hfin : ∃ lo, W.heap.size ≤ lo ∧ Z.ownsRow lo 31 6 r (ftA ps p q).length (ftC (ftA ps p q)) := ⟨Y.heap.size, hXY.size, by
   rw [show ftA ps p q = List.flatten [twF ps p q, unF ps p q, cfJ ps p q q.cf.length, paJ ps p q q.fs.length] from by simp [ftA]]
   exact hrow⟩
  refine hK.out _ _ (unhide HS Z hXZ) (fun _ => ?_)
  clear hK K CC
  try simp only [List.setIfInBounds_toArray, List.set_cons_zero, List.set_cons_succ]
  refine wpAnyH_ready (rs := [14]) (by kernel_rfl) (by simp) ?_
  refine AllReadyH.cons (o := y24_15) rfl (fun K hK => ?_) AllReadyH.nil
  go_simp
  refine hK.out _ _ (unhide HS Z hXZ) (fun _ => ?_)
  clear hK K
  try simp only [List.setIfInBounds_toArray, List.set_cons_zero, List.set_cons_succ]
  refine wpAnyH_done (by kernel_rfl) ?_ _
  exact unhide HKEY a2 n2 k2 a5 n5 k5 a8 n8 k8 a11 n11 k11 X.heap.size r Z hfin hXZ)
 have S2_5_8 := hide (show ∀ (X : World) (a2 : Option Addr) (n2 k2 : Nat) (a5 : Option Addr) (n5 k5 : Nat) (a8 : Option Addr) (n8 k8 : Nat), RowKit.Below W.heap.size W X → (∃ lo, X.ownsRow lo 31 6 (.slice a2 n2 k2) (twF ps p q).length (ftC (twF ps p q))) → (∃ lo, X.ownsRow lo 31 6 (.slice a5 n5 k5) (unF ps p q).length (ftC (unF ps p q))) → (∃ lo, X.ownsRow lo 31 6 (.slice a8 n8 k8) (cfJ ps p q q.cf.length).length (ftC (cfJ ps p q q.cf.length))) → wpAnyH Tryz.prog .any #[y24_1, y24_2, y24_3, y24_4, y24_5, y24_6, y24_7, y24_8, y24_9, y24_10, y24_11, y24_12, y24_13, y24_14, y24_15] Q (fun w' => w'.cell? ⟨B, 0, none⟩ = some c0 ∧ w'.cell? ⟨B, 1, none⟩ = some c1 ∧ w'.cell? ⟨B, 2, none⟩ = some c2 ∧ w'.cell? ⟨B, 3, none⟩ = some c3 ∧ w'.cell? ⟨B, 4, none⟩ = some c4) 4 #[true, true, true, true, true, true, true, true, true, true, true, false, false, false, false] { tmps := #[.agg #[c0, c1, c2, c3, c4], .int .i64 (p : Int), .pointer (some ⟨B, 0, none⟩), undef, .slice none 0 0, .agg #[c0, c1, c2, c3, c4], .int .i64 (p : Int), .slice a2 n2 k2, .agg #[c0, c1, c2, c3, c4], .int .i64 (p : Int), .slice a5 n5 k5, .agg #[c0, c1, c2, c3, c4], .int .i64 (p : Int), .slice a8 n8 k8, .agg #[c0, c1, c2, c3, c4], .int .i64 (p : Int), undef, undef, undef], defers := [] } X from fun X a2 n2 k2 a5 n5 k5 a8 n8 k8 hX h2 h5 h8 => by
  have hHeld := unhide HS X hX
  refine wpAnyH_ready (rs := [11]) (by kernel_rfl) (by simp) ?_
  refine AllReadyH.cons (o := y24_12) rfl (fun K hK => ?_) ?_
  ·go_simp
   refine (unhide H11 X hX).mono ?_
   rintro e X2 ⟨r, rfl, hrow, hb⟩
   obtain ⟨⟨ra, rn, rk⟩, rfl, _⟩ := slice_hd hrow
   have hX2 := bl_t hX hb
   refine hK.out _ _ (unhide HS X2 hX2) (fun _ => ?_)
   clear hK K hHeld
   try simp only [hv, List.setIfInBounds_toArray, List.set_cons_zero, List.set_cons_succ]
   exact unhide S2_5_8_11 X2 a2 n2 k2 a5 n5 k5 a8 n8 k8 ra rn rk hX2 (let ⟨lo, h⟩ := h2; ⟨lo, own_same h fun b e => hb.block b (World.ownsRow.lt h b e).2⟩) (let ⟨lo, h⟩ := h5; ⟨lo, own_same h fun b e => hb.block b (World.ownsRow.lt h b e).2⟩) (let ⟨lo, h⟩ := h8; ⟨lo, own_same h fun b e => hb.block b (World.ownsRow.lt h b e).2⟩) ⟨_, hrow⟩
  exact AllReadyH.nil)
 have S2_5 := hide (show ∀ (X : World) (a2 : Option Addr) (n2 k2 : Nat) (a5 : Option Addr) (n5 k5 : Nat), RowKit.Below W.heap.size W X → (∃ lo, X.ownsRow lo 31 6 (.slice a2 n2 k2) (twF ps p q).length (ftC (twF ps p q))) → (∃ lo, X.ownsRow lo 31 6 (.slice a5 n5 k5) (unF ps p q).length (ftC (unF ps p q))) → wpAnyH Tryz.prog .any #[y24_1, y24_2, y24_3, y24_4, y24_5, y24_6, y24_7, y24_8, y24_9, y24_10, y24_11, y24_12, y24_13, y24_14, y24_15] Q (fun w' => w'.cell? ⟨B, 0, none⟩ = some c0 ∧ w'.cell? ⟨B, 1, none⟩ = some c1 ∧ w'.cell? ⟨B, 2, none⟩ = some c2 ∧ w'.cell? ⟨B, 3, none⟩ = some c3 ∧ w'.cell? ⟨B, 4, none⟩ = some c4) 5 #[true, true, true, true, true, true, true, true, false, true, true, false, false, false, false] { tmps := #[.agg #[c0, c1, c2, c3, c4], .int .i64 (p : Int), .pointer (some ⟨B, 0, none⟩), undef, .slice none 0 0, .agg #[c0, c1, c2, c3, c4], .int .i64 (p : Int), .slice a2 n2 k2, .agg #[c0, c1, c2, c3, c4], .int .i64 (p : Int), .slice a5 n5 k5, .agg #[c0, c1, c2, c3, c4], .int .i64 (p : Int), undef, .agg #[c0, c1, c2, c3, c4], .int .i64 (p : Int), undef, undef, undef], defers := [] } X from fun X a2 n2 k2 a5 n5 k5 hX h2 h5 => by
  have hHeld := unhide HS X hX
  refine wpAnyH_ready (rs := [8]) (by kernel_rfl) (by simp) ?_
  refine AllReadyH.cons (o := y24_9) rfl (fun K hK => ?_) ?_
  ·go_simp
   refine (unhide H8 X hX).mono ?_
   rintro e X2 ⟨r, rfl, hrow, hb⟩
   obtain ⟨⟨ra, rn, rk⟩, rfl, _⟩ := slice_hd hrow
   have hX2 := bl_t hX hb
   refine hK.out _ _ (unhide HS X2 hX2) (fun _ => ?_)
   clear hK K hHeld
   try simp only [hv, List.setIfInBounds_toArray, List.set_cons_zero, List.set_cons_succ]
   exact unhide S2_5_8 X2 a2 n2 k2 a5 n5 k5 ra rn rk hX2 (let ⟨lo, h⟩ := h2; ⟨lo, own_same h fun b e => hb.block b (World.ownsRow.lt h b e).2⟩) (let ⟨lo, h⟩ := h5; ⟨lo, own_same h fun b e => hb.block b (World.ownsRow.lt h b e).2⟩) ⟨_, hrow⟩
  exact AllReadyH.nil)
 have S2 := hide (show ∀ (X : World) (a2 : Option Addr) (n2 k2 : Nat), RowKit.Below W.heap.size W X → (∃ lo, X.ownsRow lo 31 6 (.slice a2 n2 k2) (twF ps p q).length (ftC (twF ps p q))) → wpAnyH Tryz.prog .any #[y24_1, y24_2, y24_3, y24_4, y24_5, y24_6, y24_7, y24_8, y24_9, y24_10, y24_11, y24_12, y24_13, y24_14, y24_15] Q (fun w' => w'.cell? ⟨B, 0, none⟩ = some c0 ∧ w'.cell? ⟨B, 1, none⟩ = some c1 ∧ w'.cell? ⟨B, 2, none⟩ = some c2 ∧ w'.cell? ⟨B, 3, none⟩ = some c3 ∧ w'.cell? ⟨B, 4, none⟩ = some c4) 6 #[true, true, true, true, true, false, true, true, false, true, true, false, false, false, false] { tmps := #[.agg #[c0, c1, c2, c3, c4], .int .i64 (p : Int), .pointer (some ⟨B, 0, none⟩), undef, .slice none 0 0, .agg #[c0, c1, c2, c3, c4], .int .i64 (p : Int), .slice a2 n2 k2, .agg #[c0, c1, c2, c3, c4], .int .i64 (p : Int), undef, .agg #[c0, c1, c2, c3, c4], .int .i64 (p : Int), undef, .agg #[c0, c1, c2, c3, c4], .int .i64 (p : Int), undef, undef, undef], defers := [] } X from fun X a2 n2 k2 hX h2 => by
  have hHeld := unhide HS X hX
  refine wpAnyH_ready (rs := [5]) (by kernel_rfl) (by simp) ?_
  refine AllReadyH.cons (o := y24_6) rfl (fun K hK => ?_) ?_
  ·go_simp
   refine (unhide H5 X hX).mono ?_
   rintro e X2 ⟨r, rfl, hrow, hb⟩
   obtain ⟨⟨ra, rn, rk⟩, rfl, _⟩ := slice_hd hrow
   have hX2 := bl_t hX hb
   refine hK.out _ _ (unhide HS X2 hX2) (fun _ => ?_)
   clear hK K hHeld
   try simp only [hv, List.setIfInBounds_toArray, List.set_cons_zero, List.set_cons_succ]
   exact unhide S2_5 X2 a2 n2 k2 ra rn rk hX2 (let ⟨lo, h⟩ := h2; ⟨lo, own_same h fun b e => hb.block b (World.ownsRow.lt h b e).2⟩) ⟨_, hrow⟩
  exact AllReadyH.nil)
 have S0 := hide (show ∀ (X : World) , RowKit.Below W.heap.size W X → wpAnyH Tryz.prog .any #[y24_1, y24_2, y24_3, y24_4, y24_5, y24_6, y24_7, y24_8, y24_9, y24_10, y24_11, y24_12, y24_13, y24_14, y24_15] Q (fun w' => w'.cell? ⟨B, 0, none⟩ = some c0 ∧ w'.cell? ⟨B, 1, none⟩ = some c1 ∧ w'.cell? ⟨B, 2, none⟩ = some c2 ∧ w'.cell? ⟨B, 3, none⟩ = some c3 ∧ w'.cell? ⟨B, 4, none⟩ = some c4) 7 #[true, true, false, true, true, false, true, true, false, true, true, false, false, false, false] { tmps := #[.agg #[c0, c1, c2, c3, c4], .int .i64 (p : Int), .pointer (some ⟨B, 0, none⟩), undef, .slice none 0 0, .agg #[c0, c1, c2, c3, c4], .int .i64 (p : Int), undef, .agg #[c0, c1, c2, c3, c4], .int .i64 (p : Int), undef, .agg #[c0, c1, c2, c3, c4], .int .i64 (p : Int), undef, .agg #[c0, c1, c2, c3, c4], .int .i64 (p : Int), undef, undef, undef], defers := [] } X from fun X  hX  => by
  have hHeld := unhide HS X hX
  refine wpAnyH_ready (rs := [2]) (by kernel_rfl) (by simp) ?_
  refine AllReadyH.cons (o := y24_3) rfl (fun K hK => ?_) ?_
  ·go_simp
   refine (unhide H2 X hX).mono ?_
   rintro e X2 ⟨r, rfl, hrow, hb⟩
   obtain ⟨⟨ra, rn, rk⟩, rfl, _⟩ := slice_hd hrow
   have hX2 := bl_t hX hb
   refine hK.out _ _ (unhide HS X2 hX2) (fun _ => ?_)
   clear hK K hHeld
   try simp only [hv, List.setIfInBounds_toArray, List.set_cons_zero, List.set_cons_succ]
   exact unhide S2 X2 ra rn rk hX2 ⟨_, hrow⟩
  exact AllReadyH.nil)
 refine wp_region_held_drew (S := fun w' => w'.cell? ⟨B, 0, none⟩ = some c0 ∧ w'.cell? ⟨B, 1, none⟩ = some c1 ∧ w'.cell? ⟨B, 2, none⟩ = some c2 ∧ w'.cell? ⟨B, 3, none⟩ = some c3 ∧ w'.cell? ⟨B, 4, none⟩ = some c4) (by kernel_rfl) (unhide HS _ (unhide B0)) (fun hHeld => ?_)
 refine wpAnyH_take (i := 0) (oi := y24_1) (v := ?_) rfl (by kernel_rfl) (by kernel_rfl) (by kernel_rfl) (fun c a w h => hQ c _ _ a w h) (Or.inl ⟨by rfl, ?_⟩) (by assumption) ?_; rotate_left
 ·intro w hSw; (try dsimp only at hSw); go_simp; (try with_reducible rfl)
 try simp only [Act.put, sqB, sq0, sq1]
 refine wpAnyH_take (i := 1) (oi := y24_2) (v := ?_) rfl (by kernel_rfl) (by kernel_rfl) (by kernel_rfl) (fun c a w h => hQ c _ _ a w h) (Or.inl ⟨by rfl, ?_⟩) (by assumption) ?_; rotate_left
 ·intro w hSw; (try dsimp only at hSw); go_simp; (try with_reducible rfl)
 try simp only [Act.put, sqB, sq0, sq1]
 refine wpAnyH_take (i := 3) (oi := y24_4) (v := ?_) rfl (by kernel_rfl) (by kernel_rfl) (by kernel_rfl) (fun c a w h => hQ c _ _ a w h) (Or.inl ⟨by rfl, ?_⟩) (by assumption) ?_; rotate_left
 ·intro w hSw; (try dsimp only at hSw); go_simp; (try with_reducible rfl)
 try simp only [Act.put, sqB, sq0, sq1]
 refine wpAnyH_take (i := 4) (oi := y24_5) (v := ?_) rfl (by kernel_rfl) (by kernel_rfl) (by kernel_rfl) (fun c a w h => hQ c _ _ a w h) (Or.inl ⟨by rfl, ?_⟩) (by assumption) ?_; rotate_left
 ·intro w hSw; (try dsimp only at hSw); go_simp; (try with_reducible rfl)
 try simp only [Act.put, sqB, sq0, sq1]
 refine wpAnyH_take (i := 6) (oi := y24_7) (v := ?_) rfl (by kernel_rfl) (by kernel_rfl) (by kernel_rfl) (fun c a w h => hQ c _ _ a w h) (Or.inl ⟨by rfl, ?_⟩) (by assumption) ?_; rotate_left
 ·intro w hSw; (try dsimp only at hSw); go_simp; (try with_reducible rfl)
 try simp only [Act.put, sqB, sq0, sq1]
 refine wpAnyH_take (i := 7) (oi := y24_8) (v := ?_) rfl (by kernel_rfl) (by kernel_rfl) (by kernel_rfl) (fun c a w h => hQ c _ _ a w h) (Or.inl ⟨by rfl, ?_⟩) (by assumption) ?_; rotate_left
 ·intro w hSw; (try dsimp only at hSw); go_simp; (try with_reducible rfl)
 try simp only [Act.put, sqB, sq0, sq1]
 refine wpAnyH_take (i := 9) (oi := y24_10) (v := ?_) rfl (by kernel_rfl) (by kernel_rfl) (by kernel_rfl) (fun c a w h => hQ c _ _ a w h) (Or.inl ⟨by rfl, ?_⟩) (by assumption) ?_; rotate_left
 ·intro w hSw; (try dsimp only at hSw); go_simp; (try with_reducible rfl)
 try simp only [Act.put, sqB, sq0, sq1]
 refine wpAnyH_take (i := 10) (oi := y24_11) (v := ?_) rfl (by kernel_rfl) (by kernel_rfl) (by kernel_rfl) (fun c a w h => hQ c _ _ a w h) (Or.inl ⟨by rfl, ?_⟩) (by assumption) ?_; rotate_left
 ·intro w hSw; (try dsimp only at hSw); go_simp; (try with_reducible rfl)
 try simp only [Act.put, sqB, sq0, sq1]
 exact unhide S0 W.drew (unhide B0)
end Go.Proofs.YtdkpglmdncjnbaaGreatDoor
