import Derived.Test.YtijpcmplbpknlaaShG
namespace Go.Proofs.Ytijpcmplbpknlaa
open Go.RowKit

set_option maxRecDepth 100000 in
set_option maxHeartbeats 2000000 in
theorem shaTexts_walk (l : Bs) (hl : l.length = 32) (s : Bs) (w : World) :
    Calls Try.prog 4 #[agB l, .string (ba s)] w fun e w' => e = .returned (.bool true) ∧ Below w.heap.size w w' := by
  go_enter Try.func4, Try.ntmps4
  go_wp2_with (first
    | (with_reducible refine w_box l hl _ rfl rfl rfl ?_; intro w1 b1 l1 z1))
  refine (Parse_any s _).mono ?_
  rintro e w2 ⟨rfl, hb2⟩
  have B0 := hide (b1.later hb2)
  have HB := hide (bl_t l1 hb2)
  clear b1 l1 z1 hb2
  go_wp2_with (first
    | (with_reducible refine w_alloc rfl rfl ?_; intro w3 b3 l3 z3)
    | (with_reducible refine w_store _ _ rfl rfl w2.heap.size rfl (prs s) rfl (prs_len s) zr b3 ?_; intro w4 b4 o4 l4 z4))
  have hlt2 := (unhide HB).size
  have hlt0 : w.heap.size < w2.heap.size := (unhide B0).lt
  have HB4 := hide (bl_t (unhide HB) (l3.trans (l4 _ (Nat.le_refl _))))
  have B04 := hide (((unhide B0).later l3).of (o4 _ (by omega)))
  clear B0 HB b3 l3 o4 l4
  refine (rParse_any s _).mono ?_
  rintro e w5 ⟨rfl, hb5⟩
  have B05 := hide ((unhide B04).later hb5)
  have B15 := hide (b4.later hb5)
  have HB5 := hide (bl_t (unhide HB4) hb5)
  have hz5 := hb5.size
  clear B04 HB4 b4 hb5 z3 z4
  generalize hg1 : w2.heap.size = g1 at *
  clear hg1
  go_wp2_with (first
    | (with_reducible refine w_alloc rfl rfl ?_; intro w6 b6 l6 z6)
    | (with_reducible refine w_store _ _ rfl rfl w5.heap.size rfl (prs s) rfl (prs_len s) zr b6 ?_; intro w7 b7 o7 l7 z7))
  have lt1 := (unhide B15).lt
  have lt0 := (unhide B05).lt
  have B0 := hide (((unhide B05).later l6).of (o7 _ (by omega)))
  have B1 := hide (((unhide B15).later l6).of (o7 _ (by omega)))
  have HB := hide (bl_t (unhide HB5) (l6.trans (l7 _ (Nat.le_refl _))))
  have B2 := hide b7
  clear B05 B15 HB5 b6 l6 o7 l7 z6 z7 b7 hz5 hlt2 hlt0 lt1 lt0
  generalize hg2 : w5.heap.size = g2 at *
  clear hg2
  have c1 := hide (fun w => Text_any l hl w)
  have c2 := hide (fun w => rText_any l hl w)
  have e1 := eql_b (prs s) (prs s) (prs_len s) (prs_len s)
  simp only [decide_true] at e1
  have HL := hide hl
  clear hl
  refine wp_region_held_drew (S := fun w' => Bk w' w.heap.size l ∧ Bk w' g1 (prs s) ∧ Bk w' g2 (prs s)) (by kernel_rfl) ?_ (fun hHeld => ?_)
  · exact ⟨(unhide B0).of rfl, (unhide B1).of rfl, (unhide B2).of rfl⟩
  refine wpAnyH_take (i := 0) (oi := { dst := some 19, op := Op.load 22 (Operand.tmp 5), type := 22, pos := "law.go:106", after := #[], guard := none }) (v := agB (prs s)) rfl (by kernel_rfl) (by kernel_rfl) (by kernel_rfl) (fun _ _ _ h => h) (Or.inl ⟨by rfl, by intro w hSw; exact ex_load rfl rfl hSw.2.1⟩) (by assumption) ?_
  try simp only [Act.put, List.setIfInBounds_toArray, List.set_cons_zero, List.set_cons_succ]
  refine wpAnyH_take (i := 1) (oi := { dst := some 20, op := Op.load 22 (Operand.tmp 7), type := 22, pos := "law.go:106", after := #[], guard := none }) (v := agB (prs s)) rfl (by kernel_rfl) (by kernel_rfl) (by kernel_rfl) (fun _ _ _ h => h) (Or.inl ⟨by rfl, by intro w hSw; exact ex_load rfl rfl hSw.2.2⟩) (by assumption) ?_
  try simp only [Act.put, List.setIfInBounds_toArray, List.set_cons_zero, List.set_cons_succ]
  refine wpAnyH_take (i := 2) (oi := { dst := some 21, op := Op.binOp BinOp.eql 22 (Operand.tmp 19) (Operand.tmp 20) 22, type := 4, pos := "law.go:106", after := #[{ on := 0, ground := Ground.data }, { on := 1, ground := Ground.data }], guard := none }) (v := .bool true) rfl (by kernel_rfl) (by kernel_rfl) (by kernel_rfl) (fun _ _ _ h => h) (Or.inl ⟨by rfl, by intro w hSw; have g1 := gd_b .eql; go_simp⟩) (by assumption) ?_
  try simp only [Act.put, List.setIfInBounds_toArray, List.set_cons_zero, List.set_cons_succ]
  refine wpAnyH_take (i := 3) (oi := { dst := some 22, op := Op.move (Operand.tmp 21), type := 4, pos := "law.go:106", after := #[{ on := 2, ground := Ground.data }], guard := none }) (v := ?_) rfl (by kernel_rfl) (by kernel_rfl) (by kernel_rfl) (fun _ _ _ h => h) (Or.inl ⟨by rfl, ?_⟩) (by assumption) ?_
  rotate_left
  · intro w hSw; (try dsimp only at hSw); go_simp; (try with_reducible rfl)
  try simp only [Act.put, List.setIfInBounds_toArray, List.set_cons_zero, List.set_cons_succ]
  refine wpAnyH_take (i := 4) (oi := { dst := some 23, op := Op.move (Operand.tmp 6), type := 24, pos := "law.go:106", after := #[{ on := 3, ground := Ground.guard }], guard := some (3, true) }) (v := ?_) rfl (by kernel_rfl) (by kernel_rfl) (by kernel_rfl) (fun _ _ _ h => h) (Or.inl ⟨by rfl, ?_⟩) (by assumption) ?_
  rotate_left
  · intro w hSw; (try dsimp only at hSw); go_simp; (try with_reducible rfl)
  try simp only [Act.put, List.setIfInBounds_toArray, List.set_cons_zero, List.set_cons_succ]
  refine wpAnyH_take (i := 6) (oi := { dst := some 25, op := Op.move (Operand.tmp 8), type := 3, pos := "law.go:106", after := #[{ on := 3, ground := Ground.guard }], guard := some (3, true) }) (v := ?_) rfl (by kernel_rfl) (by kernel_rfl) (by kernel_rfl) (fun _ _ _ h => h) (Or.inl ⟨by rfl, ?_⟩) (by assumption) ?_
  rotate_left
  · intro w hSw; (try dsimp only at hSw); go_simp; (try with_reducible rfl)
  try simp only [Act.put, List.setIfInBounds_toArray, List.set_cons_zero, List.set_cons_succ]
  refine wpAnyH_ready (rs := [5]) (by kernel_rfl) (by simp) ?_
  refine AllReadyH.cons (o := { dst := some 24, op := Op.call { callee := Callee.value (Operand.func 8), args := #[Operand.tmp 23], argTypes := #[24] }, type := 3, pos := "law.go:106", after := #[{ on := 4, ground := Ground.data }, { on := 3, ground := Ground.chain }, { on := 3, ground := Ground.guard }], guard := some (3, true) }) rfl (fun K hK => ?_) AllReadyH.nil
  go_simp
  refine (num_any _ _).mono ?_
  rintro e w4 ⟨rfl, rfl⟩
  go_wp2_with fail
  refine hK.out _ _ (by assumption) (fun hHeld2 => ?_)
  clear hK K hHeld2
  try simp only [Act.put, List.setIfInBounds_toArray, List.set_cons_zero, List.set_cons_succ]
  refine wpAnyH_take (i := 7) (oi := { dst := some 26, op := Op.binOp BinOp.eql 3 (Operand.tmp 24) (Operand.tmp 25) 3, type := 4, pos := "law.go:106", after := #[{ on := 5, ground := Ground.data }, { on := 6, ground := Ground.data }, { on := 3, ground := Ground.guard }], guard := some (3, true) }) (v := .bool true) rfl (by kernel_rfl) (by kernel_rfl) (by kernel_rfl) (fun _ _ _ h => h) (Or.inl ⟨by rfl, by intro w hSw; go_simp⟩) (by assumption) ?_
  try simp only [Act.put, List.setIfInBounds_toArray, List.set_cons_zero, List.set_cons_succ]
  refine wpAnyH_take (i := 8) (oi := { dst := some 27, op := Op.pick (Operand.tmp 22) (Operand.tmp 26) (Operand.const (Value.bool false)), type := 4, pos := "law.go:106", after := #[{ on := 3, ground := Ground.data }, { on := 7, ground := Ground.data }], guard := none }) (v := .bool true) rfl (by kernel_rfl) (by kernel_rfl) (by kernel_rfl) (fun _ _ _ h => h) (Or.inl ⟨by rfl, by intro w hSw; go_simp⟩) (by assumption) ?_
  try simp only [Act.put, List.setIfInBounds_toArray, List.set_cons_zero, List.set_cons_succ]
  refine wpAnyH_take (i := 9) (oi := { dst := some 28, op := Op.move (Operand.tmp 27), type := 4, pos := "law.go:106", after := #[{ on := 8, ground := Ground.data }, { on := 5, ground := Ground.chain }], guard := none }) (v := ?_) rfl (by kernel_rfl) (by kernel_rfl) (by kernel_rfl) (fun _ _ _ h => h) (Or.inl ⟨by rfl, ?_⟩) (by assumption) ?_
  rotate_left
  · intro w hSw; (try dsimp only at hSw); go_simp; (try with_reducible rfl)
  try simp only [Act.put, List.setIfInBounds_toArray, List.set_cons_zero, List.set_cons_succ]
  refine wpAnyH_take (i := 10) (oi := { dst := some 29, op := Op.load 22 (Operand.tmp 2), type := 22, pos := "law.go:106", after := #[{ on := 9, ground := Ground.guard }], guard := some (9, true) }) (v := agB l) rfl (by kernel_rfl) (by kernel_rfl) (by kernel_rfl) (fun _ _ _ h => h) (Or.inl ⟨by rfl, by intro w hSw; exact ex_load rfl rfl hSw.1⟩) (by assumption) ?_
  try simp only [Act.put, List.setIfInBounds_toArray, List.set_cons_zero, List.set_cons_succ]
  refine wpAnyH_take (i := 12) (oi := { dst := some 31, op := Op.load 22 (Operand.tmp 2), type := 22, pos := "law.go:106", after := #[{ on := 9, ground := Ground.guard }], guard := some (9, true) }) (v := agB l) rfl (by kernel_rfl) (by kernel_rfl) (by kernel_rfl) (fun _ _ _ h => h) (Or.inl ⟨by rfl, by intro w hSw; exact ex_load rfl rfl hSw.1⟩) (by assumption) ?_
  try simp only [Act.put, List.setIfInBounds_toArray, List.set_cons_zero, List.set_cons_succ]
  refine wpAnyH_ready (rs := [11]) (by kernel_rfl) (by simp) ?_
  refine AllReadyH.cons (o := { dst := some 30, op := Op.call { callee := Callee.value (Operand.func 5), args := #[Operand.tmp 29], argTypes := #[22] }, type := 9, pos := "law.go:106", after := #[{ on := 10, ground := Ground.data }, { on := 9, ground := Ground.chain }, { on := 9, ground := Ground.guard }], guard := some (9, true) }) rfl (fun K hK => ?_) AllReadyH.nil
  go_simp
  refine (unhide c1 _).mono ?_
  rintro e wa ⟨rfl, hbwa⟩
  go_wp2_with fail
  refine hK.out _ _ ⟨hHeld.1.later hbwa, hHeld.2.1.later hbwa, hHeld.2.2.later hbwa⟩ (fun hHeld2 => ?_)
  clear hK K hHeld
  have hHeld := hHeld2
  clear hHeld2
  have HBwa := hide (bl_t ((unhide HB).drew) hbwa)
  clear hbwa
  try simp only [Act.put, List.setIfInBounds_toArray, List.set_cons_zero, List.set_cons_succ]
  refine wpAnyH_ready (rs := [13]) (by kernel_rfl) (by simp) ?_
  refine AllReadyH.cons (o := { dst := some 32, op := Op.call { callee := Callee.value (Operand.func 9), args := #[Operand.tmp 31], argTypes := #[22] }, type := 9, pos := "law.go:106", after := #[{ on := 12, ground := Ground.data }, { on := 11, ground := Ground.chain }, { on := 9, ground := Ground.guard }], guard := some (9, true) }) rfl (fun K hK => ?_) AllReadyH.nil
  go_simp
  refine (unhide c2 _).mono ?_
  rintro e wb ⟨rfl, hbwb⟩
  go_wp2_with fail
  refine hK.out _ _ ⟨hHeld.1.later hbwb, hHeld.2.1.later hbwb, hHeld.2.2.later hbwb⟩ (fun hHeld2 => ?_)
  clear hK K hHeld
  have hHeld := hHeld2
  clear hHeld2
  have HBwb := hide (bl_t (unhide HBwa) hbwb)
  clear hbwb
  try simp only [Act.put, List.setIfInBounds_toArray, List.set_cons_zero, List.set_cons_succ]
  refine wpAnyH_take (i := 14) (oi := { dst := some 33, op := Op.binOp BinOp.eql 9 (Operand.tmp 30) (Operand.tmp 32) 9, type := 4, pos := "law.go:106", after := #[{ on := 11, ground := Ground.data }, { on := 13, ground := Ground.data }, { on := 9, ground := Ground.guard }], guard := some (9, true) }) (v := .bool true) rfl (by kernel_rfl) (by kernel_rfl) (by kernel_rfl) (fun _ _ _ h => h) (Or.inl ⟨by rfl, by intro w hSw; go_simp⟩) (by assumption) ?_
  try simp only [Act.put, List.setIfInBounds_toArray, List.set_cons_zero, List.set_cons_succ]
  refine wpAnyH_take (i := 15) (oi := { dst := some 34, op := Op.pick (Operand.tmp 28) (Operand.tmp 33) (Operand.const (Value.bool false)), type := 4, pos := "law.go:106", after := #[{ on := 9, ground := Ground.data }, { on := 14, ground := Ground.data }], guard := none }) (v := .bool true) rfl (by kernel_rfl) (by kernel_rfl) (by kernel_rfl) (fun _ _ _ h => h) (Or.inl ⟨by rfl, by intro w hSw; go_simp⟩) (by assumption) ?_
  try simp only [Act.put, List.setIfInBounds_toArray, List.set_cons_zero, List.set_cons_succ]
  refine wpAnyH_take (i := 16) (oi := { dst := some 4, op := Op.assign (Operand.tmp 34), type := 4, pos := "law.go:106", after := #[{ on := 15, ground := Ground.data }, { on := 13, ground := Ground.chain }, { on := 0, ground := Ground.phase }, { on := 1, ground := Ground.phase }, { on := 2, ground := Ground.phase }, { on := 3, ground := Ground.phase }, { on := 4, ground := Ground.phase }, { on := 5, ground := Ground.phase }, { on := 6, ground := Ground.phase }, { on := 7, ground := Ground.phase }, { on := 8, ground := Ground.phase }, { on := 9, ground := Ground.phase }, { on := 10, ground := Ground.phase }, { on := 11, ground := Ground.phase }, { on := 12, ground := Ground.phase }, { on := 13, ground := Ground.phase }, { on := 14, ground := Ground.phase }, { on := 15, ground := Ground.phase }], guard := none }) (v := ?_) rfl (by kernel_rfl) (by kernel_rfl) (by kernel_rfl) (fun _ _ _ h => h) (Or.inl ⟨by rfl, ?_⟩) (by assumption) ?_
  rotate_left
  · intro w hSw; (try dsimp only at hSw); go_simp; (try with_reducible rfl)
  try simp only [Act.put, List.setIfInBounds_toArray, List.set_cons_zero, List.set_cons_succ]
  refine wpAnyH_done (by kernel_rfl) ?_ _
  go_wp2
  go_ret
  exact ⟨rfl, unhide HBwb⟩


end Go.Proofs.Ytijpcmplbpknlaa
