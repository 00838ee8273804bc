import Derived.Test.YtpakhjbaniapnaaKsX
namespace Go.Proofs.Ytpakhjbaniapnaa
open Go.RowKit

set_option maxRecDepth 100000 in
set_option maxHeartbeats 8000000 in
theorem controlSames_walk (p q : Pk) (cs ds : List Value) (d r c v f d' r' c' v' f' : Value) (w : World) (h1 : PkC cs p d r c v f) (h2 : PkC ds q d' r' c' v' f') (o1 : ∀ x ∈ cs, x.oneCell' = true) (o2 : ∀ x ∈ ds, x.oneCell' = true) (l1 : PkL w p d r c v f) (l2 : PkL w q d' r' c' v' f') (s1 : Sm p) (s2 : Sm q) :
    Calls Try.prog 3 #[.agg cs.toArray, .agg ds.toArray] w fun e w' => e = .returned (.bool true) ∧ Below w.heap.size w w' := by
  have cP := hide (fun (W : World) (hb : Below w.heap.size w W) => copied_any p cs d r c v f W h1 o1 (l1.later hb) s1)
  have cQ := hide (fun (W : World) (hb : Below w.heap.size w W) => copied_any q ds d' r' c' v' f' W h2 o2 (l2.later hb) s2)
  have H1 := hide h1
  have H2 := hide h2
  have L1 := hide l1
  have L2 := hide l2
  go_enter Try.func3, Try.ntmps3
  go_wp2_with (first
    | (with_reducible refine p_box cs h1.len o1 _ rfl rfl rfl ?_; intro w1 b1 k1 z1)
    | (with_reducible refine p_box ds h2.len o2 _ rfl rfl rfl ?_; intro w2 b2 k2 z2)
    | (with_reducible refine p_load _ rfl rfl w.heap.size rfl _ (b1.later k2) ?_))
  refine (unhide cP w2 (bl_t k1 k2)).mono ?_
  rintro e w3 ⟨az, d2, r2, c2, v2, f2, rfl, oA, kA, lA, mA, hb3⟩
  have hz1 : w1.heap.size = w.heap.size + 1 := z1
  have B03 := hide ((b1.later k2).later hb3)
  have B13 := hide ((hz1 ▸ b2 : BkP w2 (w.heap.size + 1) ds).later hb3)
  have HB3 := hide (bl_t (bl_t k1 k2) hb3)
  have KA := hide kA
  have LA := hide lA
  have MA := hide mA
  have OA := hide oA
  clear b1 b2 k1 k2 z1 z2 hb3 hz1 kA lA mA oA h1 h2 o1 o2 l1 l2
  go_wp2_with (first
    | (with_reducible refine p_alloc rfl rfl ?_; intro w4 zc b4 k4 z4)
    | (with_reducible refine p_store _ _ rfl rfl w3.heap.size rfl az rfl (unhide KA).len (unhide OA) zc b4 ?_; intro w5 b5 o5 k5 z5; have hlt1 := (unhide B13).lt; have B05 := hide (((unhide B03).later k4).of (o5 _ (by omega))); have B15 := hide (((unhide B13).later k4).of (o5 _ (by omega))); have K45 := hide (k4.trans (k5 _ (Nat.le_refl _))); clear hlt1)
    | (with_reducible refine p_load _ rfl rfl (w.heap.size + 1) rfl _ (unhide B15) ?_))
  have HB5 := hide (bl_t (unhide HB3) (unhide K45))
  have BA5 := hide b5
  refine (unhide cQ w5 (unhide HB5)).mono ?_
  rintro e w6 ⟨bz, d3, r3, c3, v3, f3, rfl, oB, kB, lB, mB, hb6⟩
  have B06 := hide ((unhide B05).later hb6)
  have B16 := hide ((unhide B15).later hb6)
  have BA6 := hide ((unhide BA5).later hb6)
  have HB6 := hide (bl_t (unhide HB5) hb6)
  have K36 := hide (bl_t (unhide K45) hb6)
  have KB := hide kB
  have LB := hide lB
  have MB := hide mB
  have OB := hide oB
  clear b4 k4 z4 b5 o5 k5 z5 hb6 kB lB mB oB B03 B13 B05 B15 BA5 HB3 HB5 K45 cQ
  go_wp2_with (first
    | (with_reducible refine p_alloc rfl rfl ?_; intro w7 zc b7 k7 z7)
    | (with_reducible refine p_store _ _ rfl rfl w6.heap.size rfl bz rfl (unhide KB).len (unhide OB) zc b7 ?_; intro w8 b8 o8 k8 z8))
  have ha := (unhide BA6).lt
  have h0 := (unhide B06).lt
  have h1 := (unhide B16).lt
  have B0 := hide (((unhide B06).later k7).of (o8 _ (by omega)))
  have B1 := hide (((unhide B16).later k7).of (o8 _ (by omega)))
  have BA := hide (((unhide BA6).later k7).of (o8 _ (by omega)))
  have BB := hide b8
  have K68 : Below w6.heap.size w6 w8 := k7.trans (k8 _ (Nat.le_refl _))
  have HB := hide (bl_t (unhide HB6) K68)
  have LA8 := (((unhide LA).later (unhide K36)).later K68)
  have MA8 := (((unhide MA).later (unhide K36)).later K68)
  have LB8 := ((unhide LB).later K68)
  have MB8 := ((unhide MB).later K68)
  have L18 := (unhide L1).later (unhide HB)
  have L28 := (unhide L2).later (unhide HB)
  have hdr : Below w8.heap.size w8 w8.drew := (Below.refl _ w8).drew
  have lt (X : World) (hb : Below w8.drew.heap.size w8.drew X) : Below w8.heap.size w8 X := bl_t hdr hb
  have c1 := hide (fun (X : World) (hb : Below w8.drew.heap.size w8.drew X) => Same_any p q az bz d2 r2 c2 v2 f2 d3 r3 c3 v3 f3 X (unhide KA) (unhide KB) (LA8.later (lt X hb)) (LB8.later (lt X hb)))
  have c2' := hide (fun (X : World) (hb : Below w8.drew.heap.size w8.drew X) => rSame_any p q cs ds d r c v f d' r' c' v' f' X (unhide H1) (unhide H2) (L18.later (lt X hb)) (L28.later (lt X hb)))
  have c3' := hide (fun (X : World) (hb : Below w8.drew.heap.size w8.drew X) => unhide cP X (bl_t (unhide HB) (lt X hb)))
  have c4 := hide (fun (X : World) (hb : Below w8.drew.heap.size w8.drew X) (es : List Value) (d5 r5 c5 v5 f5 : Value) (hk : PkC es p d5 r5 c5 v5 f5) (hl : PkL X p d5 r5 c5 v5 f5) => (eqP_self w8 p d2 r2 c2 v2 f2 LA8) ▸ Same_any p p az es d2 r2 c2 v2 f2 d5 r5 c5 v5 f5 X (unhide KA) hk (LA8.later (lt X hb)) hl)
  have c5 := hide (fun (X : World) (hb : Below w8.drew.heap.size w8.drew X) => kept_any p az cs d2 r2 c2 v2 f2 d r c v f X (unhide KA) (unhide H1) (LA8.later (lt X hb)) (L18.later (lt X hb)) (MA8.later (lt X hb)))
  have c6 := hide (fun (X : World) (hb : Below w8.drew.heap.size w8.drew X) => kept_any q bz ds d3 r3 c3 v3 f3 d' r' c' v' f' X (unhide KB) (unhide H2) (LB8.later (lt X hb)) (L28.later (lt X hb)) (MB8.later (lt X hb)))
  generalize eqP p q = q0 at *
  clear LA8 MA8 LB8 MB8 L18 L28 hdr lt K68 b8 o8 k8 z8 b7 k7 z7 ha h0 h1 B06 B16 BA6 HB6 K36 KA LA MA OA KB LB MB OB cP H1 H2 L1 L2 s1 s2
  generalize w3.heap.size = ga at *
  generalize w6.heap.size = gb at *
  refine wp_region_held_drew (S := fun w' => BkP w' w.heap.size cs ∧ BkP w' (w.heap.size + 1) ds ∧ BkP w' ga az ∧ BkP w' gb bz) (by kernel_rfl) ?_ (fun hHeld => ?_)
  · exact ⟨(unhide B0).of rfl, (unhide B1).of rfl, (unhide BA).of rfl, (unhide BB).of rfl⟩
  refine wpAnyH_take (i := 0) (oi := { dst := some 11, op := Op.load 28 (Operand.tmp 5), type := 28, pos := "law.go:253", after := #[], guard := none }) (v := .agg az.toArray) rfl (by kernel_rfl) (by kernel_rfl) (by kernel_rfl) (fun _ _ _ h => h) (Or.inl ⟨by rfl, by intro w hSw; exact ex_loadP rfl rfl hSw.2.2.1⟩) (by assumption) ?_
  try simp only [Act.put, List.setIfInBounds_toArray, List.set_cons_zero, List.set_cons_succ]
  refine wpAnyH_take (i := 1) (oi := { dst := some 12, op := Op.load 28 (Operand.tmp 6), type := 28, pos := "law.go:253", after := #[], guard := none }) (v := .agg bz.toArray) rfl (by kernel_rfl) (by kernel_rfl) (by kernel_rfl) (fun _ _ _ h => h) (Or.inl ⟨by rfl, by intro w hSw; exact ex_loadP rfl rfl hSw.2.2.2⟩) (by assumption) ?_
  try simp only [Act.put, List.setIfInBounds_toArray, List.set_cons_zero, List.set_cons_succ]
  refine wpAnyH_take (i := 3) (oi := { dst := some 14, op := Op.load 28 (Operand.tmp 2), type := 28, pos := "law.go:253", after := #[], guard := none }) (v := .agg cs.toArray) rfl (by kernel_rfl) (by kernel_rfl) (by kernel_rfl) (fun _ _ _ h => h) (Or.inl ⟨by rfl, by intro w hSw; exact ex_loadP rfl rfl hSw.1⟩) (by assumption) ?_
  try simp only [Act.put, List.setIfInBounds_toArray, List.set_cons_zero, List.set_cons_succ]
  refine wpAnyH_take (i := 4) (oi := { dst := some 15, op := Op.load 28 (Operand.tmp 3), type := 28, pos := "law.go:253", after := #[], guard := none }) (v := .agg ds.toArray) rfl (by kernel_rfl) (by kernel_rfl) (by kernel_rfl) (fun _ _ _ h => h) (Or.inl ⟨by rfl, by intro w hSw; exact ex_loadP rfl rfl hSw.2.1⟩) (by assumption) ?_
  try simp only [Act.put, List.setIfInBounds_toArray, List.set_cons_zero, List.set_cons_succ]
  refine wpAnyH_ready (rs := [2]) (by kernel_rfl) (by simp) ?_
  refine AllReadyH.cons (o := { dst := some 13, op := Op.call { callee := Callee.value (Operand.func 5), args := #[Operand.tmp 11, Operand.tmp 12], argTypes := #[28, 28] }, type := 4, pos := "law.go:253", after := #[{ on := 0, ground := Ground.data }, { on := 1, ground := Ground.data }], guard := none }) rfl (fun K hK => ?_) AllReadyH.nil
  go_simp
  refine (unhide c1 _ (Below.refl _ _)).mono ?_
  rintro e wa ⟨rfl, hbwa⟩
  go_wp2_with fail
  refine hK.out _ _ ⟨hHeld.1.later hbwa, hHeld.2.1.later hbwa, hHeld.2.2.1.later hbwa, hHeld.2.2.2.later hbwa⟩ (fun hHeld2 => ?_)
  clear hK K hHeld
  have hHeld := hHeld2
  clear hHeld2
  have HBwa := hide (bl_t (Below.refl _ w8.drew) hbwa)
  clear hbwa
  try simp only [Act.put, List.setIfInBounds_toArray, List.set_cons_zero, List.set_cons_succ]
  refine wpAnyH_ready (rs := [5]) (by kernel_rfl) (by simp) ?_
  refine AllReadyH.cons (o := { dst := some 16, op := Op.call { callee := Callee.value (Operand.func 6), args := #[Operand.tmp 14, Operand.tmp 15], argTypes := #[28, 28] }, type := 4, pos := "law.go:253", after := #[{ on := 3, ground := Ground.data }, { on := 4, ground := Ground.data }, { on := 2, ground := Ground.chain }], guard := none }) rfl (fun K hK => ?_) AllReadyH.nil
  go_simp
  refine (unhide c2' _ (unhide HBwa)).mono ?_
  rintro e wb ⟨rfl, hbwb⟩
  go_wp2_with fail
  refine hK.out _ _ ⟨hHeld.1.later hbwb, hHeld.2.1.later hbwb, hHeld.2.2.1.later hbwb, hHeld.2.2.2.later hbwb⟩ (fun hHeld2 => ?_)
  clear hK K hHeld
  have hHeld := hHeld2
  clear hHeld2
  have HBwb := hide (bl_t (unhide HBwa) hbwb)
  clear hbwb
  try simp only [Act.put, List.setIfInBounds_toArray, List.set_cons_zero, List.set_cons_succ]
  refine wpAnyH_take (i := 6) (oi := { dst := some 17, op := Op.binOp BinOp.eql 4 (Operand.tmp 13) (Operand.tmp 16) 4, type := 4, pos := "law.go:253", after := #[{ on := 2, ground := Ground.data }, { on := 5, ground := Ground.data }], guard := none }) (v := .bool true) rfl (by kernel_rfl) (by kernel_rfl) (by kernel_rfl) (fun _ _ _ h => h) (Or.inl ⟨by rfl, by intro w hSw; cases q0 <;> go_simp⟩) (by assumption) ?_
  try simp only [Act.put, List.setIfInBounds_toArray, List.set_cons_zero, List.set_cons_succ]
  refine wpAnyH_take (i := 7) (oi := { dst := some 18, op := Op.move (Operand.tmp 17), type := 4, pos := "law.go:253", after := #[{ on := 6, ground := Ground.data }, { on := 5, ground := Ground.chain }], guard := none }) (v := ?_) rfl (by kernel_rfl) (by kernel_rfl) (by kernel_rfl) (fun _ _ _ h => h) (Or.inl ⟨by rfl, ?_⟩) (by assumption) ?_
  rotate_left
  · intro w hSw; (try dsimp only at hSw); go_simp; (try with_reducible rfl)
  try simp only [Act.put, List.setIfInBounds_toArray, List.set_cons_zero, List.set_cons_succ]
  refine wpAnyH_take (i := 8) (oi := { dst := some 19, op := Op.load 28 (Operand.tmp 5), type := 28, pos := "law.go:253", after := #[{ on := 7, ground := Ground.guard }], guard := some (7, true) }) (v := .agg az.toArray) rfl (by kernel_rfl) (by kernel_rfl) (by kernel_rfl) (fun _ _ _ h => h) (Or.inl ⟨by rfl, by intro w hSw; exact ex_loadP rfl rfl hSw.2.2.1⟩) (by assumption) ?_
  try simp only [Act.put, List.setIfInBounds_toArray, List.set_cons_zero, List.set_cons_succ]
  refine wpAnyH_take (i := 9) (oi := { dst := some 20, op := Op.load 28 (Operand.tmp 2), type := 28, pos := "law.go:253", after := #[{ on := 7, ground := Ground.guard }], guard := some (7, true) }) (v := .agg cs.toArray) rfl (by kernel_rfl) (by kernel_rfl) (by kernel_rfl) (fun _ _ _ h => h) (Or.inl ⟨by rfl, by intro w hSw; exact ex_loadP rfl rfl hSw.1⟩) (by assumption) ?_
  try simp only [Act.put, List.setIfInBounds_toArray, List.set_cons_zero, List.set_cons_succ]
  refine wpAnyH_ready (rs := [10]) (by kernel_rfl) (by simp) ?_
  refine AllReadyH.cons (o := { dst := some 21, op := Op.call { callee := Callee.value (Operand.func 4), args := #[Operand.tmp 20], argTypes := #[28] }, type := 28, pos := "law.go:253", after := #[{ on := 9, ground := Ground.data }, { on := 7, ground := Ground.chain }, { on := 7, ground := Ground.guard }], guard := some (7, true) }) rfl (fun K hK => ?_) AllReadyH.nil
  go_simp
  refine (unhide c3' _ (unhide HBwb)).mono ?_
  rintro e wc ⟨es, d5, r5, cc5, v5, f5, rfl, ho5, hk5, hl5, hm5, hbc⟩
  have EK := hide hk5
  have EL := hide hl5
  go_wp2_with fail
  refine hK.out _ _ ⟨hHeld.1.later hbc, hHeld.2.1.later hbc, hHeld.2.2.1.later hbc, hHeld.2.2.2.later hbc⟩ (fun hHeld2 => ?_)
  clear hK K hHeld
  have hHeld := hHeld2
  clear hHeld2 ho5 hk5 hl5 hm5
  have HBwc := hide (bl_t (unhide HBwb) hbc)
  clear hbc
  try simp only [Act.put, List.setIfInBounds_toArray, List.set_cons_zero, List.set_cons_succ]
  refine wpAnyH_ready (rs := [11]) (by kernel_rfl) (by simp) ?_
  refine AllReadyH.cons (o := { dst := some 22, op := Op.call { callee := Callee.value (Operand.func 5), args := #[Operand.tmp 19, Operand.tmp 21], argTypes := #[28, 28] }, type := 4, pos := "law.go:253", after := #[{ on := 8, ground := Ground.data }, { on := 10, ground := Ground.data }, { on := 10, ground := Ground.chain }, { on := 7, ground := Ground.guard }], guard := some (7, true) }) rfl (fun K hK => ?_) AllReadyH.nil
  go_simp
  refine (unhide c4 _ (unhide HBwc) es _ _ _ _ _ (unhide EK) (unhide EL)).mono ?_
  rintro e wd ⟨rfl, hbwd⟩
  go_wp2_with fail
  refine hK.out _ _ ⟨hHeld.1.later hbwd, hHeld.2.1.later hbwd, hHeld.2.2.1.later hbwd, hHeld.2.2.2.later hbwd⟩ (fun hHeld2 => ?_)
  clear hK K hHeld
  have hHeld := hHeld2
  clear hHeld2
  have HBwd := hide (bl_t (unhide HBwc) hbwd)
  clear hbwd
  try simp only [Act.put, List.setIfInBounds_toArray, List.set_cons_zero, List.set_cons_succ]
  refine wpAnyH_take (i := 12) (oi := { dst := some 23, op := Op.pick (Operand.tmp 18) (Operand.tmp 22) (Operand.const (Value.bool false)), type := 4, pos := "law.go:253", after := #[{ on := 7, ground := Ground.data }, { on := 11, ground := Ground.data }], guard := none }) (v := .bool true) rfl (by kernel_rfl) (by kernel_rfl) (by kernel_rfl) (fun _ _ _ h => h) (Or.inl ⟨by rfl, by intro w hSw; go_simp⟩) (by assumption) ?_
  try simp only [Act.put, List.setIfInBounds_toArray, List.set_cons_zero, List.set_cons_succ]
  refine wpAnyH_take (i := 13) (oi := { dst := some 24, op := Op.move (Operand.tmp 23), type := 4, pos := "law.go:253", after := #[{ on := 12, ground := Ground.data }, { on := 11, ground := Ground.chain }], guard := none }) (v := ?_) rfl (by kernel_rfl) (by kernel_rfl) (by kernel_rfl) (fun _ _ _ h => h) (Or.inl ⟨by rfl, ?_⟩) (by assumption) ?_
  rotate_left
  · intro w hSw; (try dsimp only at hSw); go_simp; (try with_reducible rfl)
  try simp only [Act.put, List.setIfInBounds_toArray, List.set_cons_zero, List.set_cons_succ]
  refine wpAnyH_take (i := 14) (oi := { dst := some 25, op := Op.load 28 (Operand.tmp 5), type := 28, pos := "law.go:253", after := #[{ on := 13, ground := Ground.guard }], guard := some (13, true) }) (v := .agg az.toArray) rfl (by kernel_rfl) (by kernel_rfl) (by kernel_rfl) (fun _ _ _ h => h) (Or.inl ⟨by rfl, by intro w hSw; exact ex_loadP rfl rfl hSw.2.2.1⟩) (by assumption) ?_
  try simp only [Act.put, List.setIfInBounds_toArray, List.set_cons_zero, List.set_cons_succ]
  refine wpAnyH_take (i := 15) (oi := { dst := some 26, op := Op.load 28 (Operand.tmp 2), type := 28, pos := "law.go:253", after := #[{ on := 13, ground := Ground.guard }], guard := some (13, true) }) (v := .agg cs.toArray) rfl (by kernel_rfl) (by kernel_rfl) (by kernel_rfl) (fun _ _ _ h => h) (Or.inl ⟨by rfl, by intro w hSw; exact ex_loadP rfl rfl hSw.1⟩) (by assumption) ?_
  try simp only [Act.put, List.setIfInBounds_toArray, List.set_cons_zero, List.set_cons_succ]
  refine wpAnyH_ready (rs := [16]) (by kernel_rfl) (by simp) ?_
  refine AllReadyH.cons (o := { dst := some 27, op := Op.call { callee := Callee.value (Operand.func 7), args := #[Operand.tmp 25, Operand.tmp 26], argTypes := #[28, 28] }, type := 4, pos := "law.go:253", after := #[{ on := 14, ground := Ground.data }, { on := 15, ground := Ground.data }, { on := 13, ground := Ground.chain }, { on := 13, ground := Ground.guard }], guard := some (13, true) }) rfl (fun K hK => ?_) AllReadyH.nil
  go_simp
  refine (unhide c5 _ (unhide HBwd)).mono ?_
  rintro e we ⟨rfl, hbwe⟩
  go_wp2_with fail
  refine hK.out _ _ ⟨hHeld.1.later hbwe, hHeld.2.1.later hbwe, hHeld.2.2.1.later hbwe, hHeld.2.2.2.later hbwe⟩ (fun hHeld2 => ?_)
  clear hK K hHeld
  have hHeld := hHeld2
  clear hHeld2
  have HBwe := hide (bl_t (unhide HBwd) hbwe)
  clear hbwe
  try simp only [Act.put, List.setIfInBounds_toArray, List.set_cons_zero, List.set_cons_succ]
  refine wpAnyH_take (i := 17) (oi := { dst := some 28, op := Op.pick (Operand.tmp 24) (Operand.tmp 27) (Operand.const (Value.bool false)), type := 4, pos := "law.go:253", after := #[{ on := 13, ground := Ground.data }, { on := 16, ground := Ground.data }], guard := none }) (v := .bool true) rfl (by kernel_rfl) (by kernel_rfl) (by kernel_rfl) (fun _ _ _ h => h) (Or.inl ⟨by rfl, by intro w hSw; go_simp⟩) (by assumption) ?_
  try simp only [Act.put, List.setIfInBounds_toArray, List.set_cons_zero, List.set_cons_succ]
  refine wpAnyH_take (i := 18) (oi := { dst := some 29, op := Op.move (Operand.tmp 28), type := 4, pos := "law.go:253", after := #[{ on := 17, ground := Ground.data }, { on := 16, ground := Ground.chain }], guard := none }) (v := ?_) rfl (by kernel_rfl) (by kernel_rfl) (by kernel_rfl) (fun _ _ _ h => h) (Or.inl ⟨by rfl, ?_⟩) (by assumption) ?_
  rotate_left
  · intro w hSw; (try dsimp only at hSw); go_simp; (try with_reducible rfl)
  try simp only [Act.put, List.setIfInBounds_toArray, List.set_cons_zero, List.set_cons_succ]
  refine wpAnyH_take (i := 19) (oi := { dst := some 30, op := Op.load 28 (Operand.tmp 6), type := 28, pos := "law.go:253", after := #[{ on := 18, ground := Ground.guard }], guard := some (18, true) }) (v := .agg bz.toArray) rfl (by kernel_rfl) (by kernel_rfl) (by kernel_rfl) (fun _ _ _ h => h) (Or.inl ⟨by rfl, by intro w hSw; exact ex_loadP rfl rfl hSw.2.2.2⟩) (by assumption) ?_
  try simp only [Act.put, List.setIfInBounds_toArray, List.set_cons_zero, List.set_cons_succ]
  refine wpAnyH_take (i := 20) (oi := { dst := some 31, op := Op.load 28 (Operand.tmp 3), type := 28, pos := "law.go:253", after := #[{ on := 18, ground := Ground.guard }], guard := some (18, true) }) (v := .agg ds.toArray) rfl (by kernel_rfl) (by kernel_rfl) (by kernel_rfl) (fun _ _ _ h => h) (Or.inl ⟨by rfl, by intro w hSw; exact ex_loadP rfl rfl hSw.2.1⟩) (by assumption) ?_
  try simp only [Act.put, List.setIfInBounds_toArray, List.set_cons_zero, List.set_cons_succ]
  refine wpAnyH_ready (rs := [21]) (by kernel_rfl) (by simp) ?_
  refine AllReadyH.cons (o := { dst := some 32, op := Op.call { callee := Callee.value (Operand.func 7), args := #[Operand.tmp 30, Operand.tmp 31], argTypes := #[28, 28] }, type := 4, pos := "law.go:253", after := #[{ on := 19, ground := Ground.data }, { on := 20, ground := Ground.data }, { on := 18, ground := Ground.chain }, { on := 18, ground := Ground.guard }], guard := some (18, true) }) rfl (fun K hK => ?_) AllReadyH.nil
  go_simp
  refine (unhide c6 _ (unhide HBwe)).mono ?_
  rintro e wf ⟨rfl, hbwf⟩
  go_wp2_with fail
  refine hK.out _ _ ⟨hHeld.1.later hbwf, hHeld.2.1.later hbwf, hHeld.2.2.1.later hbwf, hHeld.2.2.2.later hbwf⟩ (fun hHeld2 => ?_)
  clear hK K hHeld
  have hHeld := hHeld2
  clear hHeld2
  have HBwf := hide (bl_t (unhide HBwe) hbwf)
  clear hbwf
  try simp only [Act.put, List.setIfInBounds_toArray, List.set_cons_zero, List.set_cons_succ]
  refine wpAnyH_take (i := 22) (oi := { dst := some 33, op := Op.pick (Operand.tmp 29) (Operand.tmp 32) (Operand.const (Value.bool false)), type := 4, pos := "law.go:253", after := #[{ on := 18, ground := Ground.data }, { on := 21, ground := Ground.data }], guard := none }) (v := .bool true) rfl (by kernel_rfl) (by kernel_rfl) (by kernel_rfl) (fun _ _ _ h => h) (Or.inl ⟨by rfl, by intro w hSw; go_simp⟩) (by assumption) ?_
  try simp only [Act.put, List.setIfInBounds_toArray, List.set_cons_zero, List.set_cons_succ]
  refine wpAnyH_take (i := 23) (oi := { dst := some 4, op := Op.assign (Operand.tmp 33), type := 4, pos := "law.go:253", after := #[{ on := 22, ground := Ground.data }, { on := 21, ground := Ground.chain }, { on := 0, ground := Ground.phase }, { on := 1, ground := Ground.phase }, { on := 2, ground := Ground.phase }, { on := 3, ground := Ground.phase }, { on := 4, ground := Ground.phase }, { on := 5, ground := Ground.phase }, { on := 6, ground := Ground.phase }, { on := 7, ground := Ground.phase }, { on := 8, ground := Ground.phase }, { on := 9, ground := Ground.phase }, { on := 10, ground := Ground.phase }, { on := 11, ground := Ground.phase }, { on := 12, ground := Ground.phase }, { on := 13, ground := Ground.phase }, { on := 14, ground := Ground.phase }, { on := 15, ground := Ground.phase }, { on := 16, ground := Ground.phase }, { on := 17, ground := Ground.phase }, { on := 18, ground := Ground.phase }, { on := 19, ground := Ground.phase }, { on := 20, ground := Ground.phase }, { on := 21, ground := Ground.phase }, { on := 22, ground := Ground.phase }], guard := none }) (v := ?_) rfl (by kernel_rfl) (by kernel_rfl) (by kernel_rfl) (fun _ _ _ h => h) (Or.inl ⟨by rfl, ?_⟩) (by assumption) ?_
  rotate_left
  · intro w hSw; (try dsimp only at hSw); go_simp; (try with_reducible rfl)
  try simp only [Act.put, List.setIfInBounds_toArray, List.set_cons_zero, List.set_cons_succ]
  refine wpAnyH_done (by kernel_rfl) ?_ _
  go_wp2
  go_ret
  exact ⟨rfl, bl_t (unhide HB) (bl_t ((Below.refl _ _).drew) (unhide HBwf))⟩

end Go.Proofs.Ytpakhjbaniapnaa
