import Derived.Test.YtboajcpfoejfeaaTzN
namespace Go.Proofs.Ytboajcpfoejfeaa
open Go.RowKit Go.Maps

theorem wp_append_run {P : Program} {o : Oper} {a : Act} {w w' : World} {v' : Value} {K : Act → World → Prop} {Q : Exit → Act → World → Prop} (s x : Operand) (t : TypeId)
    (ho : o.op = .call { callee := .builtin .append, args := #[s, x], argTypes := #[t, t] }) (vs vx : Value) (hs : a.eval s = vs) (hx : a.eval x = vx)
    (hr : (Builtin.append_ #[t, t] o.type #[vs, vx]).run P w = .ok v' w') (h : K (a.put o.dst v') w') : o.wp P a w K Q := by
  unfold Oper.wp execOp
  simp only [ho, resolve, invoke, builtin, Sem.run_bind, Sem.run_pure, Result.andThen_ok, List.map_toArray, List.map_cons, List.map_nil, hs, hx, hr]
  exact h
structure Bx (T : Prop) : Prop where
  out : T
set_option maxRecDepth 100000 in
set_option maxHeartbeats 8000000 in
/-- A PATH LAID BEHIND THE OTHERS OF ITS GROUP: THE REGION. -/
theorem reg12 {w X : World} {gb gc mb k at_ fb yn yc : Nat} {ya : Option Addr} {E : List En} {ks : List Ky} {ll : List Nm} {fc : List Value} {p : Nm} (t : Tm w X (.slice (some ⟨gb, 0, none⟩) E.length gc) mb E ks k) (ha : E[at_]? = some (.slice ya yn yc, ll)) (hl : ll.length ≤ 2513169434843) (hbx : X.heap[fb]? = some (Obj.cells fc.toArray 32 (0, 0))) (hf0 : fc[0]? = some (.string p))
    {Q : Exit → Act → World → Prop} {u0 u1 u2 u4 u5 u7 u9 u10 u11 u12 u13 u14 u15 u16 u17 u18 u19 u20 u21 u22 u23 u24 u25 u26 u27 u28 u29 u30 u31 u32 u33 u34 u35 u36 u37 u38 u39 u40 u41 u42 u43 u44 u45 u46 u47 u48 u49 u50 u51 u52 u53 u54 u55 u56 u57 u58 u59 u60 u61 u62 u63 u64 u65 u66 u67 u68 u69 u70 u71 u72 u73 : Value} {ds : List Deferred} (hQ : ∀ c (a : Act) t w, Q (.panic c) ⟨t, a.defers⟩ w → Q (.panic c) a w)
    (h : ∀ (s41 s42 s43 s44 s45 s46 s47 s48 s49 s50 s51 : Value) (h' : Value) (w9 : World), Tm w w9 (.slice (some ⟨gb, 0, none⟩) E.length gc) mb (E.set at_ (h', ll ++ [p])) ks k → Q .normal { tmps := #[u0, u1, u2, .slice (some ⟨gb, 0, none⟩) E.length gc, u4, u5, .pointer (some ⟨fb, 0, none⟩), u7, .int .i64 (at_ : Int), u9, u10, u11, u12, u13, u14, u15, u16, u17, u18, u19, u20, u21, u22, u23, u24, u25, u26, u27, u28, u29, u30, u31, u32, u33, u34, u35, u36, u37, u38, u39, u40, s41, s42, s43, s44, s45, s46, s47, s48, s49, s50, s51, u52, u53, u54, u55, u56, u57, u58, u59, u60, u61, u62, u63, u64, u65, u66, u67, u68, u69, u70, u71, u72, u73], defers := ds } w9) :
    Code.wp Try.prog (.region 12 #[{ dst := some 41, op := Op.move (Operand.tmp 3), type := 24, pos := "tree.go:63", after := #[], guard := none }, { dst := some 42, op := Op.move (Operand.tmp 8), type := 3, pos := "tree.go:63", after := #[], guard := none }, { dst := some 43, op := Op.move (Operand.tmp 3), type := 24, pos := "tree.go:63", after := #[], guard := none }, { dst := some 44, op := Op.move (Operand.tmp 8), type := 3, pos := "tree.go:63", after := #[], guard := none }, { dst := some 45, op := Op.indexAddr 24 (Operand.tmp 43) (Operand.tmp 44), type := 0, pos := "tree.go:63", after := #[{ on := 2, ground := Ground.data }, { on := 3, ground := Ground.data }], guard := none }, { dst := some 46, op := Op.load 28 (Operand.tmp 45), type := 28, pos := "tree.go:63", after := #[{ on := 4, ground := Ground.data }], guard := none }, { dst := some 47, op := Op.fieldAddr 32 (Operand.tmp 6) 0, type := 0, pos := "tree.go:63", after := #[], guard := none }, { dst := some 48, op := Op.load 9 (Operand.tmp 47), type := 9, pos := "tree.go:63", after := #[{ on := 6, ground := Ground.data }], guard := none }, { dst := some 49, op := Op.buildSlice 28 1 #[(0, Operand.tmp 48)], type := 28, pos := "tree.go:63", after := #[{ on := 7, ground := Ground.data }], guard := none }, { dst := some 50, op := Op.call { callee := Callee.builtin Builtin.append, args := #[Operand.tmp 46, Operand.tmp 49], argTypes := #[28, 28] }, type := 28, pos := "tree.go:63", after := #[{ on := 5, ground := Ground.data }, { on := 8, ground := Ground.data }], guard := none }, { dst := some 51, op := Op.indexAddr 24 (Operand.tmp 41) (Operand.tmp 42), type := 0, pos := "tree.go:63", after := #[{ on := 0, ground := Ground.data }, { on := 1, ground := Ground.data }, { on := 0, ground := Ground.phase }, { on := 1, ground := Ground.phase }, { on := 2, ground := Ground.phase }, { on := 3, ground := Ground.phase }, { on := 4, ground := Ground.phase }, { on := 5, ground := Ground.phase }, { on := 6, ground := Ground.phase }, { on := 7, ground := Ground.phase }, { on := 8, ground := Ground.phase }, { on := 9, ground := Ground.phase }], guard := none }, { dst := none, op := Op.store 28 (Operand.tmp 51) (Operand.tmp 50), type := 0, pos := "tree.go:63", after := #[{ on := 10, ground := Ground.data }, { on := 9, ground := Ground.data }, { on := 9, ground := Ground.chain }, { on := 0, ground := Ground.phase }, { on := 1, ground := Ground.phase }, { on := 2, ground := Ground.phase }, { on := 3, ground := Ground.phase }, { on := 4, ground := Ground.phase }, { on := 5, ground := Ground.phase }, { on := 6, ground := Ground.phase }, { on := 7, ground := Ground.phase }, { on := 8, ground := Ground.phase }, { on := 9, ground := Ground.phase }], guard := none }] true) Q { tmps := #[u0, u1, u2, .slice (some ⟨gb, 0, none⟩) E.length gc, u4, u5, .pointer (some ⟨fb, 0, none⟩), u7, .int .i64 (at_ : Int), u9, u10, u11, u12, u13, u14, u15, u16, u17, u18, u19, u20, u21, u22, u23, u24, u25, u26, u27, u28, u29, u30, u31, u32, u33, u34, u35, u36, u37, u38, u39, u40, u41, u42, u43, u44, u45, u46, u47, u48, u49, u50, u51, u52, u53, u54, u55, u56, u57, u58, u59, u60, u61, u62, u63, u64, u65, u66, u67, u68, u69, u70, u71, u72, u73], defers := ds } X := by
  have hat := (List.getElem?_eq_some_iff.1 ha).1
  have hati : (at_ : Int) < (E.length : Int) := by omega
  have KT1 := hide (t.later (Below.refl _ X).drew)
  have kcA : X.drew.cell? ⟨gb, at_, none⟩ = some (.slice ya yn yc) := owns_at (unhide KT1).ga.row at_ _ (by rw [List.getElem?_map, ha]; rfl)
  have kcB : (X.alloc (.cells #[.string p] 9)).drew.cell? ⟨gb, at_, none⟩ = some (.slice ya yn yc) := (((Below.refl _ X.drew).alloc (Nat.le_refl _) (.cells #[.string p] 9)).cell (p := ⟨gb, at_, none⟩) (World.ownsRow.lt (unhide KT1).ga.row gb rfl).2).trans kcA
  obtain ⟨g9, cap9, w9, kr, ⟨z9, kz⟩, kf, klow, ktyp, kgb, ktn⟩ := (unhide KT1).add ha hl p 28
  have KR := hide (show (Builtin.append_ #[28, 28] 28 #[.slice ya yn yc, .slice (some ⟨X.heap.size, 0, none⟩) 1 1]).run Try.prog (X.alloc (.cells #[.string p] 9)).drew = .ok (.slice (some ⟨g9, 0, none⟩) (ll.length + 1) cap9) w9 from kr)
  have KTN := hide ktn
  have KS0 := hide (show X.drew.cell? ⟨fb, 0, none⟩ = some (.string p) from by show X.cell? _ = _; rw [(cell_blk hbx 0).1]; simpa using hf0)
  have KS1 := hide (show (X.alloc (.cells #[.string p] 9)).drew.cell? ⟨fb, 0, none⟩ = some (.string p) from (((Below.refl _ X.drew).alloc (Nat.le_refl _) (.cells #[.string p] 9)).cell (p := ⟨fb, 0, none⟩) (blk_lt hbx)).trans (unhide KS0))
  have KS2 := hide (show w9.cell? ⟨fb, 0, none⟩ = some (.string p) from (World.cell?_of_block (a := ⟨fb, 0, none⟩) (ktyp fb 32 _ hbx (by decide))).trans (unhide KS0))
  have kne : gb ≠ fb := fun e => by
    obtain ⟨cur, q⟩ := own_type t.ga.row (g := gb) rfl
    rw [e, hbx] at q
    cases q
  have KS3 := hide (show (w9.setCell ⟨gb, at_, none⟩ (.slice (some ⟨g9, 0, none⟩) (ll.length + 1) cap9)).cell? ⟨fb, 0, none⟩ = some (.string p) from (World.cell?_setCell_other _ _ _ _ (fun e => kne (by injection e))).trans (unhide KS2))
  have KEY : Bx _ := ⟨h⟩
  obtain ⟨M, hM⟩ : ∃ M, M = E.length := ⟨_, rfl⟩
  rw [← hM] at hati ⊢
  have HM := hide hM
  rw [← hM] at KTN KEY
  clear kr ktn ktyp klow kne hbx hf0 t ha hl h hM hat KT1
  refine wp_region_held_drew (S := fun w' => w'.cell? ⟨fb, 0, none⟩ = some (.string p)) (by kernel_rfl) ?_ (fun hHeld => ?_)
  · exact unhide KS0
  refine wpAnyH_take (i := 0) (oi := { dst := some 41, op := Op.move (Operand.tmp 3), type := 24, pos := "tree.go:63", after := #[], guard := none }) (v := ?_) rfl (by kernel_rfl) (by kernel_rfl) (by kernel_rfl) (fun c a w h => hQ c a _ w h) (Or.inl ⟨by rfl, ?_⟩) (by assumption) ?_
  rotate_left
  · intro w hSw; (try dsimp only at hSw); go_simp; (try with_reducible rfl)
  try simp only [Act.put, List.setIfInBounds_toArray, List.set_cons_zero, List.set_cons_succ]
  refine wpAnyH_take (i := 1) (oi := { dst := some 42, op := Op.move (Operand.tmp 8), type := 3, pos := "tree.go:63", after := #[], guard := none }) (v := ?_) rfl (by kernel_rfl) (by kernel_rfl) (by kernel_rfl) (fun c a w h => hQ c a _ w h) (Or.inl ⟨by rfl, ?_⟩) (by assumption) ?_
  rotate_left
  · intro w hSw; (try dsimp only at hSw); go_simp; (try with_reducible rfl)
  try simp only [Act.put, List.setIfInBounds_toArray, List.set_cons_zero, List.set_cons_succ]
  refine wpAnyH_take (i := 2) (oi := { dst := some 43, op := Op.move (Operand.tmp 3), type := 24, pos := "tree.go:63", after := #[], guard := none }) (v := ?_) rfl (by kernel_rfl) (by kernel_rfl) (by kernel_rfl) (fun c a w h => hQ c a _ w h) (Or.inl ⟨by rfl, ?_⟩) (by assumption) ?_
  rotate_left
  · intro w hSw; (try dsimp only at hSw); go_simp; (try with_reducible rfl)
  try simp only [Act.put, List.setIfInBounds_toArray, List.set_cons_zero, List.set_cons_succ]
  refine wpAnyH_take (i := 3) (oi := { dst := some 44, op := Op.move (Operand.tmp 8), type := 3, pos := "tree.go:63", after := #[], guard := none }) (v := ?_) rfl (by kernel_rfl) (by kernel_rfl) (by kernel_rfl) (fun c a w h => hQ c a _ w h) (Or.inl ⟨by rfl, ?_⟩) (by assumption) ?_
  rotate_left
  · intro w hSw; (try dsimp only at hSw); go_simp; (try with_reducible rfl)
  try simp only [Act.put, List.setIfInBounds_toArray, List.set_cons_zero, List.set_cons_succ]
  refine wpAnyH_take (i := 4) (oi := { dst := some 45, op := Op.indexAddr 24 (Operand.tmp 43) (Operand.tmp 44), type := 0, pos := "tree.go:63", after := #[{ on := 2, ground := Ground.data }, { on := 3, ground := Ground.data }], guard := none }) (v := ?_) rfl (by kernel_rfl) (by kernel_rfl) (by kernel_rfl) (fun c a w h => hQ c a _ w h) (Or.inl ⟨by rfl, ?_⟩) (by assumption) ?_
  rotate_left
  · intro w hSw; (try dsimp only at hSw); go_simp; (try with_reducible rfl)
  try simp only [Act.put, List.setIfInBounds_toArray, List.set_cons_zero, List.set_cons_succ]
  refine wpAnyH_take (i := 6) (oi := { dst := some 47, op := Op.fieldAddr 32 (Operand.tmp 6) 0, type := 0, pos := "tree.go:63", after := #[], guard := none }) (v := ?_) rfl (by kernel_rfl) (by kernel_rfl) (by kernel_rfl) (fun c a w h => hQ c a _ w h) (Or.inl ⟨by rfl, ?_⟩) (by assumption) ?_
  rotate_left
  · intro w hSw; (try dsimp only at hSw); go_simp; (try with_reducible rfl)
  try simp only [Act.put, List.setIfInBounds_toArray, List.set_cons_zero, List.set_cons_succ]
  refine wpAnyH_take (i := 7) (oi := { dst := some 48, op := Op.load 9 (Operand.tmp 47), type := 9, pos := "tree.go:63", after := #[{ on := 6, ground := Ground.data }], guard := none }) (v := ?_) rfl (by kernel_rfl) (by kernel_rfl) (by kernel_rfl) (fun c a w h => hQ c a _ w h) (Or.inl ⟨by rfl, ?_⟩) (by assumption) ?_
  rotate_left
  · intro w hSw; (try dsimp only at hSw); go_simp; (try with_reducible rfl)
  try simp only [Act.put, List.setIfInBounds_toArray, List.set_cons_zero, List.set_cons_succ]
  refine wpAnyH_ready (rs := [5, 8]) (by kernel_rfl) (by simp) ?_
  refine AllReadyH.cons (o := { dst := some 46, op := Op.load 28 (Operand.tmp 45), type := 28, pos := "tree.go:63", after := #[{ on := 4, ground := Ground.data }], guard := none }) rfl (fun K hK => ?_) (AllReadyH.cons (o := { dst := some 49, op := Op.buildSlice 28 1 #[(0, Operand.tmp 48)], type := 28, pos := "tree.go:63", after := #[{ on := 7, ground := Ground.data }], guard := none }) rfl (fun K hK => ?_) AllReadyH.nil)
  · go_simp
    refine hK.out _ _ ?_ (fun hHeld => ?_)
    · exact unhide KS0
    clear hK K
    try simp only [Act.put, List.setIfInBounds_toArray, List.set_cons_zero, List.set_cons_succ]
    refine wpAnyH_ready (rs := [8]) (by kernel_rfl) (by simp) ?_
    refine AllReadyH.cons (o := { dst := some 49, op := Op.buildSlice 28 1 #[(0, Operand.tmp 48)], type := 28, pos := "tree.go:63", after := #[{ on := 7, ground := Ground.data }], guard := none }) rfl (fun K hK => ?_) AllReadyH.nil
    go_simp
    refine hK.out _ _ ?_ (fun hHeld => ?_)
    · exact unhide KS1
    clear hK K
    try simp only [Act.put, List.setIfInBounds_toArray, List.set_cons_zero, List.set_cons_succ]
    refine wpAnyH_ready (rs := [9]) (by kernel_rfl) (by simp) ?_
    refine AllReadyH.cons (o := { dst := some 50, op := Op.call { callee := Callee.builtin Builtin.append, args := #[Operand.tmp 46, Operand.tmp 49], argTypes := #[28, 28] }, type := 28, pos := "tree.go:63", after := #[{ on := 5, ground := Ground.data }, { on := 8, ground := Ground.data }], guard := none }) rfl (fun K hK => ?_) AllReadyH.nil
    refine wp_append_run (.tmp 46) (.tmp 49) 28 rfl (.slice ya yn yc) (.slice (some ⟨X.heap.size, 0, none⟩) 1 1) rfl rfl (unhide KR) ?_
    refine hK.out _ _ ?_ (fun hHeld => ?_)
    · exact unhide KS2
    clear hK K
    try simp only [Act.put, List.setIfInBounds_toArray, List.set_cons_zero, List.set_cons_succ]
    refine wpAnyH_take (i := 10) (oi := { dst := some 51, op := Op.indexAddr 24 (Operand.tmp 41) (Operand.tmp 42), type := 0, pos := "tree.go:63", after := #[{ on := 0, ground := Ground.data }, { on := 1, ground := Ground.data }, { on := 0, ground := Ground.phase }, { on := 1, ground := Ground.phase }, { on := 2, ground := Ground.phase }, { on := 3, ground := Ground.phase }, { on := 4, ground := Ground.phase }, { on := 5, ground := Ground.phase }, { on := 6, ground := Ground.phase }, { on := 7, ground := Ground.phase }, { on := 8, ground := Ground.phase }, { on := 9, ground := Ground.phase }], guard := none }) (v := ?_) rfl (by kernel_rfl) (by kernel_rfl) (by kernel_rfl) (fun c a w h => hQ c a _ w h) (Or.inl ⟨by rfl, ?_⟩) (by assumption) ?_
    rotate_left
    · intro w hSw; (try dsimp only at hSw); go_simp; (try with_reducible rfl)
    try simp only [Act.put, List.setIfInBounds_toArray, List.set_cons_zero, List.set_cons_succ]
    refine wpAnyH_ready (rs := [11]) (by kernel_rfl) (by simp) ?_
    refine AllReadyH.cons (o := { dst := none, op := Op.store 28 (Operand.tmp 51) (Operand.tmp 50), type := 0, pos := "tree.go:63", after := #[{ on := 10, ground := Ground.data }, { on := 9, ground := Ground.data }, { on := 9, ground := Ground.chain }, { on := 0, ground := Ground.phase }, { on := 1, ground := Ground.phase }, { on := 2, ground := Ground.phase }, { on := 3, ground := Ground.phase }, { on := 4, ground := Ground.phase }, { on := 5, ground := Ground.phase }, { on := 6, ground := Ground.phase }, { on := 7, ground := Ground.phase }, { on := 8, ground := Ground.phase }, { on := 9, ground := Ground.phase }], guard := none }) rfl (fun K hK => ?_) AllReadyH.nil
    go_simp
    refine hK.out _ _ ?_ (fun hHeld => ?_)
    · exact unhide KS3
    clear hK K
    try simp only [Act.put]
    refine wpAnyH_done (by kernel_rfl) ?_ _
    exact KEY.out _ _ _ _ _ _ _ _ _ _ _ _ _ (unhide KTN)
  · go_simp
    refine hK.out _ _ ?_ (fun hHeld => ?_)
    · exact unhide KS1
    clear hK K
    try simp only [Act.put, List.setIfInBounds_toArray, List.set_cons_zero, List.set_cons_succ]
    refine wpAnyH_ready (rs := [5]) (by kernel_rfl) (by simp) ?_
    refine AllReadyH.cons (o := { dst := some 46, op := Op.load 28 (Operand.tmp 45), type := 28, pos := "tree.go:63", after := #[{ on := 4, ground := Ground.data }], guard := none }) rfl (fun K hK => ?_) AllReadyH.nil
    go_simp
    refine hK.out _ _ ?_ (fun hHeld => ?_)
    · exact unhide KS1
    clear hK K
    try simp only [Act.put, List.setIfInBounds_toArray, List.set_cons_zero, List.set_cons_succ]
    refine wpAnyH_ready (rs := [9]) (by kernel_rfl) (by simp) ?_
    refine AllReadyH.cons (o := { dst := some 50, op := Op.call { callee := Callee.builtin Builtin.append, args := #[Operand.tmp 46, Operand.tmp 49], argTypes := #[28, 28] }, type := 28, pos := "tree.go:63", after := #[{ on := 5, ground := Ground.data }, { on := 8, ground := Ground.data }], guard := none }) rfl (fun K hK => ?_) AllReadyH.nil
    refine wp_append_run (.tmp 46) (.tmp 49) 28 rfl (.slice ya yn yc) (.slice (some ⟨X.heap.size, 0, none⟩) 1 1) rfl rfl (unhide KR) ?_
    refine hK.out _ _ ?_ (fun hHeld => ?_)
    · exact unhide KS2
    clear hK K
    try simp only [Act.put, List.setIfInBounds_toArray, List.set_cons_zero, List.set_cons_succ]
    refine wpAnyH_take (i := 10) (oi := { dst := some 51, op := Op.indexAddr 24 (Operand.tmp 41) (Operand.tmp 42), type := 0, pos := "tree.go:63", after := #[{ on := 0, ground := Ground.data }, { on := 1, ground := Ground.data }, { on := 0, ground := Ground.phase }, { on := 1, ground := Ground.phase }, { on := 2, ground := Ground.phase }, { on := 3, ground := Ground.phase }, { on := 4, ground := Ground.phase }, { on := 5, ground := Ground.phase }, { on := 6, ground := Ground.phase }, { on := 7, ground := Ground.phase }, { on := 8, ground := Ground.phase }, { on := 9, ground := Ground.phase }], guard := none }) (v := ?_) rfl (by kernel_rfl) (by kernel_rfl) (by kernel_rfl) (fun c a w h => hQ c a _ w h) (Or.inl ⟨by rfl, ?_⟩) (by assumption) ?_
    rotate_left
    · intro w hSw; (try dsimp only at hSw); go_simp; (try with_reducible rfl)
    try simp only [Act.put, List.setIfInBounds_toArray, List.set_cons_zero, List.set_cons_succ]
    refine wpAnyH_ready (rs := [11]) (by kernel_rfl) (by simp) ?_
    refine AllReadyH.cons (o := { dst := none, op := Op.store 28 (Operand.tmp 51) (Operand.tmp 50), type := 0, pos := "tree.go:63", after := #[{ on := 10, ground := Ground.data }, { on := 9, ground := Ground.data }, { on := 9, ground := Ground.chain }, { on := 0, ground := Ground.phase }, { on := 1, ground := Ground.phase }, { on := 2, ground := Ground.phase }, { on := 3, ground := Ground.phase }, { on := 4, ground := Ground.phase }, { on := 5, ground := Ground.phase }, { on := 6, ground := Ground.phase }, { on := 7, ground := Ground.phase }, { on := 8, ground := Ground.phase }, { on := 9, ground := Ground.phase }], guard := none }) rfl (fun K hK => ?_) AllReadyH.nil
    go_simp
    refine hK.out _ _ ?_ (fun hHeld => ?_)
    · exact unhide KS3
    clear hK K
    try simp only [Act.put]
    refine wpAnyH_done (by kernel_rfl) ?_ _
    exact KEY.out _ _ _ _ _ _ _ _ _ _ _ _ _ (unhide KTN)
end Go.Proofs.Ytboajcpfoejfeaa
