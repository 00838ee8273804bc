import Derived.Test.YtjnbnndocinicaaGreatDoorWvQ
import Derived.Test.YtjnbnndocinicaaGreatDoorWvH
import Derived.Deep.RegionHeld3
namespace Go.Proofs.YtjnbnndocinicaaGreatDoor
open Go.RowKit Go.Maps Go.Shelf

set_option maxRecDepth 100000 in
set_option maxHeartbeats 4000000 in
theorem rgU {l n : Nat} {Q : Exit → Act → World → Prop} (hL : ¬ LetsOut Q) (hQ : ∀ c a a2 w, Q (.panic c) a w → Q (.panic c) a2 w) {v0 v1 v4 v7 v8 v9 v10 v11 v12 v13 v14 v15 v16 v17 v18 v19 v20 v21 v22 v23 v24 v25 v26 v27 v28 v29 : Value} {ds : List Deferred} {B0 B1 B2 g m sc lo : Nat} {sa : Option Addr} {c0 c1 c2 c3 c4 : Value} {p kd ix : Int} {fl : List Ft} {f : Ft} {W : World}
    (hS : ∀ w', RowKit.Below W.heap.size W w' → w'.cell? ⟨B0, 0, none⟩ = some c0 ∧ w'.cell? ⟨B0, 1, none⟩ = some c1 ∧ w'.cell? ⟨B0, 2, none⟩ = some c2 ∧ w'.cell? ⟨B0, 3, none⟩ = some c3 ∧ w'.cell? ⟨B0, 4, none⟩ = some c4 ∧ w'.cell? ⟨B1, 0, none⟩ = some (.int .i64 p) ∧ w'.cell? ⟨g, 0, none⟩ = some (.int .i64 kd) ∧ w'.cell? ⟨g, 1, none⟩ = some (.int .i64 ix)) (hB : ∀ w', RowKit.Below W.heap.size W w' → w'.cell? ⟨B2, 0, none⟩ = some (.slice sa m sc))
    (hF : ∀ w', RowKit.Below W.heap.size W w' → Calls Tryz.prog 47 #[.agg #[c0, c1, c2, c3, c4], .int .i64 kd, .int .i64 p, .int .i64 ix, .int .i64 (-1)] w' fun e w2 => e = .returned f.v ∧ RowKit.Below w'.heap.size w' w2)
    (hm : m ≤ 1099511627776) (hlo : lo ≤ W.heap.size) (hown : ∀ w', RowKit.Below W.heap.size W w' → w'.ownsRow lo 59 6 (.slice sa m sc) m (ftC fl))
    (hA : ∀ w5 w9, RowKit.Below W.heap.size W w5 → (w5.alloc (.cells #[.int .i64 f.kd, .string f.wn, .string f.wv, .int .i64 f.ix, .string f.on, .string f.ov] 59)).grownBy w9 (Value.slice sa m sc).ownBlock → (w9.cell? ⟨B0, 0, none⟩ = some c0 ∧ w9.cell? ⟨B0, 1, none⟩ = some c1 ∧ w9.cell? ⟨B0, 2, none⟩ = some c2 ∧ w9.cell? ⟨B0, 3, none⟩ = some c3 ∧ w9.cell? ⟨B0, 4, none⟩ = some c4 ∧ w9.cell? ⟨B1, 0, none⟩ = some (.int .i64 p) ∧ w9.cell? ⟨g, 0, none⟩ = some (.int .i64 kd) ∧ w9.cell? ⟨g, 1, none⟩ = some (.int .i64 ix)) ∧ w9.cell? ⟨B2, 0, none⟩ = some (.slice sa m sc) ∧ w9.frozen? ⟨B2, 0, none⟩ = false)
    (hA2 : ∀ w5 w9 u, RowKit.Below W.heap.size W w5 → (w5.alloc (.cells #[.int .i64 f.kd, .string f.wn, .string f.wv, .int .i64 f.ix, .string f.on, .string f.ov] 59)).grownBy w9 (Value.slice sa m sc).ownBlock → ((w9.setCell ⟨B2, 0, none⟩ u).cell? ⟨B0, 0, none⟩ = some c0 ∧ (w9.setCell ⟨B2, 0, none⟩ u).cell? ⟨B0, 1, none⟩ = some c1 ∧ (w9.setCell ⟨B2, 0, none⟩ u).cell? ⟨B0, 2, none⟩ = some c2 ∧ (w9.setCell ⟨B2, 0, none⟩ u).cell? ⟨B0, 3, none⟩ = some c3 ∧ (w9.setCell ⟨B2, 0, none⟩ u).cell? ⟨B0, 4, none⟩ = some c4 ∧ (w9.setCell ⟨B2, 0, none⟩ u).cell? ⟨B1, 0, none⟩ = some (.int .i64 p) ∧ (w9.setCell ⟨B2, 0, none⟩ u).cell? ⟨g, 0, none⟩ = some (.int .i64 kd) ∧ (w9.setCell ⟨B2, 0, none⟩ u).cell? ⟨g, 1, none⟩ = some (.int .i64 ix)))
    (KEY : ∀ h c w5 w9, RowKit.Below W.heap.size W w5 → w9.ownsRow lo 59 6 (.slice (some ⟨h, 0, none⟩) (m + 1) c) (m + 1) (ftC fl ++ f.cs) → (w5.alloc (.cells #[.int .i64 f.kd, .string f.wn, .string f.wv, .int .i64 f.ix, .string f.on, .string f.ov] 59)).grownBy w9 (Value.slice sa m sc).ownBlock → Q .normal { tmps := #[v0, v1, .pointer (some ⟨B0, 0, none⟩), .pointer (some ⟨B1, 0, none⟩), v4, .pointer (some ⟨B2, 0, none⟩), .pointer (some ⟨g, 0, none⟩), v7, v8, v9, v10, v11, v12, v13, v14, v15, v16, v17, v18, .slice sa m sc, .agg #[c0, c1, c2, c3, c4], .pointer (some ⟨g, 0, none⟩), .int .i64 kd, .int .i64 p, .pointer (some ⟨g, 1, none⟩), .int .i64 ix, f.v, .slice (some ⟨w5.heap.size, 0, none⟩) 1 1, .slice (some ⟨h, 0, none⟩) (m + 1) c, v29], defers := ds } (w9.setCell ⟨B2, 0, none⟩ (.slice (some ⟨h, 0, none⟩) (m + 1) c))) :
    (Code.region 5 #[{ dst := some 19, op := Op.load 56 (Operand.tmp 5), type := 56, pos := "check.go:60", after := #[], guard := none }, { dst := some 20, op := Op.load 62 (Operand.tmp 2), type := 62, pos := "check.go:60", after := #[], guard := none }, { dst := some 21, op := Op.fieldAddr 90 (Operand.tmp 6) 0, type := 0, pos := "check.go:60", after := #[], guard := none }, { dst := some 22, op := Op.load 3 (Operand.tmp 21), type := 3, pos := "check.go:60", after := #[{ on := 2, ground := Ground.data }], guard := none }, { dst := some 23, op := Op.load 3 (Operand.tmp 3), type := 3, pos := "check.go:60", after := #[], guard := none }, { dst := some 24, op := Op.fieldAddr 90 (Operand.tmp 6) 1, type := 0, pos := "check.go:60", after := #[], guard := none }, { dst := some 25, op := Op.load 3 (Operand.tmp 24), type := 3, pos := "check.go:60", after := #[{ on := 5, ground := Ground.data }], guard := none }, { dst := some 26, op := Op.call { callee := Callee.value (Operand.func 47), args := #[Operand.tmp 20, Operand.tmp 22, Operand.tmp 23, Operand.tmp 25, Operand.const (Value.int IntKind.i64 (-1))], argTypes := #[62, 3, 3, 3, 3] }, type := 59, pos := "check.go:60", after := #[{ on := 1, ground := Ground.data }, { on := 3, ground := Ground.data }, { on := 4, ground := Ground.data }, { on := 6, ground := Ground.data }], guard := none }, { dst := some 27, op := Op.buildSlice 56 1 #[(0, Operand.tmp 26)], type := 56, pos := "check.go:60", after := #[{ on := 7, ground := Ground.data }], guard := none }, { dst := some 28, op := Op.call { callee := Callee.builtin Builtin.append, args := #[Operand.tmp 19, Operand.tmp 27], argTypes := #[56, 56] }, type := 56, pos := "check.go:60", after := #[{ on := 0, ground := Ground.data }, { on := 8, ground := Ground.data }, { on := 7, ground := Ground.chain }], guard := none }, { dst := none, op := Op.store 56 (Operand.tmp 5) (Operand.tmp 28), type := 0, pos := "check.go:60", after := #[{ on := 9, ground := Ground.data }, { on := 9, ground := Ground.chain }, { on := 0, ground := Ground.phase }, { on := 1, ground := Ground.phase }, { on := 2, ground := Ground.phase }, { on := 3, ground := Ground.phase }, { on := 4, ground := Ground.phase }, { on := 5, ground := Ground.phase }, { on := 6, ground := Ground.phase }, { on := 7, ground := Ground.phase }, { on := 8, ground := Ground.phase }, { on := 9, ground := Ground.phase }], guard := none }] true).wpIn (Fence.wide.inRound l) n Tryz.prog Q { tmps := #[v0, v1, .pointer (some ⟨B0, 0, none⟩), .pointer (some ⟨B1, 0, none⟩), v4, .pointer (some ⟨B2, 0, none⟩), .pointer (some ⟨g, 0, none⟩), v7, v8, v9, v10, v11, v12, v13, v14, v15, v16, v17, v18, v19, v20, v21, v22, v23, v24, v25, v26, v27, v28, v29], defers := ds } W := by
  obtain ⟨i0, hi, hz0, hz1, hz2⟩ := info_parts2 infoFt
  refine region_round (by kernel_rfl) (fun i o ho c => ?_) hL (wpAny_of_held (S := fun w' => w'.cell? ⟨B0, 0, none⟩ = some c0 ∧ w'.cell? ⟨B0, 1, none⟩ = some c1 ∧ w'.cell? ⟨B0, 2, none⟩ = some c2 ∧ w'.cell? ⟨B0, 3, none⟩ = some c3 ∧ w'.cell? ⟨B0, 4, none⟩ = some c4 ∧ w'.cell? ⟨B1, 0, none⟩ = some (.int .i64 p) ∧ w'.cell? ⟨g, 0, none⟩ = some (.int .i64 kd) ∧ w'.cell? ⟨g, 1, none⟩ = some (.int .i64 ix)) _ _ _ _ ?_)
  · match i, ho with
    | 0, ho => cases ho; intro h; cases h
    | 1, ho => cases ho; intro h; cases h
    | 2, ho => cases ho; intro h; cases h
    | 3, ho => cases ho; intro h; cases h
    | 4, ho => cases ho; intro h; cases h
    | 5, ho => cases ho; intro h; cases h
    | 6, ho => cases ho; intro h; cases h
    | 7, ho => cases ho; intro h; cases h
    | 8, ho => cases ho; intro h; cases h
    | 9, ho => cases ho; intro h; cases h
    | 10, ho => cases ho; intro h; cases h
    | (j + 11), ho => simp at ho
  have HS := hide hS
  have HB := hide hB
  have HF := hide hF
  have HO := hide hown
  have HA := hide hA
  have HA2 := hide hA2
  have HKEY := hide KEY
  have B0b := hide ((Below.refl W.heap.size W).drew)
  clear hS hB hF hown hA hA2 KEY
  have hHeld := unhide HS W.drew (unhide B0b)
  have hbd := unhide HB W.drew (unhide B0b)
  refine wpAnyH_take (i := 1) (oi := { dst := some 20, op := Op.load 62 (Operand.tmp 2), type := 62, pos := "check.go:60", after := #[], guard := none }) (v := ?_) rfl (by kernel_rfl) (by kernel_rfl) (by kernel_rfl) (fun c a w h => hQ c _ _ w h) (Or.inl ⟨by rfl, ?_⟩) (by assumption) ?_
  rotate_left
  · intro w hSw; (try dsimp only at hSw); go_simp; (try with_reducible rfl)
  try simp only [Act.put, List.setIfInBounds_toArray, List.set_cons_zero, List.set_cons_succ]
  refine wpAnyH_take (i := 2) (oi := { dst := some 21, op := Op.fieldAddr 90 (Operand.tmp 6) 0, type := 0, pos := "check.go:60", after := #[], guard := none }) (v := ?_) rfl (by kernel_rfl) (by kernel_rfl) (by kernel_rfl) (fun c a w h => hQ c _ _ w h) (Or.inl ⟨by rfl, ?_⟩) (by assumption) ?_
  rotate_left
  · intro w hSw; (try dsimp only at hSw); go_simp; (try with_reducible rfl)
  try simp only [Act.put, List.setIfInBounds_toArray, List.set_cons_zero, List.set_cons_succ]
  refine wpAnyH_take (i := 3) (oi := { dst := some 22, op := Op.load 3 (Operand.tmp 21), type := 3, pos := "check.go:60", after := #[{ on := 2, ground := Ground.data }], guard := none }) (v := ?_) rfl (by kernel_rfl) (by kernel_rfl) (by kernel_rfl) (fun c a w h => hQ c _ _ w h) (Or.inl ⟨by rfl, ?_⟩) (by assumption) ?_
  rotate_left
  · intro w hSw; (try dsimp only at hSw); go_simp; (try with_reducible rfl)
  try simp only [Act.put, List.setIfInBounds_toArray, List.set_cons_zero, List.set_cons_succ]
  refine wpAnyH_take (i := 4) (oi := { dst := some 23, op := Op.load 3 (Operand.tmp 3), type := 3, pos := "check.go:60", after := #[], guard := none }) (v := ?_) rfl (by kernel_rfl) (by kernel_rfl) (by kernel_rfl) (fun c a w h => hQ c _ _ w h) (Or.inl ⟨by rfl, ?_⟩) (by assumption) ?_
  rotate_left
  · intro w hSw; (try dsimp only at hSw); go_simp; (try with_reducible rfl)
  try simp only [Act.put, List.setIfInBounds_toArray, List.set_cons_zero, List.set_cons_succ]
  refine wpAnyH_take (i := 5) (oi := { dst := some 24, op := Op.fieldAddr 90 (Operand.tmp 6) 1, type := 0, pos := "check.go:60", after := #[], guard := none }) (v := ?_) rfl (by kernel_rfl) (by kernel_rfl) (by kernel_rfl) (fun c a w h => hQ c _ _ w h) (Or.inl ⟨by rfl, ?_⟩) (by assumption) ?_
  rotate_left
  · intro w hSw; (try dsimp only at hSw); go_simp; (try with_reducible rfl)
  try simp only [Act.put, List.setIfInBounds_toArray, List.set_cons_zero, List.set_cons_succ]
  refine wpAnyH_take (i := 6) (oi := { dst := some 25, op := Op.load 3 (Operand.tmp 24), type := 3, pos := "check.go:60", after := #[{ on := 5, ground := Ground.data }], guard := none }) (v := ?_) rfl (by kernel_rfl) (by kernel_rfl) (by kernel_rfl) (fun c a w h => hQ c _ _ w h) (Or.inl ⟨by rfl, ?_⟩) (by assumption) ?_
  rotate_left
  · intro w hSw; (try dsimp only at hSw); go_simp; (try with_reducible rfl)
  try simp only [Act.put, List.setIfInBounds_toArray, List.set_cons_zero, List.set_cons_succ]
  refine wpAnyH_ready (rs := [0, 7]) (by kernel_rfl) (by simp) ?_
  refine AllReadyH.cons (o := { dst := some 19, op := Op.load 56 (Operand.tmp 5), type := 56, pos := "check.go:60", after := #[], guard := none }) rfl (fun K hK => ?_) (AllReadyH.cons (o := { dst := some 26, op := Op.call { callee := Callee.value (Operand.func 47), args := #[Operand.tmp 20, Operand.tmp 22, Operand.tmp 23, Operand.tmp 25, Operand.const (Value.int IntKind.i64 (-1))], argTypes := #[62, 3, 3, 3, 3] }, type := 59, pos := "check.go:60", after := #[{ on := 1, ground := Ground.data }, { on := 3, ground := Ground.data }, { on := 4, ground := Ground.data }, { on := 6, ground := Ground.data }], guard := none }) rfl (fun K hK => ?_) AllReadyH.nil)
  · skip
    go_simp
    refine hK.out _ _ (by assumption) (fun _ => ?_)
    clear hK K
    try simp only [Act.put, List.setIfInBounds_toArray, List.set_cons_zero, List.set_cons_succ]
    refine wpAnyH_ready (rs := [7]) (by kernel_rfl) (by simp) ?_
    refine AllReadyH.cons (o := { dst := some 26, op := Op.call { callee := Callee.value (Operand.func 47), args := #[Operand.tmp 20, Operand.tmp 22, Operand.tmp 23, Operand.tmp 25, Operand.const (Value.int IntKind.i64 (-1))], argTypes := #[62, 3, 3, 3, 3] }, type := 59, pos := "check.go:60", after := #[{ on := 1, ground := Ground.data }, { on := 3, ground := Ground.data }, { on := 4, ground := Ground.data }, { on := 6, ground := Ground.data }], guard := none }) rfl (fun K hK => ?_) AllReadyH.nil
    go_simp
    refine (unhide HF _ (unhide B0b)).mono ?_
    rintro e w5 ⟨rfl, hb5⟩
    have HB5 := hide (bl_t (unhide B0b) hb5)
    have hH5 := unhide HS w5 (unhide HB5)
    have hbd5 := unhide HB w5 (unhide HB5)
    clear hb5 hHeld hbd
    refine hK.out _ _ hH5 (fun _ => ?_)
    clear hK K
    try simp only [Act.put, List.setIfInBounds_toArray, List.set_cons_zero, List.set_cons_succ]
    refine wpAnyH_ready (rs := [8]) (by kernel_rfl) (by simp) ?_
    refine AllReadyH.cons (o := { dst := some 27, op := Op.buildSlice 56 1 #[(0, Operand.tmp 26)], type := 56, pos := "check.go:60", after := #[{ on := 7, ground := Ground.data }], guard := none }) rfl (fun K hK => ?_) AllReadyH.nil
    go_simp
    have HB6 := hide ((unhide HB5).alloc (unhide HB5).size (.cells #[.int .i64 f.kd, .string f.wn, .string f.wv, .int .i64 f.ix, .string f.on, .string f.ov] 59))
    have hH6 := unhide HS _ (unhide HB6)
    have hbd6 := unhide HB _ (unhide HB6)
    refine hK.out _ _ hH6 (fun _ => ?_)
    clear hK K
    try simp only [Act.put, List.setIfInBounds_toArray, List.set_cons_zero, List.set_cons_succ]
    refine wpAnyH_ready (rs := [9]) (by kernel_rfl) (by simp) ?_
    refine AllReadyH.cons (o := { dst := some 28, op := Op.call { callee := Callee.builtin Builtin.append, args := #[Operand.tmp 19, Operand.tmp 27], argTypes := #[56, 56] }, type := 56, pos := "check.go:60", after := #[{ on := 0, ground := Ground.data }, { on := 8, ground := Ground.data }, { on := 7, ground := Ground.chain }], guard := none }) rfl (fun K hK => ?_) AllReadyH.nil
    refine wp_append_own _ _ _ 56 rfl lo 59 i0 (.agg #[.int .i64 0, .string ⟨#[]⟩, .string ⟨#[]⟩, .int .i64 0, .string ⟨#[]⟩, .string ⟨#[]⟩]) 6 80 Tryz.underlying56 hi hz0 hz1 hz2 rfl (by decide) _ _ _ rfl (unhide HO _ (unhide HB6)) ⟨w5.heap.size, 0, none⟩ 1 1 f.cs rfl rfl (news_ft w5 f 59) (one_ft _) (by unfold maxLen; omega) (by omega) (Nat.le_trans hlo (unhide HB6).size) ?_
    intro v' w9 ho9 hg9 _
    obtain ⟨h9, c9, rfl⟩ := ownsRow_succ ho9
    obtain ⟨hs9, hc9, hf9⟩ := unhide HA w5 w9 (unhide HB5) hg9
    have hs10 := unhide HA2 w5 w9 (.slice (some ⟨h9, 0, none⟩) (m + 1) c9) (unhide HB5) hg9
    have HQQ := unhide HKEY h9 c9 w5 w9 (unhide HB5) ho9 hg9
    clear ho9 hg9
    refine hK.out _ _ hs9 (fun _ => ?_)
    clear hK K
    try simp only [Act.put, List.setIfInBounds_toArray, List.set_cons_zero, List.set_cons_succ]
    refine wpAnyH_ready (rs := [10]) (by kernel_rfl) (by simp) ?_
    refine AllReadyH.cons (o := { dst := none, op := Op.store 56 (Operand.tmp 5) (Operand.tmp 28), type := 0, pos := "check.go:60", after := #[{ on := 9, ground := Ground.data }, { on := 9, ground := Ground.chain }, { on := 0, ground := Ground.phase }, { on := 1, ground := Ground.phase }, { on := 2, ground := Ground.phase }, { on := 3, ground := Ground.phase }, { on := 4, ground := Ground.phase }, { on := 5, ground := Ground.phase }, { on := 6, ground := Ground.phase }, { on := 7, ground := Ground.phase }, { on := 8, ground := Ground.phase }, { on := 9, ground := Ground.phase }], guard := none }) rfl (fun K hK => ?_) AllReadyH.nil
    go_simp
    refine hK.out _ _ hs10 (fun _ => ?_)
    clear hK K
    try simp only [Act.put]
    refine wpAnyH_done (by kernel_rfl) ?_ _
    exact HQQ
  · skip
    go_simp
    refine (unhide HF _ (unhide B0b)).mono ?_
    rintro e w5 ⟨rfl, hb5⟩
    have HB5 := hide (bl_t (unhide B0b) hb5)
    have hH5 := unhide HS w5 (unhide HB5)
    have hbd5 := unhide HB w5 (unhide HB5)
    clear hb5 hHeld hbd
    refine hK.out _ _ hH5 (fun _ => ?_)
    clear hK K
    try simp only [Act.put, List.setIfInBounds_toArray, List.set_cons_zero, List.set_cons_succ]
    refine wpAnyH_ready (rs := [0, 8]) (by kernel_rfl) (by simp) ?_
    refine AllReadyH.cons (o := { dst := some 19, op := Op.load 56 (Operand.tmp 5), type := 56, pos := "check.go:60", after := #[], guard := none }) rfl (fun K hK => ?_) (AllReadyH.cons (o := { dst := some 27, op := Op.buildSlice 56 1 #[(0, Operand.tmp 26)], type := 56, pos := "check.go:60", after := #[{ on := 7, ground := Ground.data }], guard := none }) rfl (fun K hK => ?_) AllReadyH.nil)
    · skip
      go_simp
      refine hK.out _ _ (by assumption) (fun _ => ?_)
      clear hK K
      try simp only [Act.put, List.setIfInBounds_toArray, List.set_cons_zero, List.set_cons_succ]
      refine wpAnyH_ready (rs := [8]) (by kernel_rfl) (by simp) ?_
      refine AllReadyH.cons (o := { dst := some 27, op := Op.buildSlice 56 1 #[(0, Operand.tmp 26)], type := 56, pos := "check.go:60", after := #[{ on := 7, ground := Ground.data }], guard := none }) rfl (fun K hK => ?_) AllReadyH.nil
      go_simp
      have HB6 := hide ((unhide HB5).alloc (unhide HB5).size (.cells #[.int .i64 f.kd, .string f.wn, .string f.wv, .int .i64 f.ix, .string f.on, .string f.ov] 59))
      have hH6 := unhide HS _ (unhide HB6)
      have hbd6 := unhide HB _ (unhide HB6)
      refine hK.out _ _ hH6 (fun _ => ?_)
      clear hK K
      try simp only [Act.put, List.setIfInBounds_toArray, List.set_cons_zero, List.set_cons_succ]
      refine wpAnyH_ready (rs := [9]) (by kernel_rfl) (by simp) ?_
      refine AllReadyH.cons (o := { dst := some 28, op := Op.call { callee := Callee.builtin Builtin.append, args := #[Operand.tmp 19, Operand.tmp 27], argTypes := #[56, 56] }, type := 56, pos := "check.go:60", after := #[{ on := 0, ground := Ground.data }, { on := 8, ground := Ground.data }, { on := 7, ground := Ground.chain }], guard := none }) rfl (fun K hK => ?_) AllReadyH.nil
      refine wp_append_own _ _ _ 56 rfl lo 59 i0 (.agg #[.int .i64 0, .string ⟨#[]⟩, .string ⟨#[]⟩, .int .i64 0, .string ⟨#[]⟩, .string ⟨#[]⟩]) 6 80 Tryz.underlying56 hi hz0 hz1 hz2 rfl (by decide) _ _ _ rfl (unhide HO _ (unhide HB6)) ⟨w5.heap.size, 0, none⟩ 1 1 f.cs rfl rfl (news_ft w5 f 59) (one_ft _) (by unfold maxLen; omega) (by omega) (Nat.le_trans hlo (unhide HB6).size) ?_
      intro v' w9 ho9 hg9 _
      obtain ⟨h9, c9, rfl⟩ := ownsRow_succ ho9
      obtain ⟨hs9, hc9, hf9⟩ := unhide HA w5 w9 (unhide HB5) hg9
      have hs10 := unhide HA2 w5 w9 (.slice (some ⟨h9, 0, none⟩) (m + 1) c9) (unhide HB5) hg9
      have HQQ := unhide HKEY h9 c9 w5 w9 (unhide HB5) ho9 hg9
      clear ho9 hg9
      refine hK.out _ _ hs9 (fun _ => ?_)
      clear hK K
      try simp only [Act.put, List.setIfInBounds_toArray, List.set_cons_zero, List.set_cons_succ]
      refine wpAnyH_ready (rs := [10]) (by kernel_rfl) (by simp) ?_
      refine AllReadyH.cons (o := { dst := none, op := Op.store 56 (Operand.tmp 5) (Operand.tmp 28), type := 0, pos := "check.go:60", after := #[{ on := 9, ground := Ground.data }, { on := 9, ground := Ground.chain }, { on := 0, ground := Ground.phase }, { on := 1, ground := Ground.phase }, { on := 2, ground := Ground.phase }, { on := 3, ground := Ground.phase }, { on := 4, ground := Ground.phase }, { on := 5, ground := Ground.phase }, { on := 6, ground := Ground.phase }, { on := 7, ground := Ground.phase }, { on := 8, ground := Ground.phase }, { on := 9, ground := Ground.phase }], guard := none }) rfl (fun K hK => ?_) AllReadyH.nil
      go_simp
      refine hK.out _ _ hs10 (fun _ => ?_)
      clear hK K
      try simp only [Act.put]
      refine wpAnyH_done (by kernel_rfl) ?_ _
      exact HQQ
    · skip
      go_simp
      have HB6 := hide ((unhide HB5).alloc (unhide HB5).size (.cells #[.int .i64 f.kd, .string f.wn, .string f.wv, .int .i64 f.ix, .string f.on, .string f.ov] 59))
      have hH6 := unhide HS _ (unhide HB6)
      have hbd6 := unhide HB _ (unhide HB6)
      refine hK.out _ _ hH6 (fun _ => ?_)
      clear hK K
      try simp only [Act.put, List.setIfInBounds_toArray, List.set_cons_zero, List.set_cons_succ]
      refine wpAnyH_ready (rs := [0]) (by kernel_rfl) (by simp) ?_
      refine AllReadyH.cons (o := { dst := some 19, op := Op.load 56 (Operand.tmp 5), type := 56, pos := "check.go:60", after := #[], guard := none }) rfl (fun K hK => ?_) AllReadyH.nil
      go_simp
      refine hK.out _ _ (by assumption) (fun _ => ?_)
      clear hK K
      try simp only [Act.put, List.setIfInBounds_toArray, List.set_cons_zero, List.set_cons_succ]
      refine wpAnyH_ready (rs := [9]) (by kernel_rfl) (by simp) ?_
      refine AllReadyH.cons (o := { dst := some 28, op := Op.call { callee := Callee.builtin Builtin.append, args := #[Operand.tmp 19, Operand.tmp 27], argTypes := #[56, 56] }, type := 56, pos := "check.go:60", after := #[{ on := 0, ground := Ground.data }, { on := 8, ground := Ground.data }, { on := 7, ground := Ground.chain }], guard := none }) rfl (fun K hK => ?_) AllReadyH.nil
      refine wp_append_own _ _ _ 56 rfl lo 59 i0 (.agg #[.int .i64 0, .string ⟨#[]⟩, .string ⟨#[]⟩, .int .i64 0, .string ⟨#[]⟩, .string ⟨#[]⟩]) 6 80 Tryz.underlying56 hi hz0 hz1 hz2 rfl (by decide) _ _ _ rfl (unhide HO _ (unhide HB6)) ⟨w5.heap.size, 0, none⟩ 1 1 f.cs rfl rfl (news_ft w5 f 59) (one_ft _) (by unfold maxLen; omega) (by omega) (Nat.le_trans hlo (unhide HB6).size) ?_
      intro v' w9 ho9 hg9 _
      obtain ⟨h9, c9, rfl⟩ := ownsRow_succ ho9
      obtain ⟨hs9, hc9, hf9⟩ := unhide HA w5 w9 (unhide HB5) hg9
      have hs10 := unhide HA2 w5 w9 (.slice (some ⟨h9, 0, none⟩) (m + 1) c9) (unhide HB5) hg9
      have HQQ := unhide HKEY h9 c9 w5 w9 (unhide HB5) ho9 hg9
      clear ho9 hg9
      refine hK.out _ _ hs9 (fun _ => ?_)
      clear hK K
      try simp only [Act.put, List.setIfInBounds_toArray, List.set_cons_zero, List.set_cons_succ]
      refine wpAnyH_ready (rs := [10]) (by kernel_rfl) (by simp) ?_
      refine AllReadyH.cons (o := { dst := none, op := Op.store 56 (Operand.tmp 5) (Operand.tmp 28), type := 0, pos := "check.go:60", after := #[{ on := 9, ground := Ground.data }, { on := 9, ground := Ground.chain }, { on := 0, ground := Ground.phase }, { on := 1, ground := Ground.phase }, { on := 2, ground := Ground.phase }, { on := 3, ground := Ground.phase }, { on := 4, ground := Ground.phase }, { on := 5, ground := Ground.phase }, { on := 6, ground := Ground.phase }, { on := 7, ground := Ground.phase }, { on := 8, ground := Ground.phase }, { on := 9, ground := Ground.phase }], guard := none }) rfl (fun K hK => ?_) AllReadyH.nil
      go_simp
      refine hK.out _ _ hs10 (fun _ => ?_)
      clear hK K
      try simp only [Act.put]
      refine wpAnyH_done (by kernel_rfl) ?_ _
      exact HQQ
end Go.Proofs.YtjnbnndocinicaaGreatDoor
