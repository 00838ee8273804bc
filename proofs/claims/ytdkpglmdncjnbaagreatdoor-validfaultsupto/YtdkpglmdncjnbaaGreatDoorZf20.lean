import Derived.Test.YtdkpglmdncjnbaaGreatDoorZf19
namespace Go.Proofs.YtdkpglmdncjnbaaGreatDoor
section
open Go.RowKit Go.Maps Go.Shelf
abbrev y20_1 : Oper := ⟨some 19, .load 24 (.tmp 5), 24, "check.go:60", #[], none⟩
abbrev y20_2 : Oper := ⟨some 20, .load 66 (.tmp 2), 66, "check.go:60", #[], none⟩
abbrev y20_3 : Oper := ⟨some 21, .fieldAddr 116 (.tmp 6) 0, 0, "check.go:60", #[], none⟩
abbrev y20_4 : Oper := ⟨some 22, .load 3 (.tmp 21), 3, "check.go:60", #[⟨2, .data⟩], none⟩
abbrev y20_5 : Oper := ⟨some 23, .load 3 (.tmp 3), 3, "check.go:60", #[], none⟩
abbrev y20_6 : Oper := ⟨some 24, .fieldAddr 116 (.tmp 6) 1, 0, "check.go:60", #[], none⟩
abbrev y20_7 : Oper := ⟨some 25, .load 3 (.tmp 24), 3, "check.go:60", #[⟨5, .data⟩], none⟩
abbrev y20_8 : Oper := ⟨some 26, .call { callee := .value (.func 79), args := #[.tmp 20, .tmp 22, .tmp 23, .tmp 25, .const (Value.int IntKind.i64 (-1))], argTypes := #[66, 3, 3, 3, 3] }, 31, "check.go:60", #[⟨1, .data⟩, ⟨3, .data⟩, ⟨4, .data⟩, ⟨6, .data⟩], none⟩
abbrev y20_9 : Oper := ⟨some 27, .buildSlice 24 1 #[(0, .tmp 26)], 24, "check.go:60", #[⟨7, .data⟩], none⟩
abbrev y20_10 : Oper := ⟨some 28, .call { callee := .builtin Builtin.append, args := #[.tmp 19, .tmp 27], argTypes := #[24, 24] }, 24, "check.go:60", #[⟨0, .data⟩, ⟨8, .data⟩, ⟨7, .chain⟩], none⟩
abbrev y20_11 : Oper := ⟨none, .store 24 (.tmp 5) (.tmp 28), 0, "check.go:60", #[⟨9, .data⟩, ⟨9, .chain⟩, ⟨0, .phase⟩, ⟨1, .phase⟩, ⟨2, .phase⟩, ⟨3, .phase⟩, ⟨4, .phase⟩, ⟨5, .phase⟩, ⟨6, .phase⟩, ⟨7, .phase⟩, ⟨8, .phase⟩, ⟨9, .phase⟩], none⟩
set_option maxRecDepth 100000 in
set_option maxHeartbeats 4000000 in
theorem rgU {l n : Nat} {Q : Exit → Act → World → Prop} (hL : ¬ LetsOut Q) (hQ : ∀ c a a2 w, Q (.panic c) a w → Q (.panic c) a2 w) {v0 v1 v4 v7 v8 v9 v10 v11 v12 v13 v14 v15 v16 v17 v18 v19 v20 v21 v22 v23 v24 v25 v26 v27 v28 v29 : Value} {ds : List Deferred} {B0 B1 B2 g m sc lo : Nat} {sa : Option Addr} {c0 c1 c2 c3 c4 : Value} {p kd ix : Int} {fl : List Ft} {f : Ft} {W : World}
 (hS : ∀ w', RowKit.Below W.heap.size W w' → w'.cell? ⟨B0, 0, none⟩ = some c0 ∧ w'.cell? ⟨B0, 1, none⟩ = some c1 ∧ w'.cell? ⟨B0, 2, none⟩ = some c2 ∧ w'.cell? ⟨B0, 3, none⟩ = some c3 ∧ w'.cell? ⟨B0, 4, none⟩ = some c4 ∧ w'.cell? ⟨B1, 0, none⟩ = some (.int .i64 p) ∧ w'.cell? ⟨g, 0, none⟩ = some (.int .i64 kd) ∧ w'.cell? ⟨g, 1, none⟩ = some (.int .i64 ix)) (hB : ∀ w', RowKit.Below W.heap.size W w' → w'.cell? ⟨B2, 0, none⟩ = some (.slice sa m sc))
 (hF : ∀ w', RowKit.Below W.heap.size W w' → Calls Tryz.prog 79 #[.agg #[c0, c1, c2, c3, c4], .int .i64 kd, .int .i64 p, .int .i64 ix, .int .i64 (-1)] w' fun e w2 => e = .returned f.v ∧ RowKit.Below w'.heap.size w' w2)
 (hm : m ≤ 1099511627776) (hlo : lo ≤ W.heap.size) (hown : ∀ w', RowKit.Below W.heap.size W w' → w'.ownsRow lo 31 6 (.slice sa m sc) m (ftC fl))
 (hA : ∀ w5 w9, RowKit.Below W.heap.size W w5 → (w5.alloc (.cells #[.int .i64 f.kd, .string f.wn, .string f.wv, .int .i64 f.ix, .string f.on, .string f.ov] 31)).grownBy w9 (Value.slice sa m sc).ownBlock → (w9.cell? ⟨B0, 0, none⟩ = some c0 ∧ w9.cell? ⟨B0, 1, none⟩ = some c1 ∧ w9.cell? ⟨B0, 2, none⟩ = some c2 ∧ w9.cell? ⟨B0, 3, none⟩ = some c3 ∧ w9.cell? ⟨B0, 4, none⟩ = some c4 ∧ w9.cell? ⟨B1, 0, none⟩ = some (.int .i64 p) ∧ w9.cell? ⟨g, 0, none⟩ = some (.int .i64 kd) ∧ w9.cell? ⟨g, 1, none⟩ = some (.int .i64 ix)) ∧ w9.cell? ⟨B2, 0, none⟩ = some (.slice sa m sc) ∧ w9.frozen? ⟨B2, 0, none⟩ = false)
 (hA2 : ∀ w5 w9 u, RowKit.Below W.heap.size W w5 → (w5.alloc (.cells #[.int .i64 f.kd, .string f.wn, .string f.wv, .int .i64 f.ix, .string f.on, .string f.ov] 31)).grownBy w9 (Value.slice sa m sc).ownBlock → ((w9.setCell ⟨B2, 0, none⟩ u).cell? ⟨B0, 0, none⟩ = some c0 ∧ (w9.setCell ⟨B2, 0, none⟩ u).cell? ⟨B0, 1, none⟩ = some c1 ∧ (w9.setCell ⟨B2, 0, none⟩ u).cell? ⟨B0, 2, none⟩ = some c2 ∧ (w9.setCell ⟨B2, 0, none⟩ u).cell? ⟨B0, 3, none⟩ = some c3 ∧ (w9.setCell ⟨B2, 0, none⟩ u).cell? ⟨B0, 4, none⟩ = some c4 ∧ (w9.setCell ⟨B2, 0, none⟩ u).cell? ⟨B1, 0, none⟩ = some (.int .i64 p) ∧ (w9.setCell ⟨B2, 0, none⟩ u).cell? ⟨g, 0, none⟩ = some (.int .i64 kd) ∧ (w9.setCell ⟨B2, 0, none⟩ u).cell? ⟨g, 1, none⟩ = some (.int .i64 ix)))
 (KEY : ∀ h c w5 w9, RowKit.Below W.heap.size W w5 → w9.ownsRow lo 31 6 (.slice (some ⟨h, 0, none⟩) (m + 1) c) (m + 1) (ftC fl ++ f.cs) → (w5.alloc (.cells #[.int .i64 f.kd, .string f.wn, .string f.wv, .int .i64 f.ix, .string f.on, .string f.ov] 31)).grownBy w9 (Value.slice sa m sc).ownBlock → Q .normal { tmps := #[v0, v1, .pointer (some ⟨B0, 0, none⟩), .pointer (some ⟨B1, 0, none⟩), v4, .pointer (some ⟨B2, 0, none⟩), .pointer (some ⟨g, 0, none⟩), v7, v8, v9, v10, v11, v12, v13, v14, v15, v16, v17, v18, .slice sa m sc, .agg #[c0, c1, c2, c3, c4], .pointer (some ⟨g, 0, none⟩), .int .i64 kd, .int .i64 p, .pointer (some ⟨g, 1, none⟩), .int .i64 ix, f.v, .slice (some ⟨w5.heap.size, 0, none⟩) 1 1, .slice (some ⟨h, 0, none⟩) (m + 1) c, v29], defers := ds } (w9.setCell ⟨B2, 0, none⟩ (.slice (some ⟨h, 0, none⟩) (m + 1) c))) :
 (Code.region 5 #[y20_1, y20_2, y20_3, y20_4, y20_5, y20_6, y20_7, y20_8, y20_9, y20_10, y20_11] true).wpIn (Fence.wide.inRound l) n Tryz.prog Q { tmps := #[v0, v1, .pointer (some ⟨B0, 0, none⟩), .pointer (some ⟨B1, 0, none⟩), v4, .pointer (some ⟨B2, 0, none⟩), .pointer (some ⟨g, 0, none⟩), v7, v8, v9, v10, v11, v12, v13, v14, v15, v16, v17, v18, v19, v20, v21, v22, v23, v24, v25, v26, v27, v28, v29], defers := ds } W := by
 obtain ⟨i0, hi, hz0, hz1, hz2⟩ := info_parts2 infoFt
 refine region_round (by kernel_rfl) (fun i o ho c => ?_) hL (wpAny_of_held (S := fun w' => w'.cell? ⟨B0, 0, none⟩ = some c0 ∧ w'.cell? ⟨B0, 1, none⟩ = some c1 ∧ w'.cell? ⟨B0, 2, none⟩ = some c2 ∧ w'.cell? ⟨B0, 3, none⟩ = some c3 ∧ w'.cell? ⟨B0, 4, none⟩ = some c4 ∧ w'.cell? ⟨B1, 0, none⟩ = some (.int .i64 p) ∧ w'.cell? ⟨g, 0, none⟩ = some (.int .i64 kd) ∧ w'.cell? ⟨g, 1, none⟩ = some (.int .i64 ix)) _ _ _ _ ?_)
 ·match i, ho with
  | 0, ho => cases ho; intro h; cases h
  | 1, ho => cases ho; intro h; cases h
  | 2, ho => cases ho; intro h; cases h
  | 3, ho => cases ho; intro h; cases h
  | 4, ho => cases ho; intro h; cases h
  | 5, ho => cases ho; intro h; cases h
  | 6, ho => cases ho; intro h; cases h
  | 7, ho => cases ho; intro h; cases h
  | 8, ho => cases ho; intro h; cases h
  | 9, ho => cases ho; intro h; cases h
  | 10, ho => cases ho; intro h; cases h
  | (j + 11), ho => simp at ho
 have HS := hide hS
 have HB := hide hB
 have HF := hide hF
 have HO := hide hown
 have HA := hide hA
 have HA2 := hide hA2
 have HKEY := hide KEY
 have B0b := hide ((Below.refl W.heap.size W).drew)
 clear hS hB hF hown hA hA2 KEY
 have hHeld := unhide HS W.drew (unhide B0b)
 have hbd := unhide HB W.drew (unhide B0b)
 refine wpAnyH_take (i := 1) (oi := y20_2) (v := ?_) rfl (by kernel_rfl) (by kernel_rfl) (by kernel_rfl) (fun c a w h => hQ c _ _ w h) (Or.inl ⟨by rfl, ?_⟩) (by assumption) ?_; rotate_left
 ·intro w hSw; (try dsimp only at hSw); go_simp; (try with_reducible rfl)
 try simp only [Act.put, sqB, sq0, sq1]
 refine wpAnyH_take (i := 2) (oi := y20_3) (v := ?_) rfl (by kernel_rfl) (by kernel_rfl) (by kernel_rfl) (fun c a w h => hQ c _ _ w h) (Or.inl ⟨by rfl, ?_⟩) (by assumption) ?_; rotate_left
 ·intro w hSw; (try dsimp only at hSw); go_simp; (try with_reducible rfl)
 try simp only [Act.put, sqB, sq0, sq1]
 refine wpAnyH_take (i := 3) (oi := y20_4) (v := ?_) rfl (by kernel_rfl) (by kernel_rfl) (by kernel_rfl) (fun c a w h => hQ c _ _ w h) (Or.inl ⟨by rfl, ?_⟩) (by assumption) ?_; rotate_left
 ·intro w hSw; (try dsimp only at hSw); go_simp; (try with_reducible rfl)
 try simp only [Act.put, sqB, sq0, sq1]
 refine wpAnyH_take (i := 4) (oi := y20_5) (v := ?_) rfl (by kernel_rfl) (by kernel_rfl) (by kernel_rfl) (fun c a w h => hQ c _ _ w h) (Or.inl ⟨by rfl, ?_⟩) (by assumption) ?_; rotate_left
 ·intro w hSw; (try dsimp only at hSw); go_simp; (try with_reducible rfl)
 try simp only [Act.put, sqB, sq0, sq1]
 refine wpAnyH_take (i := 5) (oi := y20_6) (v := ?_) rfl (by kernel_rfl) (by kernel_rfl) (by kernel_rfl) (fun c a w h => hQ c _ _ w h) (Or.inl ⟨by rfl, ?_⟩) (by assumption) ?_; rotate_left
 ·intro w hSw; (try dsimp only at hSw); go_simp; (try with_reducible rfl)
 try simp only [Act.put, sqB, sq0, sq1]
 refine wpAnyH_take (i := 6) (oi := y20_7) (v := ?_) rfl (by kernel_rfl) (by kernel_rfl) (by kernel_rfl) (fun c a w h => hQ c _ _ w h) (Or.inl ⟨by rfl, ?_⟩) (by assumption) ?_; rotate_left
 ·intro w hSw; (try dsimp only at hSw); go_simp; (try with_reducible rfl)
 try simp only [Act.put, sqB, sq0, sq1]
 refine wpAnyH_ready (rs := [0, 7]) (by kernel_rfl) (by simp) ?_
 refine AllReadyH.cons (o := y20_1) rfl (fun K hK => ?_) (AllReadyH.cons (o := y20_8) rfl (fun K hK => ?_) AllReadyH.nil)
 ·skip
  go_simp
  refine hK.out _ _ (by assumption) (fun _ => ?_)
  clear hK K
  try simp only [Act.put, sqB, sq0, sq1]
  refine wpAnyH_ready (rs := [7]) (by kernel_rfl) (by simp) ?_
  refine AllReadyH.cons (o := y20_8) rfl (fun K hK => ?_) AllReadyH.nil
  go_simp
  refine (unhide HF _ (unhide B0b)).mono ?_
  rintro e w5 ⟨rfl, hb5⟩
  have HB5 := hide (bl_t (unhide B0b) hb5)
  have hH5 := unhide HS w5 (unhide HB5)
  have hbd5 := unhide HB w5 (unhide HB5)
  clear hb5 hHeld hbd
  refine hK.out _ _ hH5 (fun _ => ?_)
  clear hK K
  try simp only [Act.put, sqB, sq0, sq1]
  refine wpAnyH_ready (rs := [8]) (by kernel_rfl) (by simp) ?_
  refine AllReadyH.cons (o := y20_9) rfl (fun K hK => ?_) AllReadyH.nil
  go_simp
  have HB6 := hide ((unhide HB5).alloc (unhide HB5).size (.cells #[.int .i64 f.kd, .string f.wn, .string f.wv, .int .i64 f.ix, .string f.on, .string f.ov] 31))
  have hH6 := unhide HS _ (unhide HB6)
  have hbd6 := unhide HB _ (unhide HB6)
  refine hK.out _ _ hH6 (fun _ => ?_)
  clear hK K
  try simp only [Act.put, sqB, sq0, sq1]
  refine wpAnyH_ready (rs := [9]) (by kernel_rfl) (by simp) ?_
  refine AllReadyH.cons (o := y20_10) rfl (fun K hK => ?_) AllReadyH.nil
  refine wp_append_own _ _ _ 24 rfl lo 31 i0 (.agg #[.int .i64 0, .string ⟨#[]⟩, .string ⟨#[]⟩, .int .i64 0, .string ⟨#[]⟩, .string ⟨#[]⟩]) 6 80 Tryz.underlying24 hi hz0 hz1 hz2 rfl (by decide) _ _ _ rfl (unhide HO _ (unhide HB6)) ⟨w5.heap.size, 0, none⟩ 1 1 f.cs rfl rfl (news_ft w5 f 31) (one_ft _) (by unfold maxLen; omega) (by omega) (Nat.le_trans hlo (unhide HB6).size) ?_
  intro v' w9 ho9 hg9 _
  obtain ⟨h9, c9, rfl⟩ := ownsRow_succ ho9
  obtain ⟨hs9, hc9, hf9⟩ := unhide HA w5 w9 (unhide HB5) hg9
  have hs10 := unhide HA2 w5 w9 (.slice (some ⟨h9, 0, none⟩) (m + 1) c9) (unhide HB5) hg9
  have HQQ := unhide HKEY h9 c9 w5 w9 (unhide HB5) ho9 hg9
  clear ho9 hg9
  refine hK.out _ _ hs9 (fun _ => ?_)
  clear hK K
  try simp only [Act.put, sqB, sq0, sq1]
  refine wpAnyH_ready (rs := [10]) (by kernel_rfl) (by simp) ?_
  refine AllReadyH.cons (o := y20_11) rfl (fun K hK => ?_) AllReadyH.nil
  go_simp
  refine hK.out _ _ hs10 (fun _ => ?_)
  clear hK K
  try simp only [Act.put]
  refine wpAnyH_done (by kernel_rfl) ?_ _
  exact HQQ
 ·skip
  go_simp
  refine (unhide HF _ (unhide B0b)).mono ?_
  rintro e w5 ⟨rfl, hb5⟩
  have HB5 := hide (bl_t (unhide B0b) hb5)
  have hH5 := unhide HS w5 (unhide HB5)
  have hbd5 := unhide HB w5 (unhide HB5)
  clear hb5 hHeld hbd
  refine hK.out _ _ hH5 (fun _ => ?_)
  clear hK K
  try simp only [Act.put, sqB, sq0, sq1]
  refine wpAnyH_ready (rs := [0, 8]) (by kernel_rfl) (by simp) ?_
  refine AllReadyH.cons (o := y20_1) rfl (fun K hK => ?_) (AllReadyH.cons (o := y20_9) rfl (fun K hK => ?_) AllReadyH.nil)
  ·skip
   go_simp
   refine hK.out _ _ (by assumption) (fun _ => ?_)
   clear hK K
   try simp only [Act.put, sqB, sq0, sq1]
   refine wpAnyH_ready (rs := [8]) (by kernel_rfl) (by simp) ?_
   refine AllReadyH.cons (o := y20_9) rfl (fun K hK => ?_) AllReadyH.nil
   go_simp
   have HB6 := hide ((unhide HB5).alloc (unhide HB5).size (.cells #[.int .i64 f.kd, .string f.wn, .string f.wv, .int .i64 f.ix, .string f.on, .string f.ov] 31))
   have hH6 := unhide HS _ (unhide HB6)
   have hbd6 := unhide HB _ (unhide HB6)
   refine hK.out _ _ hH6 (fun _ => ?_)
   clear hK K
   try simp only [Act.put, sqB, sq0, sq1]
   refine wpAnyH_ready (rs := [9]) (by kernel_rfl) (by simp) ?_
   refine AllReadyH.cons (o := y20_10) rfl (fun K hK => ?_) AllReadyH.nil
   refine wp_append_own _ _ _ 24 rfl lo 31 i0 (.agg #[.int .i64 0, .string ⟨#[]⟩, .string ⟨#[]⟩, .int .i64 0, .string ⟨#[]⟩, .string ⟨#[]⟩]) 6 80 Tryz.underlying24 hi hz0 hz1 hz2 rfl (by decide) _ _ _ rfl (unhide HO _ (unhide HB6)) ⟨w5.heap.size, 0, none⟩ 1 1 f.cs rfl rfl (news_ft w5 f 31) (one_ft _) (by unfold maxLen; omega) (by omega) (Nat.le_trans hlo (unhide HB6).size) ?_
   intro v' w9 ho9 hg9 _
   obtain ⟨h9, c9, rfl⟩ := ownsRow_succ ho9
   obtain ⟨hs9, hc9, hf9⟩ := unhide HA w5 w9 (unhide HB5) hg9
   have hs10 := unhide HA2 w5 w9 (.slice (some ⟨h9, 0, none⟩) (m + 1) c9) (unhide HB5) hg9
   have HQQ := unhide HKEY h9 c9 w5 w9 (unhide HB5) ho9 hg9
   clear ho9 hg9
   refine hK.out _ _ hs9 (fun _ => ?_)
   clear hK K
   try simp only [Act.put, sqB, sq0, sq1]
   refine wpAnyH_ready (rs := [10]) (by kernel_rfl) (by simp) ?_
   refine AllReadyH.cons (o := y20_11) rfl (fun K hK => ?_) AllReadyH.nil
   go_simp
   refine hK.out _ _ hs10 (fun _ => ?_)
   clear hK K
   try simp only [Act.put]
   refine wpAnyH_done (by kernel_rfl) ?_ _
   exact HQQ
  ·skip
   go_simp
   have HB6 := hide ((unhide HB5).alloc (unhide HB5).size (.cells #[.int .i64 f.kd, .string f.wn, .string f.wv, .int .i64 f.ix, .string f.on, .string f.ov] 31))
   have hH6 := unhide HS _ (unhide HB6)
   have hbd6 := unhide HB _ (unhide HB6)
   refine hK.out _ _ hH6 (fun _ => ?_)
   clear hK K
   try simp only [Act.put, sqB, sq0, sq1]
   refine wpAnyH_ready (rs := [0]) (by kernel_rfl) (by simp) ?_
   refine AllReadyH.cons (o := y20_1) rfl (fun K hK => ?_) AllReadyH.nil
   go_simp
   refine hK.out _ _ (by assumption) (fun _ => ?_)
   clear hK K
   try simp only [Act.put, sqB, sq0, sq1]
   refine wpAnyH_ready (rs := [9]) (by kernel_rfl) (by simp) ?_
   refine AllReadyH.cons (o := y20_10) rfl (fun K hK => ?_) AllReadyH.nil
   refine wp_append_own _ _ _ 24 rfl lo 31 i0 (.agg #[.int .i64 0, .string ⟨#[]⟩, .string ⟨#[]⟩, .int .i64 0, .string ⟨#[]⟩, .string ⟨#[]⟩]) 6 80 Tryz.underlying24 hi hz0 hz1 hz2 rfl (by decide) _ _ _ rfl (unhide HO _ (unhide HB6)) ⟨w5.heap.size, 0, none⟩ 1 1 f.cs rfl rfl (news_ft w5 f 31) (one_ft _) (by unfold maxLen; omega) (by omega) (Nat.le_trans hlo (unhide HB6).size) ?_
   intro v' w9 ho9 hg9 _
   obtain ⟨h9, c9, rfl⟩ := ownsRow_succ ho9
   obtain ⟨hs9, hc9, hf9⟩ := unhide HA w5 w9 (unhide HB5) hg9
   have hs10 := unhide HA2 w5 w9 (.slice (some ⟨h9, 0, none⟩) (m + 1) c9) (unhide HB5) hg9
   have HQQ := unhide HKEY h9 c9 w5 w9 (unhide HB5) ho9 hg9
   clear ho9 hg9
   refine hK.out _ _ hs9 (fun _ => ?_)
   clear hK K
   try simp only [Act.put, sqB, sq0, sq1]
   refine wpAnyH_ready (rs := [10]) (by kernel_rfl) (by simp) ?_
   refine AllReadyH.cons (o := y20_11) rfl (fun K hK => ?_) AllReadyH.nil
   go_simp
   refine hK.out _ _ hs10 (fun _ => ?_)
   clear hK K
   try simp only [Act.put]
   refine wpAnyH_done (by kernel_rfl) ?_ _
   exact HQQ
end
section
open Go.RowKit Go.Maps Go.Shelf
attribute [local go_sem] Oper.semAt_some
attribute [local simp] wide_fn
attribute [local go_sem] wide_fn
structure Un (w Z : World) (C : Array Value) (p : Int) (s : Value) (l : List Ft) : Prop where
 b0 : Z.heap[w.heap.size]? = some (.cells C 66 (0, 0))
 b1 : Z.heap[w.heap.size + 1]? = some (.cells #[.int .i64 p] 3 (0, 0))
 b2 : Z.heap[w.heap.size + 2]? = some (.cells #[s] 24 (0, 0))
 row : Z.ownsRow (w.heap.size + 3) 31 6 s l.length (ftC l)
 bw : RowKit.Below w.heap.size w Z
theorem Un.turn {w X Y : World} {C : Array Value} {p : Int} {s : Value} {l : List Ft} {B : Nat} {row : Option Nat} (h : Un w X C p s l) (hg : X.grownBy Y row) (hr : ∀ r, row = some r → B ≤ r ∧ ∃ o : Obj, X.heap[r]? = some o ∧ o.isCells = false) (hB : w.heap.size + 3 ≤ B) : Un w Y C p s l := by
 have ne : ∀ j, j < B → some j ≠ row := fun j hj e => by have := (hr j e.symm).1; omega
 have k : ∀ j o, j < B → X.heap[j]? = some o → Y.heap[j]? = some o := fun j o hj e => (hg.block j (blk_lt e) (ne j hj)).trans e
 refine ⟨k _ _ (by omega) h.b0, k _ _ (by omega) h.b1, k _ _ (by omega) h.b2, ⟨h.row.1, ?_⟩, hg.os.trans h.bw.os, hg.tape.trans h.bw.tape, hg.output.trans h.bw.output, Nat.le_trans h.bw.size hg.size, fun j hj => ?_⟩
 ·rcases h.row.2 with z | ⟨g, cap, cur, h1, h2, h3, h4⟩
  ·exact .inl z
  ·refine .inr ⟨g, cap, cur, h1, h2, (hg.block g (blk_lt h3) fun e => ?_).trans h3, h4⟩
   obtain ⟨_, o, ho, hc⟩ := hr g e.symm
   rw [h3] at ho
   cases ho
   cases hc
 ·have := h.bw.size
  exact (hg.block j (by omega) (ne j (by omega))).trans (h.bw.block j hj)
theorem Un.lt {w Z : World} {C : Array Value} {p : Int} {s : Value} {l : List Ft} (h : Un w Z C p s l) : w.heap.size + 3 ≤ Z.heap.size := blk_lt h.b2
theorem Un.later {w X Y : World} {C : Array Value} {p : Int} {s : Value} {l : List Ft} (h : Un w X C p s l) (hb : RowKit.Below X.heap.size X Y) : Un w Y C p s l := h.turn (B := X.heap.size) (grown_below hb) (fun k e => by cases e) h.lt
theorem Un.grow {w X w5 w9 : World} {C : Array Value} {p : Int} {s v' : Value} {l : List Ft} {f : Ft} {o : Obj} (h : Un w X C p s l) (hb : RowKit.Below X.heap.size X w5) (hown : w9.ownsRow (w.heap.size + 3) 31 6 v' (l.length + 1) (ftC l ++ f.cs)) (hg : (w5.alloc o).grownBy w9 s.ownBlock) (hob : ∀ b, v'.ownBlock = some b → b ≠ w.heap.size + 2) :
 Un w (w9.setCell ⟨w.heap.size + 2, 0, none⟩ v') C p v' (l ++ [f]) ∧ RowKit.Below w.heap.size X (w9.setCell ⟨w.heap.size + 2, 0, none⟩ v') ∧ ∀ c, c < X.heap.size → c ≠ w.heap.size + 2 → s.ownBlock ≠ some c → (w9.setCell ⟨w.heap.size + 2, 0, none⟩ v').heap[c]? = X.heap[c]? := by
 have hz := h.lt
 have h5 := h.later hb
 have hz5 := hb.size
 have ne : ∀ j, j < w.heap.size + 3 → some j ≠ s.ownBlock := fun j hj e => by have := (World.ownsRow.lt h.row j e.symm).1; omega
 have k9 : ∀ j, j < w5.heap.size → some j ≠ s.ownBlock → w9.heap[j]? = w5.heap[j]? := fun j hj e => (hg.block j (by rw [World.size_alloc]; omega) e).trans (Below.heap_alloc _ _ _ hj)
 have k : ∀ j o, j < w.heap.size + 3 → j ≠ w.heap.size + 2 → w5.heap[j]? = some o → (w9.setCell ⟨w.heap.size + 2, 0, none⟩ v').heap[j]? = some o := fun j o hj hn e => (set_other w9 _ 0 v' j hn).trans ((k9 j (blk_lt e) (ne j hj)).trans e)
 have hb9 : RowKit.Below w.heap.size w w9 := (h5.bw.alloc h5.bw.size o).grown hg (by have := h5.bw.size; rw [World.size_alloc]; omega) fun j e => by have := (World.ownsRow.lt h.row j e).1; omega
 have hX9 : RowKit.Below w.heap.size X w9 := ((hb.mono h.bw.size).alloc (Nat.le_trans h.bw.size hz5) o).grown hg (by rw [World.size_alloc]; have := h.bw.size; omega) fun j e => by have := (World.ownsRow.lt h.row j e).1; omega
 refine ⟨⟨k _ _ (by omega) (by omega) h5.b0, k _ _ (by omega) (by omega) h5.b1, set_blk ((k9 _ (by omega) (ne _ (by omega))).trans h5.b2) 0 v', ?_, hb9.setCell (p := ⟨w.heap.size + 2, 0, none⟩) (by show w.heap.size ≤ w.heap.size + 2; omega) _⟩, hX9.setCell (p := ⟨w.heap.size + 2, 0, none⟩) (by show w.heap.size ≤ w.heap.size + 2; omega) _, fun c hc hn hs => ?_⟩
 ·rw [List.length_append, ftC_snoc]
  exact own_same hown fun b e => set_other w9 _ 0 v' b (hob b e)
 ·exact (set_other w9 _ 0 v' c hn).trans ((k9 c (by omega) (fun e => hs e.symm)).trans (hb.block c hc))
theorem un_new (w : World) (C : Array Value) (p : Int) : Un w (((w.alloc (.cells C 66)).alloc (.cells #[.int .i64 p] 3)).alloc (.cells #[.slice none 0 0] 24)) C p (.slice none 0 0) [] := by
 obtain ⟨A, hA⟩ : ∃ x, x = w.alloc (.cells C 66) := ⟨_, rfl⟩
 obtain ⟨B, hB⟩ : ∃ x, x = A.alloc (.cells #[.int .i64 p] 3) := ⟨_, rfl⟩
 rw [← hA, ← hB]
 have zA : A.heap.size = w.heap.size + 1 := by rw [hA]; exact World.size_alloc _ _
 have zB : B.heap.size = w.heap.size + 2 := by rw [hB, World.size_alloc]; omega
 have bA : RowKit.Below w.heap.size w A := by rw [hA]; exact (Below.refl _ w).alloc (Nat.le_refl _) _
 have bB : RowKit.Below A.heap.size A B := by rw [hB]; exact (Below.refl _ A).alloc (Nat.le_refl _) _
 have bC : RowKit.Below B.heap.size B (B.alloc (.cells #[.slice none 0 0] 24)) := (Below.refl _ B).alloc (Nat.le_refl _) _
 have h0 : A.heap[w.heap.size]? = some (.cells C 66 (0, 0)) := by rw [hA]; exact heap_alloc_new _ _
 have h1 : B.heap[w.heap.size + 1]? = some (.cells #[.int .i64 p] 3 (0, 0)) := by rw [← zA, hB]; exact heap_alloc_new _ _
 have h2 : (B.alloc (.cells #[.slice none 0 0] 24)).heap[w.heap.size + 2]? = some (.cells #[.slice none 0 0] 24 (0, 0)) := by rw [← zB]; exact heap_alloc_new _ _
 exact ⟨(bC.block _ (by omega)).trans ((bB.block _ (by omega)).trans h0), (bC.block _ (by omega)).trans h1, h2, ⟨rfl, .inl ⟨rfl, rfl⟩⟩, bl_t (bl_t bA bB) bC⟩
def unO (ps : List Pk) (q : Pk) (n : Nv) : List Ft := if imP ps (fun _ => true) n.bt n.al then [] else [⟨n.kd, q.nm, q.vr, n.ix, ⟨#[]⟩, ⟨#[]⟩⟩]
theorem unO_len (ps : List Pk) (q : Pk) : ∀ l : List Nv, (l.flatMap (unO ps q)).length ≤ l.length
 | [] => Nat.le_refl _
 | n :: l => by
   have ih := unO_len ps q l
   rw [List.flatMap_cons, List.length_append, List.length_cons]
   have : (unO ps q n).length ≤ 1 := by unfold unO; split <;> simp
   omega
theorem nvL_len (p : Nat) (dp pr : List (List At)) (f g : Nat → Hd) : (nvL p dp pr f g).length = dp.length + pr.length := by unfold nvL; simp
end
end Go.Proofs.YtdkpglmdncjnbaaGreatDoor
