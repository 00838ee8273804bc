import Derived.Test.YtdkpglmdncjnbaaGreatDoorZf31
import Derived.Sort.Grow
import Derived.Shelf.SlGeneric
import Derived.Shelf.SlSortCmp.WholeK
import Derived.Shelf.SlSortCmp.NoneTotal
import Derived.Laws.StructEq
namespace Go.Proofs.YtdkpglmdncjnbaaGreatDoor
open Go.RowKit Go.Maps Go.Sort
def orI (a b : Int) : Int := if a = 0 then b else a
theorem or_any {W : World} {g : Nat} {a b : Int} (h0 : W.cell? ⟨g, 0, none⟩ = some (.int .i64 a)) (h1 : W.cell? ⟨g, 1, none⟩ = some (.int .i64 b)) :
 Calls Tryz.prog 74 #[.slice (some ⟨g, 0, none⟩) 2 2] W fun e w' => e = .returned (.int .i64 (orI a b)) ∧ w' = W := by
 go_enter Tryz.func74, Tryz.ntmps74
 by_cases ha : a = 0
 ·subst ha
  by_cases hb : b = 0
  ·subst hb
   go_wp2
   refine wp_loop_rounds 3 ?_
   rw [rounds_succ]
   go_wp2
   rw [rounds_succ]
   go_wp2
   rw [rounds_succ]
   go_wp2
   go_ret
   exact ⟨rfl, rfl⟩
  ·have hb2 : (b != 0) = true := by simpa using hb
   go_wp2
   refine wp_loop_rounds 2 ?_
   rw [rounds_succ]
   go_wp2
   rw [rounds_succ]
   go_wp2
   go_ret
   exact ⟨by unfold orI; rw [if_pos rfl]; rfl, rfl⟩
 ·have ha2 : (a != 0) = true := by simpa using ha
  go_wp2
  refine wp_loop_rounds 1 ?_
  rw [rounds_succ]
  go_wp2
  go_ret
  exact ⟨by unfold orI; rw [if_neg ha]; rfl, rfl⟩
def cK (x y : Nm × Nm) : Int := orI (cs x.1 y.1) (cs x.2 y.2)
structure B2 (w wr : World) (x y : Nm × Nm) : Prop where
 b0 : wr.heap[w.heap.size]? = some (.cells #[.string x.1, .string x.2] 29 (0, 0))
 b1 : wr.heap[w.heap.size + 1]? = some (.cells #[.string y.1, .string y.2] 29 (0, 0))
theorem B2.cells {w wr : World} {x y : Nm × Nm} (h : B2 w wr x y) : wr.cell? ⟨w.heap.size, 0, none⟩ = some (.string x.1) ∧ wr.cell? ⟨w.heap.size, 1, none⟩ = some (.string x.2) ∧ wr.cell? ⟨w.heap.size + 1, 0, none⟩ = some (.string y.1) ∧ wr.cell? ⟨w.heap.size + 1, 1, none⟩ = some (.string y.2) :=
 ⟨(cell_blk h.b0 0).1, (cell_blk h.b0 1).1, (cell_blk h.b1 0).1, (cell_blk h.b1 1).1⟩
theorem b2_new (w : World) (x y : Nm × Nm) : B2 w ((w.alloc (.cells #[.string x.1, .string x.2] 29)).alloc (.cells #[.string y.1, .string y.2] 29)) x y := by
 have z1 : (w.alloc (.cells #[.string x.1, .string x.2] 29)).heap.size = w.heap.size + 1 := World.size_alloc _ _
 have b2 : RowKit.Below (w.alloc (.cells #[.string x.1, .string x.2] 29)).heap.size (w.alloc (.cells #[.string x.1, .string x.2] 29)) ((w.alloc (.cells #[.string x.1, .string x.2] 29)).alloc (.cells #[.string y.1, .string y.2] 29)) := (Below.refl _ _).alloc (Nat.le_refl _) _
 refine ⟨(b2.block _ (by omega)).trans (World.alloc_heap_new w _), ?_⟩
 have := World.alloc_heap_new (w.alloc (.cells #[.string x.1, .string x.2] 29)) (.cells #[.string y.1, .string y.2] 29)
 rw [z1] at this
 exact this
set_option maxRecDepth 100000 in
set_option maxHeartbeats 4000000 in
theorem compareKeys_any (x y : Nm × Nm) (w : World) :
 Calls Tryz.prog 49 #[.agg #[.string x.1, .string x.2], .agg #[.string y.1, .string y.2]] w fun e w' => e = .returned (.int .i64 (cK x y)) ∧ ∃ q os', w' = grow (w.drewN q) os' := by
 have HB := hide (b2_new w x y)
 obtain ⟨X, hX⟩ : ∃ X, X = (w.alloc (.cells #[.string x.1, .string x.2] 29)).alloc (.cells #[.string y.1, .string y.2] 29) := ⟨_, rfl⟩
 rw [← hX] at HB
 have HS := hide (show ∀ Z : World, RowKit.Below X.heap.size X Z → Z.cell? ⟨w.heap.size, 0, none⟩ = some (.string x.1) ∧ Z.cell? ⟨w.heap.size, 1, none⟩ = some (.string x.2) ∧ Z.cell? ⟨w.heap.size + 1, 0, none⟩ = some (.string y.1) ∧ Z.cell? ⟨w.heap.size + 1, 1, none⟩ = some (.string y.2) from fun Z hZ => B2.cells ⟨(hZ.block _ (blk_lt (unhide HB).b0)).trans (unhide HB).b0, (hZ.block _ (blk_lt (unhide HB).b1)).trans (unhide HB).b1⟩)
 have HC1 := hide (cmpStr_any x.1 y.1 X.drew)
 have HC2 := hide (cmpStr_any x.2 y.2 X.drew)
 have HO := hide (show Calls Tryz.prog 74 #[.slice (some ⟨X.drew.heap.size, 0, none⟩) 2 2] (X.drew.alloc (.cells #[.int .i64 (cs x.1 y.1), .int .i64 (cs x.2 y.2)] 3)) fun e w' => e = .returned (.int .i64 (cK x y)) ∧ w' = X.drew.alloc (.cells #[.int .i64 (cs x.1 y.1), .int .i64 (cs x.2 y.2)] 3) from by
  have h := World.alloc_heap_new X.drew (.cells #[.int .i64 (cs x.1 y.1), .int .i64 (cs x.2 y.2)] 3)
  exact or_any ((cell_blk h 0).1.trans rfl) ((cell_blk h 1).1.trans rfl))
 have HE := hide (show ∃ q os', X.drew.alloc (.cells #[.int .i64 (cs x.1 y.1), .int .i64 (cs x.2 y.2)] 3) = grow (w.drewN q) os' from by
  refine ⟨1, #[.cells #[.string x.1, .string x.2] 29, .cells #[.string y.1, .string y.2] 29, .cells #[.int .i64 (cs x.1 y.1), .int .i64 (cs x.2 y.2)] 3], ?_⟩
  rw [alloc_eq_grow, hX, alloc_eq_grow, alloc_eq_grow, grow_grow]
  show grow (grow (w.drewN 1) _) _ = _
  rw [grow_grow]
  rfl)
 clear HB
 go_enter Tryz.func49, Tryz.ntmps49
 go_upto_region 1 with fail
 rw [← hX]
 clear hX
 refine wp_region_held_drew (S := fun w' => w'.cell? ⟨w.heap.size, 0, none⟩ = some (.string x.1) ∧ w'.cell? ⟨w.heap.size, 1, none⟩ = some (.string x.2) ∧ w'.cell? ⟨w.heap.size + 1, 0, none⟩ = some (.string y.1) ∧ w'.cell? ⟨w.heap.size + 1, 1, none⟩ = some (.string y.2)) (by kernel_rfl) ?_ (fun hHeld => ?_)
 ·exact unhide HS _ (Below.refl _ _).drew
 refine tk2 0 (⟨some 5, .fieldAddr 29 (.tmp 2) 0, 0, "part.go:89", #[], none⟩) ?_
 refine tk2 1 (⟨some 6, .load 9 (.tmp 5), 9, "part.go:89", #[⟨0, .data⟩], none⟩) ?_
 refine tk2 2 (⟨some 7, .fieldAddr 29 (.tmp 3) 0, 0, "part.go:89", #[], none⟩) ?_
 refine tk2 3 (⟨some 8, .load 9 (.tmp 7), 9, "part.go:89", #[⟨2, .data⟩], none⟩) ?_
 refine tk2 5 (⟨some 10, .fieldAddr 29 (.tmp 2) 1, 0, "part.go:89", #[], none⟩) ?_
 refine tk2 6 (⟨some 11, .load 9 (.tmp 10), 9, "part.go:89", #[⟨5, .data⟩], none⟩) ?_
 refine tk2 7 (⟨some 12, .fieldAddr 29 (.tmp 3) 1, 0, "part.go:89", #[], none⟩) ?_
 refine tk2 8 (⟨some 13, .load 9 (.tmp 12), 9, "part.go:89", #[⟨7, .data⟩], none⟩) ?_
 refine wpAnyH_ready (rs := [4]) (by kernel_rfl) (by simp) ?_
 refine AllReadyH.cons (o := ⟨some 9, .call { callee := .value (.func 75), args := #[.tmp 6, .tmp 8], argTypes := #[9, 9] }, 3, "part.go:89", #[⟨1, .data⟩, ⟨3, .data⟩], none⟩) rfl (fun K hK => ?_) AllReadyH.nil
 go_simp
 refine (unhide HC1).mono ?_
 rintro e0 w0 ⟨rfl, rfl⟩
 go_wp2_with fail
 refine hK.out _ _ ?_ (fun hHeld => ?_)
 ·exact unhide HS _ (Below.refl _ _).drew
 clear hK K
 try simp only [Act.put, sqB, sq0, sq1]
 refine wpAnyH_ready (rs := [9]) (by kernel_rfl) (by simp) ?_
 refine AllReadyH.cons (o := ⟨some 14, .call { callee := .value (.func 75), args := #[.tmp 11, .tmp 13], argTypes := #[9, 9] }, 3, "part.go:89", #[⟨6, .data⟩, ⟨8, .data⟩, ⟨4, .chain⟩], none⟩) rfl (fun K hK => ?_) AllReadyH.nil
 go_simp
 refine (unhide HC2).mono ?_
 rintro e0 w0 ⟨rfl, rfl⟩
 go_wp2_with fail
 refine hK.out _ _ ?_ (fun hHeld => ?_)
 ·exact unhide HS _ (Below.refl _ _).drew
 clear hK K
 try simp only [Act.put, sqB, sq0, sq1]
 refine wpAnyH_ready (rs := [10]) (by kernel_rfl) (by simp) ?_
 refine AllReadyH.cons (o := ⟨some 15, .buildSlice 34 2 #[(0, .tmp 9), (1, .tmp 14)], 34, "part.go:89", #[⟨4, .data⟩, ⟨9, .data⟩], none⟩) rfl (fun K hK => ?_) AllReadyH.nil
 go_simp
 refine hK.out _ _ ?_ (fun hHeld => ?_)
 ·exact unhide HS _ (((Below.refl _ X).drew).alloc (Nat.le_refl _) _)
 clear hK K
 try simp only [Act.put, sqB, sq0, sq1]
 refine wpAnyH_ready (rs := [11]) (by kernel_rfl) (by simp) ?_
 refine AllReadyH.cons (o := ⟨some 16, .call { callee := .value (.func 74), args := #[.tmp 15], argTypes := #[34] }, 3, "part.go:89", #[⟨10, .data⟩, ⟨9, .chain⟩], none⟩) rfl (fun K hK => ?_) AllReadyH.nil
 go_simp
 refine (unhide HO).mono ?_
 rintro e0 w0 ⟨rfl, rfl⟩
 go_wp2_with fail
 refine hK.out _ _ ?_ (fun hHeld => ?_)
 ·exact unhide HS _ (((Below.refl _ X).drew).alloc (Nat.le_refl _) _)
 clear hK K
 try simp only [Act.put, sqB, sq0, sq1]
 refine tk2 12 (⟨some 4, .assign (.tmp 16), 3, "part.go:89", #[⟨11, .data⟩, ⟨11, .chain⟩, ⟨0, .phase⟩, ⟨1, .phase⟩, ⟨2, .phase⟩, ⟨3, .phase⟩, ⟨4, .phase⟩, ⟨5, .phase⟩, ⟨6, .phase⟩, ⟨7, .phase⟩, ⟨8, .phase⟩, ⟨9, .phase⟩, ⟨10, .phase⟩, ⟨11, .phase⟩], none⟩) ?_
 refine wpAnyH_done (by kernel_rfl) ?_ _
 go_wp2_with fail
 go_ret
 exact ⟨rfl, unhide HE⟩
end Go.Proofs.YtdkpglmdncjnbaaGreatDoor
namespace Go.Proofs
open Go.Shelf
def Tryz.laysSF_ren : Go.Shelf.Ren := ⟨fun | 6 => 48 | 15 => 73 | 14 => 72 | 28 => 96 | 29 => 97 | 20 => 88 | 21 => 89 | 22 => 90 | 23 => 91 | 24 => 92 | 25 => 93 | 26 => 94 | 27 => 95 | 46 => 115 | 47 => 116 | 48 => 117 | 49 => 118 | 50 => 119 | 57 => 131 | n => n, fun | 22 => 33 | 24 => 29 | 25 => 89 | 3 => 3 | 39 => 120 | 0 => 0 | 53 => 144 | 55 => 146 | 4 => 4 | 46 => 138 | 45 => 137 | 50 => 100 | 5 => 5 | 9 => 9 | 66 => 163 | 70 => 167 | 76 => 180 | 77 => 151 | n => n, fun | n => n⟩
theorem Tryz.laysSF : Go.Proofs.SlLaysF0.n6 Tryz.prog Tryz.laysSF_ren := {
 mixed := by kernel_rfl
 f6 := ⟨Tryz.f48.name, by decide, Tryz.func48.trans (congrArg some (by kernel_rfl))⟩
 f14 := ⟨Tryz.f72.name, by decide, Tryz.func72.trans (congrArg some (by kernel_rfl))⟩
 f15 := Tryz.func73.trans (congrArg some (by kernel_rfl))
 f20 := ⟨Tryz.f88.name, by decide, Tryz.func88.trans (congrArg some (by kernel_rfl))⟩
 f21 := ⟨Tryz.f89.name, by decide, Tryz.func89.trans (congrArg some (by kernel_rfl))⟩
 f22 := ⟨Tryz.f90.name, by decide, Tryz.func90.trans (congrArg some (by kernel_rfl))⟩
 f23 := ⟨Tryz.f91.name, by decide, Tryz.func91.trans (congrArg some (by kernel_rfl))⟩
 f24 := ⟨Tryz.f92.name, by decide, Tryz.func92.trans (congrArg some (by kernel_rfl))⟩
 f25 := ⟨Tryz.f93.name, by decide, Tryz.func93.trans (congrArg some (by kernel_rfl))⟩
 f26 := ⟨Tryz.f94.name, by decide, Tryz.func94.trans (congrArg some (by kernel_rfl))⟩
 f27 := ⟨Tryz.f95.name, by decide, Tryz.func95.trans (congrArg some (by kernel_rfl))⟩
 f28 := Tryz.func96.trans (congrArg some (by kernel_rfl))
 f29 := Tryz.func97.trans (congrArg some (by kernel_rfl))
 f46 := ⟨Tryz.f115.name, by decide, Tryz.func115.trans (congrArg some (by kernel_rfl))⟩
 f47 := Tryz.func116.trans (congrArg some (by kernel_rfl))
 f48 := Tryz.func117.trans (congrArg some (by kernel_rfl))
 f49 := ⟨Tryz.f118.name, by decide, Tryz.func118.trans (congrArg some (by kernel_rfl))⟩
 f50 := ⟨Tryz.f119.name, by decide, Tryz.func119.trans (congrArg some (by kernel_rfl))⟩
 f57 := ⟨Tryz.f131.name, by decide, Tryz.func131.trans (congrArg some (by kernel_rfl))⟩
 t0 := Tryz.underlying0
 a0 := Tryz.isAgg0
 z0 := Tryz.sizeOf0
 v0 := Tryz.zeroValue0
 t3 := Tryz.underlying3
 a3 := Tryz.isAgg3
 z3 := Tryz.sizeOf3
 v3 := Tryz.zeroValue3
 t4 := Tryz.underlying4
 a4 := Tryz.isAgg4
 z4 := Tryz.sizeOf4
 v4 := Tryz.zeroValue4
 t5 := Tryz.underlying5
 a5 := Tryz.isAgg5
 z5 := Tryz.sizeOf5
 v5 := Tryz.zeroValue5
 t9 := Tryz.underlying9
 a9 := Tryz.isAgg9
 z9 := Tryz.sizeOf9
 v9 := Tryz.zeroValue9
 t22 := Tryz.underlying33
 a22 := Tryz.isAgg33
 z22 := Tryz.sizeOf33
 v22 := Tryz.zeroValue33
 t25 := Tryz.underlying89
 a25 := Tryz.isAgg89
 z25 := Tryz.sizeOf89
 v25 := Tryz.zeroValue89
 t39 := Tryz.underlying120
 a39 := Tryz.isAgg120
 z39 := Tryz.sizeOf120
 v39 := Tryz.zeroValue120
 t45 := Tryz.underlying137
 a45 := Tryz.isAgg137
 z45 := Tryz.sizeOf137
 v45 := Tryz.zeroValue137
 t46 := Tryz.underlying138
 a46 := Tryz.isAgg138
 z46 := Tryz.sizeOf138
 v46 := Tryz.zeroValue138
 t50 := Tryz.underlying100
 a50 := Tryz.isAgg100
 z50 := Tryz.sizeOf100
 v50 := Tryz.zeroValue100
 t53 := Tryz.underlying144
 a53 := Tryz.isAgg144
 z53 := Tryz.sizeOf144
 v53 := Tryz.zeroValue144
 t55 := Tryz.underlying146
 a55 := Tryz.isAgg146
 z55 := Tryz.sizeOf146
 v55 := Tryz.zeroValue146
 t66 := Tryz.underlying163
 a66 := Tryz.isAgg163
 z66 := Tryz.sizeOf163
 v66 := Tryz.zeroValue163
 t70 := Tryz.underlying167
 a70 := Tryz.isAgg167
 z70 := Tryz.sizeOf167
 v70 := Tryz.zeroValue167
 t76 := Tryz.underlying180
 a76 := Tryz.isAgg180
 z76 := Tryz.sizeOf180
 v76 := Tryz.zeroValue180
 t77 := Tryz.underlying151
 a77 := Tryz.isAgg151
 z77 := Tryz.sizeOf151
 v77 := Tryz.zeroValue151 }
end Go.Proofs
namespace Go.Proofs.YtdkpglmdncjnbaaGreatDoor
section
open Go.RowKit Go.Maps Go.Sort Go.Shelf
theorem bl_eq {a b : Nm} : a.toList = b.toList ↔ a = b := by
 rw [← toList_eq]
 exact ⟨fun h => by rw [h]; exact beq_self_eq_true _, fun h => by simpa using h⟩
theorem cs_neg {a b : Nm} : cs a b < 0 ↔ a.toList < b.toList := by
 unfold cs
 rw [bytesLess_eq]
 by_cases h : a.toList < b.toList
 ·rw [if_pos (decide_eq_true h)]; exact ⟨fun _ => h, fun _ => by decide⟩
 ·rw [if_neg (by simpa using h)]
  split
  ·exact ⟨fun q => absurd q (by decide), fun q => absurd q h⟩
  ·exact ⟨fun q => absurd q (by decide), fun q => absurd q h⟩
theorem cs_zero {a b : Nm} : cs a b = 0 ↔ a.toList = b.toList := by
 unfold cs
 rw [bytesLess_eq]
 by_cases h : a.toList < b.toList
 ·rw [if_pos (decide_eq_true h)]
  exact ⟨fun q => absurd q (by decide), fun q => absurd h (by rw [q]; exact List.lt_irrefl _)⟩
 ·rw [if_neg (by simpa using h)]
  by_cases e : a.toList = b.toList
  ·rw [if_pos (by rw [e]; exact beq_self_eq_true _)]; exact ⟨fun _ => e, fun _ => rfl⟩
  ·rw [if_neg (by simpa using e)]; exact ⟨fun q => absurd q (by decide), fun q => absurd q e⟩
def lx (x y : Nm × Nm) : Prop := x.1.toList < y.1.toList ∨ (x.1.toList = y.1.toList ∧ x.2.toList < y.2.toList)
theorem ltK {x y : Nm × Nm} : ltOf cK x y = true ↔ lx x y := by
 unfold ltOf cK orI lx
 rw [decide_eq_true_eq]
 by_cases h : cs x.1 y.1 = 0
 ·rw [if_pos h, cs_neg]
  have e := cs_zero.1 h
  refine ⟨fun q => .inr ⟨e, q⟩, fun q => ?_⟩
  rcases q with q | q
  ·rw [e] at q; exact absurd q (List.lt_irrefl _)
  ·exact q.2
 ·rw [if_neg h, cs_neg]
  refine ⟨.inl, fun q => ?_⟩
  rcases q with q | q
  ·exact q
  ·exact absurd (cs_zero.2 q.1) h
theorem nlx {x y : Nm × Nm} : ¬ lx x y ↔ y.1.toList ≤ x.1.toList ∧ (x.1.toList = y.1.toList → y.2.toList ≤ x.2.toList) := by
 unfold lx
 constructor
 ·intro h
  exact ⟨List.not_lt.1 fun q => h (.inl q), fun e => List.not_lt.1 fun q => h (.inr ⟨e, q⟩)⟩
 ·rintro ⟨h1, h2⟩ (q | ⟨e, q⟩)
  ·exact List.not_lt.2 h1 q
  ·exact List.not_lt.2 (h2 e) q
theorem ltK_false {x y : Nm × Nm} : ltOf cK x y = false ↔ ¬ lx x y := by
 rw [← ltK]
 cases ltOf cK x y <;> simp
theorem swoK : SWO (ltOf cK) where
 irrefl x := ltK_false.2 (nlx.2 ⟨List.le_refl _, fun _ => List.le_refl _⟩)
 trans x y z h1 h2 := by
  rw [ltK] at *
  rcases h1 with h1 | ⟨e1, h1⟩
  ·rcases h2 with h2 | ⟨e2, h2⟩
   ·exact .inl (List.lt_trans h1 h2)
   ·exact .inl (by rw [← e2]; exact h1)
  ·rcases h2 with h2 | ⟨e2, h2⟩
   ·exact .inl (by rw [e1]; exact h2)
   ·exact .inr ⟨e1.trans e2, List.lt_trans h1 h2⟩
 ntrans x y z h1 h2 := by
  rw [ltK_false, nlx] at *
  refine ⟨List.le_trans h2.1 h1.1, fun e => ?_⟩
  have e1 : x.1.toList = y.1.toList := List.le_antisymm (by rw [e]; exact h2.1) h1.1
  exact List.le_trans (h2.2 (e1.symm.trans e)) (h1.2 e1)
def encK (x : Nm × Nm) : List Value := [.string x.1, .string x.2]
def kyC (L : List (Nm × Nm)) : List Value := (L.map encK).flatten
theorem kyC_at {x : Nm × Nm} : ∀ (L : List (Nm × Nm)) (i : Nat), L[i]? = some x → (kyC L)[i * 2]? = some (.string x.1) ∧ (kyC L)[i * 2 + 1]? = some (.string x.2)
 | [], i, h => by simp at h
 | y :: L, 0, h => by simp at h; subst h; exact ⟨rfl, rfl⟩
 | y :: L, i + 1, h => by
   have ih := kyC_at L i (by simpa using h)
   rw [show kyC (y :: L) = encK y ++ kyC L from rfl, show (i + 1) * 2 = (encK y).length + i * 2 from by show (i + 1) * 2 = 2 + i * 2; omega]
   rw [List.getElem?_append_right (by omega), Nat.add_assoc, List.getElem?_append_right (by omega), Nat.add_sub_cancel_left, Nat.add_sub_cancel_left]
   exact ih
theorem row_kyl {lo : Nat} {w : World} {u : Value} {L : List (Nm × Nm)} (h : w.ownsRow lo 29 2 u L.length (kyC L)) : Kyl w u L := by
 rcases h.2 with ⟨q1, q2⟩ | ⟨g, cap, cur, q1, q2, q3, _⟩
 ·have hl : L = [] := List.length_eq_zero_iff.1 q2
  subst hl
  exact ⟨none, 0, q1, fun i x hx => by simp at hx⟩
 ·refine ⟨some ⟨g, 0, none⟩, cap, q1, fun i x hx => ⟨g, 0, rfl, blk_lt q3, ?_⟩⟩
  have hc := h.cells (g := g) (by rw [q1]; rfl)
  obtain ⟨a, b⟩ := kyC_at L i hx
  have ha := hc _ _ a
  have hb := hc _ _ b
  rw [Addr.add_mid] at ha hb
  exact ⟨ha, hb⟩
theorem flat_kyC (L : List (Nm × Nm)) (j : Nat) (h : j < L.length * 2) : (kyC L)[j]? = some (flatK encK 2 L.toArray)[j]! := by
 rw [get_flatK encK 2 L.toArray j (by simpa using h)]
 have hj : j / 2 < L.length := by omega
 obtain ⟨a, b⟩ := kyC_at L (j / 2) (List.getElem?_eq_getElem hj)
 have e : L.toArray[j / 2]! = L[j / 2] := by rw [getElem!_pos _ _ (by simpa using hj)]; simp
 rw [e]
 rcases Nat.mod_two_eq_zero_or_one j with h0 | h1
 ·rw [h0, show (kyC L)[j]? = (kyC L)[j / 2 * 2]? from congrArg (fun t => (kyC L)[t]?) (by omega)]; exact a
 ·rw [h1, show (kyC L)[j]? = (kyC L)[j / 2 * 2 + 1]? from congrArg (fun t => (kyC L)[t]?) (by omega)]; exact b
end
section
open Go.RowKit Go.Maps
theorem drewN_two (w : World) (a b : Nat) : (w.drewN a).drewN b = w.drewN (a + b) := by
 unfold World.drewN
 simp [Nat.add_assoc]
theorem guardK : Tryz.prog.eqGuardType Tryz.prog.depth 29 = false := by kernel_rfl
theorem eqK (x1 x2 y1 y2 : Nm) (w : World) : (Op.equalIn 10000 29 (.agg #[.string x1, .string x2]) (.agg #[.string y1, .string y2])).run Tryz.prog w = .ok (decide (x1 = y1) && decide (x2 = y2)) w := by
 have u9 := Tryz.underlying9
 have a9 := Tryz.isAgg9
 have z9 := Tryz.sizeOf9
 have hS : Tryz.prog.underlying 29 = some (.struct (Tryz.prog.fieldsOf 29)) := by kernel_rfl
 have hp : Tryz.prog.stoodInHeld 29 = false := by kernel_rfl
 rw [show (10000 : Nat) = 9999 + 1 from rfl, run_equalIn_agg w 9999 29 _ _ hS hp]
 simp only [Program.fieldsOf, Tryz.underlying29]
 go_simp
 by_cases h1 : x1 = y1 <;> by_cases h2 : x2 = y2 <;> simp [h1, h2, bl_eq]
set_option maxRecDepth 100000 in
set_option maxHeartbeats 2000000 in
theorem compactK_any {w : World} {u : Value} {L : List (Nm × Nm)} (hL : L.length ≤ 1048576) (h : Kyl w u L) (hd : ∀ i (hi : i + 1 < L.length), L[i + 1] ≠ L[i]) :
 Calls Tryz.prog 50 #[u] w fun e w' => e = .returned u ∧ RowKit.Below w.heap.size w w' := by
 obtain ⟨a, c, rfl⟩ : ∃ a c, u = .slice a L.length c := let ⟨a, c, e, _⟩ := h; ⟨a, c, e⟩
 have HP := hide (show ∀ i (hi : i < L.length), ∃ b o, a = some ⟨b, o, none⟩ ∧ w.cell? ⟨b, o + i * 2, none⟩ = some (.string L[i].1) ∧ w.cell? ⟨b, o + i * 2 + 1, none⟩ = some (.string L[i].2) from fun i hi => by
  obtain ⟨a2, c2, e, h2⟩ := h
  injection e with e
  obtain ⟨b, o, q1, _, q3, q4⟩ := h2 i L[i] (List.getElem?_eq_getElem hi)
  exact ⟨b, o, e.trans q1, q3, q4⟩)
 have HD := hide hd
 obtain ⟨N, hN⟩ : ∃ N, N = L.length := ⟨_, rfl⟩
 have HN := hide hN
 rw [← hN] at hL ⊢
 clear h hd hN
 go_enter Tryz.func50, Tryz.ntmps50
 by_cases h2 : N < 2
 ·have h2i : (N : Int) < 2 := by omega
  go_wp2_with fail
  go_ret
  exact ⟨rfl, Below.refl _ _⟩
 ·have h2i : ¬ (N : Int) < 2 := by omega
  go_wp2_with fail
  go_loopg [3] N (fun gq iv wr => ∃ i n : Nat, iv = .int .i64 i ∧ 1 ≤ i ∧ i ≤ N ∧ N - i ≤ gq ∧ wr = w.drewN n)
  case atStart => exact ⟨1, 0, by go_num, by omega, by omega, by omega, rfl⟩
  case round =>
   obtain ⟨i, n, rfl, hi1, hi, hg, rfl⟩ := hrel
   by_cases hlt : i < N
   ·have hin : (i : Int) < (N : Int) := by omega
    have hil : i < L.length := by have := unhide HN; omega
    obtain ⟨k, hk⟩ : ∃ k, i = k + 1 := ⟨i - 1, by omega⟩
    have hkl : k < L.length := by omega
    obtain ⟨b, o, rfl, c0, c1⟩ := unhide HP i hil
    obtain ⟨b2, o2, e2, d0, d1⟩ := unhide HP k hkl
    cases e2
    have hne : L[i] ≠ L[k] := by subst hk; exact unhide HD k hil
    have hki : (k : Int) < (N : Int) := by omega
    have e1 : ((i : Int) - 1) = (k : Int) := by omega
    have hwk : IntKind.i64.wrap (k : Int) = (k : Int) := by rw [IntKind.wrap_i64]; omega
    generalize L[i] = x at *
    generalize L[k] = y at *
    obtain ⟨x1, x2⟩ := x
    obtain ⟨y1, y2⟩ := y
    simp only at c0 c1 d0 d1
    have heq : ∀ W, (Op.equalIn 10000 29 (.agg #[.string x1, .string x2]) (.agg #[.string y1, .string y2])).run Tryz.prog W = .ok false W := fun W => by
     rw [eqK]
     have : (decide (x1 = y1) && decide (x2 = y2)) = false := by
      by_cases h1 : x1 = y1
      ·by_cases h3 : x2 = y2
       ·exact absurd (by rw [h1, h3]) hne
       ·rw [decide_eq_false h3, Bool.and_false]
      ·rw [decide_eq_false h1, Bool.false_and]
     rw [this]
    have hgd := guardK
    clear hk hne
    go_wp2_with fail
    go_quiet (fail)
    clear heq hgd
    go_wp2_with fail
    go_roundg (N - (i + 1))
    case measure => omega
    case rel => exact ⟨i + 1, _, by go_num, by omega, by omega, by omega, by first | rfl | exact drewN_two w _ _⟩
   ·obtain rfl : i = N := by omega
    go_wp2_with fail
    go_ret
    exact ⟨rfl, bl_drewN _ _⟩
end
section
open Go.RowKit Go.Maps
set_option maxHeartbeats 2000000 in
theorem rKeyOf_any (cs : List Value) (n v : ByteArray) (w : World) (h0 : cs[0]? = some (.string n)) (h1 : cs[1]? = some (.string v)) :
 Calls Tryz.prog 52 #[.agg cs.toArray] w fun e w' => e = .returned (.agg #[.string n, .string v]) ∧ Below w.heap.size w w' := by
 obtain ⟨W, hW, hc, hq, hB⟩ := one_new w cs 46
 have a0 := hc 0 _ h0
 have a1 := hc 1 _ h1
 have HB := hide hB
 clear hc hB h0 h1
 go_enter Tryz.func52, Tryz.ntmps52
 go_wp2_with fail
 have hb2 := (unhide HB).alloc (unhide HB).size (.cells #[.string n, .string v] 29)
 exact bodyPost_ret (v := .agg #[.string n, .string v]) (by simp [results, Tryz.results52, go_sem]) rfl ⟨rfl, hb2⟩
theorem eqlK (x1 x2 y1 y2 : Nm) (w : World) : (binOp .eql 29 (.agg #[.string x1, .string x2]) (.agg #[.string y1, .string y2])).run Tryz.prog w = .ok (.bool (decide (x1 = y1) && decide (x2 = y2))) w := by
 go_simp
 by_cases h1 : x1 = y1 <;> by_cases h2 : x2 = y2 <;> simp [h1, h2, bl_eq]
theorem neqK (x1 x2 y1 y2 : Nm) (w : World) : (binOp .neq 29 (.agg #[.string x1, .string x2]) (.agg #[.string y1, .string y2])).run Tryz.prog w = .ok (.bool (!(decide (x1 = y1) && decide (x2 = y2)))) w := by
 go_simp
 by_cases h1 : x1 = y1 <;> by_cases h2 : x2 = y2 <;> simp [h1, h2, bl_eq]
theorem Kyl.at {w : World} {a : Option Addr} {n c : Nat} {ks : List (Nm × Nm)} (h : Kyl w (.slice a n c) ks) {i : Nat} {x : Nm × Nm} (hx : ks[i]? = some x) : ∃ b o, a = some ⟨b, o, none⟩ ∧ b < w.heap.size ∧ w.cell? ⟨b, o + i * 2, none⟩ = some (.string x.1) ∧ w.cell? ⟨b, o + i * 2 + 1, none⟩ = some (.string x.2) := by
 obtain ⟨a', c', e, h2⟩ := h
 injection e with e1 _ _
 subst e1
 exact h2 i x hx
set_option maxRecDepth 100000 in
set_option maxHeartbeats 4000000 in
theorem rHas_any {w : World} {u : Value} {ks : List (Nm × Nm)} (n v : Nm) (hl : ks.length ≤ 1048576) (h : Kyl w u ks) :
 Calls Tryz.prog 51 #[u, .agg #[.string n, .string v]] w fun e w' => e = .returned (.bool (mK ks n v)) ∧ RowKit.Below w.heap.size w w' := by
 obtain ⟨a, c, rfl⟩ : ∃ a c, u = .slice a ks.length c := let ⟨a, c, e, _⟩ := h; ⟨a, c, e⟩
 have H := hide h
 obtain ⟨N, hN⟩ : ∃ N, N = ks.length := ⟨_, rfl⟩
 have HN := hide hN
 rw [← hN] at hl H ⊢
 clear h hN
 have HA := hide ((Below.refl w.heap.size w).alloc (Nat.le_refl _) (.cells #[.string n, .string v] 29))
 obtain ⟨W1, hW1⟩ : ∃ W, W = w.alloc (.cells #[.string n, .string v] 29) := ⟨_, rfl⟩
 have HZ := hide (show W1.cell? ⟨w.heap.size, 0, none⟩ = some (.string n) ∧ W1.cell? ⟨w.heap.size, 1, none⟩ = some (.string v) ∧ w.heap.size < W1.heap.size from by
  rw [hW1]
  exact ⟨by rw [World.cell?_alloc_at _ _ _ _ rfl]; rfl, by rw [World.cell?_alloc_at _ _ _ _ rfl]; rfl, by simp⟩)
 rw [← hW1] at HA
 go_enter Tryz.func51, Tryz.ntmps51
 go_wp2_with fail
 rw [← hW1]
 clear hW1
 go_loopg [5] N (fun gq iv wr => ∃ i : Nat, iv = .int .i64 i ∧ i ≤ N ∧ N - i ≤ gq ∧ Hid (RowKit.Below W1.heap.size W1 wr) ∧ Hid ((n, v) ∉ ks.take i))
 case atStart => exact ⟨0, by go_num, by omega, by omega, hide (Below.refl _ _), hide (by simp)⟩
 case round =>
  obtain ⟨i, rfl, hi, hg, HB, HX⟩ := hrel
  by_cases hlt : i < N
  ·have hin : (i : Int) < (N : Int) := by omega
   have hik : i < ks.length := by have := unhide HN; omega
   obtain ⟨b, o, rfl, hb, p0, p1⟩ := ((unhide H).later (bl_t (unhide HA) (unhide HB))).at (List.getElem?_eq_getElem hik)
   have z0 := ((unhide HB).cell (p := ⟨w.heap.size, 0, none⟩) (unhide HZ).2.2).trans (unhide HZ).1
   have z1 := ((unhide HB).cell (p := ⟨w.heap.size, 1, none⟩) (unhide HZ).2.2).trans (unhide HZ).2.1
   have HM := hide (List.getElem_mem hik)
   have HT := hide (List.take_succ_eq_append_getElem hik)
   generalize ks[i] = x at *
   obtain ⟨x1, x2⟩ := x
   simp only at p0 p1
   have ce := eqlK x1 x2 n v
   have HBd := hide (fun k => bl_t (unhide HB) (bl_drewN wr k))
   by_cases hx : x1 = n ∧ x2 = v
   ·obtain ⟨rfl, rfl⟩ := hx
    have HF : Hid (mK ks x1 x2 = true) := hide (mK_iff.2 (unhide HM))
    rw [show (decide (x1 = x1) && decide (x2 = x2)) = true by simp] at ce
    clear HM HT HX
    go_wp2_with fail
    go_quiet (fail)
    go_wp2
    go_ret
    rw [unhide HF]
    exact ⟨rfl, bl_t (unhide HA) (unhide HBd _)⟩
   ·have hf : (decide (x1 = n) && decide (x2 = v)) = false := by
     rw [Bool.and_eq_false_iff, decide_eq_false_iff_not, decide_eq_false_iff_not]
     by_cases q : x1 = n
     ·exact .inr fun r => hx ⟨q, r⟩
     ·exact .inl q
    rw [hf] at ce
    have HX' : Hid ((n, v) ∉ ks.take (i + 1)) := hide (by
     rw [unhide HT, List.mem_append, List.mem_singleton]
     rintro (q | q)
     ·exact unhide HX q
     ·injection q with q1 q2
      exact hx ⟨q1.symm, q2.symm⟩)
    clear HM HT HX hx hf
    go_wp2_with fail
    go_quiet (fail)
    go_wp2
    go_roundg (N - (i + 1))
    case measure => omega
    case rel => exact ⟨i + 1, by go_num, by omega, by omega, hide (unhide HBd _), HX'⟩
  ·have HF : Hid (mK ks n v = false) := hide (by
    have hn := unhide HX
    rw [List.take_of_length_le (by have := unhide HN; omega)] at hn
    exact Bool.eq_false_iff.2 fun q => hn (mK_iff.1 q))
   clear HX
   go_wp2_with fail
   go_ret
   rw [unhide HF]
   exact ⟨rfl, bl_t (unhide HA) (unhide HB)⟩
end
end Go.Proofs.YtdkpglmdncjnbaaGreatDoor
