import Derived.Test.YtdkpglmdncjnbaaGreatDoorZf02
import Derived.Deep.QuietTactic
import Derived.BigQuiet
import Derived.Deep.RegionWith
namespace Go.Proofs.YtdkpglmdncjnbaaGreatDoor
section
open Go.RowKit Go.Shelf
attribute [local go_sem] Oper.semAt_some
attribute [local simp] wide_fn
attribute [local go_sem] wide_fn
theorem cell_of_box_l {W : World} {B : Nat} {v : Value} {t : TypeId} (h : W.heap[B]? = some (.cells #[v] t (0, 0))) : W.cell? ⟨B, 0, none⟩ = some v ∧ W.frozen? ⟨B, 0, none⟩ = false := by
 constructor <;> simp [World.cell?, World.frozen?, h]
theorem cell_new_l (W : World) (v : Value) (t : TypeId) : (W.alloc (.cells #[v] t)).cell? ⟨W.heap.size, 0, none⟩ = some v ∧ (W.alloc (.cells #[v] t)).frozen? ⟨W.heap.size, 0, none⟩ = false := by
 exact cell_of_box_l (World.alloc_heap_new W _)
theorem cell_alloc_l {W : World} {a : Addr} {v : Value} (o : Obj) (h : W.cell? a = some v) : (W.alloc o).cell? a = some v := cell_kept h (World.grownBy_alloc W o none) (fun r e => by cases e)
theorem frozen_alloc_l {W : World} {a : Addr} {v : Value} (o : Obj) (h : W.cell? a = some v) (hf : W.frozen? a = false) : (W.alloc o).frozen? a = false := (frozen_kept h (World.grownBy_alloc W o none) (fun r e => by cases e)).trans hf
theorem Kc_t {Ba Bb : Nat} {A B C : World} (h : Kc Ba Bb A B) (k : Kc Ba Bb B C) : Kc Ba Bb A C := ⟨k.1.trans h.1, k.2.trans h.2⟩
theorem Kc_b {Ba Bb : Nat} {w : World} (ha : Ba < w.heap.size) (hb : Bb < w.heap.size) (W : World) (l : Nat) (o o' : Obj) (hl : w.heap.size ≤ l) (_h : W.heap[l]? = some o) (_h2 : o.isCells = false) (_h3 : o.isWalk = false) : Kc Ba Bb W (W.putObj l o') := by
 refine ⟨?_, ?_⟩
 ·show (W.heap.setIfInBounds l o')[Ba]? = _
  rw [Array.getElem?_setIfInBounds_ne (by omega)]
 ·show (W.heap.setIfInBounds l o')[Bb]? = _
  rw [Array.getElem?_setIfInBounds_ne (by omega)]
theorem Kc_set {Ba Bb : Nat} (W : World) (b : Nat) (v : Value) (ha : Ba ≠ b) (hb : Bb ≠ b) : Kc Ba Bb W (W.setCell ⟨b, 0, none⟩ v) :=
 ⟨Below.heap_setCell W ⟨b, 0, none⟩ v Ba ha, Below.heap_setCell W ⟨b, 0, none⟩ v Bb hb⟩
theorem clStep_zero (s : Int × Bool) (x : Run2) (h : s.1 = 0) (hc : cr s.2 x = 0) : (clStep s x).1 = 0 ∧ (clStep s x).2 = !s.2 := by
 unfold clStep; rw [if_pos h]; exact ⟨hc, rfl⟩
theorem clStep_hit (s : Int × Bool) (x : Run2) (h : s.1 = 0) : (clStep s x).1 = cr s.2 x := by
 unfold clStep; rw [if_pos h]
set_option maxRecDepth 100000 in
set_option maxHeartbeats 2000000 in
theorem orderParts_in (a b : ByteArray) (ha : a.size ≤ maxLen) (hb : b.size ≤ maxLen) (n : Nat) (hn : 3 ≤ n) (w : World) :
 CallsIn Fence.wide n Tryz.prog 140 #[.string a, .string b] w fun e W' => e = .returned (.int .i64 (ordPart a b)) ∧ Below w.heap.size w W' := by
 have h1 : 1 ≤ n := by omega
 refine callsIn_of_wp_marks Tryz.func140 rfl trivial ?_ rfl
 simp only [Tryz.ntmps140, List.size_toArray, List.length_cons, List.length_nil, Nat.reduceAdd, Nat.reduceSub, Array.replicate_succ, Array.replicate_zero, List.push_toArray, List.append_toArray, List.nil_append, List.cons_append]
 gi_wp2_with (gi_at_call 157; refine (runs_in _ _ (n - 1) _).mono ?_; rintro e w' ⟨rfl, rfl⟩)
 have c0 := cell_new_l w (.int .i64 0) 3
 have c1 := cell_new_l (w.alloc (.cells #[.int .i64 0] 3)) (.bool false) 4
 have c2 := cell_new_l ((w.alloc (.cells #[.int .i64 0] 3)).alloc (.cells #[.bool false] 4)) (.string a) 9
 have c3 := cell_new_l (((w.alloc (.cells #[.int .i64 0] 3)).alloc (.cells #[.bool false] 4)).alloc (.cells #[.string a] 9)) (.string b) 9
 simp only [World.size_alloc] at c1 c2 c3
 have hB0 : Below w.heap.size w ((((w.alloc (.cells #[.int .i64 0] 3)).alloc (.cells #[.bool false] 4)).alloc (.cells #[.string a] 9)).alloc (.cells #[.string b] 9)) := ((((Below.refl _ w).alloc (Nat.le_refl _) _).alloc (by simp) _).alloc (by simp; omega) _).alloc (by simp; omega) _
 refine wpIn_rangeFunc_ownF rfl h1 (gf := 167) (lb := #[.pointer (some ⟨w.heap.size + 1 + 1, 0, none⟩), .pointer (some ⟨w.heap.size + 1 + 1 + 1, 0, none⟩)]) rfl trivial (enters_of Tryz.func167 (by kernel_rfl) rfl)
  (runs_stops a b ha hb (n - 1) (by omega) (w.heap.size + 1 + 1) (w.heap.size + 1 + 1 + 1) _ (by simp) (by simp) (cell_alloc_l _ c2.1) c3.1) Kc_t (Kc_b (by simp) (by simp)) (Below.refl _ _) (fun _ => rfl)
  (fun pre W => ((cl pre).1 = 0 ∧ W.cell? ⟨w.heap.size, 0, none⟩ = some (.int .i64 0) ∧ W.frozen? ⟨w.heap.size, 0, none⟩ = false ∧ W.cell? ⟨w.heap.size + 1, 0, none⟩ = some (.bool (cl pre).2) ∧ W.frozen? ⟨w.heap.size + 1, 0, none⟩ = false) ∧ Below w.heap.size w W)
  (fun c pre W => (c = .ret ∧ (cl pre).1 ≠ 0 ∧ W.cell? ⟨w.heap.size, 0, none⟩ = some (.int .i64 (cl pre).1)) ∧ Below w.heap.size w W)
  (OwnFrom.and (Own.from (fun s A B row hs hg hr => ⟨hs.1, cell_kept hs.2.1 hg hr, (frozen_kept hs.2.1 hg hr).trans hs.2.2.1, cell_kept hs.2.2.2.1 hg hr, (frozen_kept hs.2.2.2.1 hg hr).trans hs.2.2.2.2⟩) _) (ownFrom_below (Nat.le_refl _) (by simp; omega)))
  (fun c => OwnFrom.and (Own.from (fun s A B row hs hg hr => ⟨hs.1, hs.2.1, cell_kept hs.2.2 hg hr⟩) _) (ownFrom_below (Nat.le_refl _) (by simp; omega)))
  ⟨⟨rfl, cell_alloc_l _ (cell_alloc_l _ (cell_alloc_l _ c0.1)), frozen_alloc_l _ (cell_alloc_l _ (cell_alloc_l _ c0.1)) (frozen_alloc_l _ (cell_alloc_l _ c0.1) (frozen_alloc_l _ c0.1 c0.2)), cell_alloc_l _ (cell_alloc_l _ c1.1), frozen_alloc_l _ (cell_alloc_l _ c1.1) (frozen_alloc_l _ c1.1 c1.2)⟩, hB0⟩
  (fun x => { tmps := #[.string a, .string b, undef, undef, .pointer (some ⟨w.heap.size, 0, none⟩), .pointer (some ⟨w.heap.size + 1, 0, none⟩), .string x.1.1, .string x.1.2, undef, undef, .string a, .string b,
   .func (.func 167) #[] #[.pointer (some ⟨w.heap.size + 1 + 1, 0, none⟩), .pointer (some ⟨w.heap.size + 1 + 1 + 1, 0, none⟩)], .string x.1.1, .string x.1.2, undef, undef, undef, undef, undef, undef, undef, undef, undef, undef], defers := [] }) ?assign ?body ?done ?stop
 case assign =>
  intro l x W K hK
  gi_wp2
  exact hK
 case body =>
  rintro l pre x W ⟨⟨hz, hr0, hf0, hd0, hf1⟩, hB⟩ _
  have hzz := hide (clStep_hit (cl pre) x hz)
  have hzs := hide (clStep_zero (cl pre) x hz)
  have hsn := hide (cl_snoc pre x)
  have cW := hide (fun w => orderWords_any x.1.1 x.1.2 x.2.1 x.2.2 w)
  have cN := hide (fun w => orderNumbers_any x.1.1 x.1.2 x.2.1 x.2.2 w)
  clear hz
  cases hdg : (cl pre).2
  ·rw [hdg] at hd0
   have hdH := hide hdg
   clear hdg
   by_cases hc : ordWord x.1.1 x.1.2 = 0
   ·have h2 : (ordWord x.1.1 x.1.2 != 0) = false := by simp [hc]
    have HC := hide hc
    clear hc
    gi_wp2_with (refine ⟨fun _ => (by omega), ?_⟩; gi_at_call 158; refine (CallsIn.inRound l (callsIn_wide.2 (unhide cW _))).mono ?_; rintro e w' ⟨rfl, rfl⟩)
    have hq := unhide hzs (by rw [unhide hdH]; exact unhide HC)
    exact ⟨KeepsOthers.setCell _ _ _, Kc_set _ _ _ (by omega) (by omega), ⟨by rw [unhide hsn]; exact hq.1, (World.cell?_setCell_other _ _ _ _ (by simp)).trans hr0, by rw [World.frozen?_setCell]; exact hf0, by rw [unhide hsn, hq.2, unhide hdH]; exact World.cell?_setCell_same' _ _ _ (by rw [hd0]; rfl), by rw [World.frozen?_setCell]; exact hf1⟩, hB.setCell (p := ⟨w.heap.size + 1, 0, none⟩) (by simp) _⟩
   ·have h2 : (ordWord x.1.1 x.1.2 != 0) = true := by simpa using hc
    have HC := hide hc
    clear hc
    gi_wp2_with (refine ⟨fun _ => (by omega), ?_⟩; gi_at_call 158; refine (CallsIn.inRound l (callsIn_wide.2 (unhide cW _))).mono ?_; rintro e w' ⟨rfl, rfl⟩)
    have hq : (cl (pre ++ [x])).1 = ordWord x.1.1 x.1.2 := by rw [unhide hsn, unhide hzz, unhide hdH]; rfl
    exact ⟨KeepsOthers.setCell _ _ _, ⟨rfl, by rw [hq]; exact unhide HC, by rw [hq]; exact World.cell?_setCell_same' _ _ _ (by rw [hr0]; rfl)⟩, hB.setCell (p := ⟨w.heap.size, 0, none⟩) (Nat.le_refl _) _⟩
  ·rw [hdg] at hd0
   have hdH := hide hdg
   clear hdg
   by_cases hc : ordNum x.1.1 x.1.2 = 0
   ·have h2 : (ordNum x.1.1 x.1.2 != 0) = false := by simp [hc]
    have HC := hide hc
    clear hc
    gi_wp2_with (refine ⟨fun _ => (by omega), ?_⟩; gi_at_call 138; refine (CallsIn.inRound l (callsIn_wide.2 (unhide cN _))).mono ?_; rintro e w' ⟨rfl, rfl⟩)
    have hq := unhide hzs (by rw [unhide hdH]; exact unhide HC)
    exact ⟨KeepsOthers.setCell _ _ _, Kc_set _ _ _ (by omega) (by omega), ⟨by rw [unhide hsn]; exact hq.1, (World.cell?_setCell_other _ _ _ _ (by simp)).trans hr0, by rw [World.frozen?_setCell]; exact hf0, by rw [unhide hsn, hq.2, unhide hdH]; exact World.cell?_setCell_same' _ _ _ (by rw [hd0]; rfl), by rw [World.frozen?_setCell]; exact hf1⟩, hB.setCell (p := ⟨w.heap.size + 1, 0, none⟩) (by simp) _⟩
   ·have h2 : (ordNum x.1.1 x.1.2 != 0) = true := by simpa using hc
    have HC := hide hc
    clear hc
    gi_wp2_with (refine ⟨fun _ => (by omega), ?_⟩; gi_at_call 138; refine (CallsIn.inRound l (callsIn_wide.2 (unhide cN _))).mono ?_; rintro e w' ⟨rfl, rfl⟩)
    have hq : (cl (pre ++ [x])).1 = ordNum x.1.1 x.1.2 := by rw [unhide hsn, unhide hzz, unhide hdH]; rfl
    exact ⟨KeepsOthers.setCell _ _ _, ⟨rfl, by rw [hq]; exact unhide HC, by rw [hq]; exact World.cell?_setCell_same' _ _ _ (by rw [hr0]; rfl)⟩, hB.setCell (p := ⟨w.heap.size, 0, none⟩) (Nat.le_refl _) _⟩
 case done =>
  rintro D ys W hD ⟨N, rfl, hNa, hNb⟩ ⟨⟨hz, hr0, hf0, _, _⟩, hB⟩ hK
  have hfin := hide (ordPart_done a b N hNa hNb (by rw [cl_upto] at hz; exact hz))
  clear hz hNa hNb
  gi_wp2
  have hK' := (KeepsOthers.setCell W ⟨w.heap.size, 0, none⟩ (.int .i64 0)).same D _ hK rfl
  refine ⟨by simp, .inl ⟨_, _, rfl, run_takeDeferred hK', ?_⟩⟩
  have hc5 := cell_kept (World.cell?_setCell_same' W ⟨w.heap.size, 0, none⟩ (.int .i64 0) (by rw [hr0]; rfl)) (grownBy_putObj' _ D (.deferred none)) (fun r e => by cases e; exact ⟨_, hK', rfl⟩)
  refine ⟨.int .i64 0, ?_, by rw [unhide hfin], (hB.setCell (p := ⟨w.heap.size, 0, none⟩) (Nat.le_refl _) _).trans (belowK_b (w := w) (Nat.le_refl _) _ D _ _ (by simp at hD; omega) hK' rfl rfl)⟩
  simp [results, Tryz.f140, go_sem, hc5]
 case stop =>
  rintro D c pre W hD ⟨N, rfl⟩ ⟨⟨rfl, hne, hr0⟩, hB⟩ hK
  rw [cl_upto] at hne hr0
  have hfin := hide (ordPart_stop a b N hne)
  gi_wp2
  refine ⟨by simp, .inl ⟨_, _, rfl, run_takeDeferred hK, ?_⟩⟩
  have hc5 := cell_kept hr0 (grownBy_putObj' _ D (.deferred none)) (fun r e => by cases e; exact ⟨_, hK, rfl⟩)
  refine ⟨.int .i64 (sq (cp a b) N), ?_, by rw [unhide hfin], hB.trans (belowK_b (w := w) (Nat.le_refl _) W D _ _ (by simp at hD; omega) hK rfl rfl)⟩
  simp [results, Tryz.f140, go_sem, hc5]
theorem orderParts_any (a b : ByteArray) (ha : a.size ≤ maxLen) (hb : b.size ≤ maxLen) (w : World) :
 Calls Tryz.prog 140 #[.string a, .string b] w fun e W' => e = .returned (.int .i64 (ordPart a b)) ∧ Below w.heap.size w W' :=
 (callsIn_wide (n := 3)).1 (orderParts_in a b ha hb 3 (Nat.le_refl _) w)
end
section
open Go.RowKit
theorem ret_i64 {a b : Int} (h : a = b) : Ending.returned (.int .i64 a) = .returned (.int .i64 b) := by rw [h]
set_option maxHeartbeats 1000000 in
theorem checkParts_any (e u r : ByteArray) (c d : Bool) (w : World) (he : e.size ≤ maxLen) (hu : u.size ≤ maxLen) (hr : r.size ≤ maxLen) :
 Calls Tryz.prog 137 #[.agg #[.string e, .string u, .string r, .bool c, .bool d]] w fun x w' => x = .returned (.int .i64 (chk e u r c d)) ∧ Below w.heap.size w w' := by
 have hsz : u.toList.isEmpty = false → 0 < u.size := by
  intro h
  have : u.toList ≠ [] := by intro h'; simp [h'] at h
  rw [Lib.toList_data] at this
  have := List.length_pos_iff.2 this
  simpa using this
 cases h1 : u.toList.isEmpty
 ·have h0 := hsz h1
  have hb0 := b0_eq u h0
  clear hsz
  cases hd : isDig (b0 u)
  all_goals
   have HD := hide hd
   rw [hb0] at hd
   clear hb0
  all_goals cases h2 : e.toList.isEmpty <;> cases h3 : allB (kind 152) e <;> cases c <;> cases d
  all_goals
   go_enter Tryz.func137, Tryz.ntmps137
   go_wp2_with (first | (go_at_call 152; refine (isDigit_any _ _).mono ?_; rintro e w' ⟨rfl, rfl⟩) | (go_at_call 151; refine (consists_any _ _ (by decide) _ (by assumption)).mono ?_; rintro e w' ⟨rfl, rfl⟩))
  all_goals go_ret
  all_goals exact ⟨ret_i64 (by simp [chk, unhide HD, *]), (Below.refl _ _).alloc (Nat.le_refl _) _⟩
 ·go_enter Tryz.func137, Tryz.ntmps137
  go_wp2
  go_ret
  exact ⟨ret_i64 (by simp [chk, h1]), (Below.refl _ _).alloc (Nat.le_refl _) _⟩
end
section
open Go.RowKit
set_option maxHeartbeats 1000000 in
set_option maxRecDepth 100000 in
theorem slIndexByte_any (s : ByteArray) (c : Int) (w : World) :
 Calls Tryz.prog 160 #[.string s, .int .u8 c] w fun e w' => e = .returned (.int .i64 (Lib.indexByte s.data.toList c.toNat.toUInt8)) ∧ w' = w := by
 go_enter Tryz.func160, Tryz.ntmps160
 go_wp2
 rw [run_callFunc_extern Tryz.func170 (by kernel_rfl) (by kernel_rfl) (by kernel_rfl) (e := Extern.BytealgIndexByte.indexByte) (by kernel_rfl), Lib.run_indexByteString]
 simp only [Result.andThen]
 rw [Oper.upon_value]
 go_wp2
 go_ret
 exact ⟨rfl, rfl⟩
theorem indexByte_any (s : ByteArray) (c : Int) (w : World) :
 Calls Tryz.prog 149 #[.string s, .int .u8 c] w fun e w' => e = .returned (.int .i64 (Lib.indexByte s.data.toList c.toNat.toUInt8)) ∧ w' = w := by
 go_enter Tryz.func149, Tryz.ntmps149
 go_wp2_with (go_at_call 160; refine (slIndexByte_any _ _ _).mono ?_; rintro e w' ⟨rfl, rfl⟩)
 go_ret
 exact ⟨rfl, rfl⟩
theorem byteBang (s : ByteArray) (j : Nat) (hj : j < s.size) : s.data[j]! = s[j] := by
 rw [getElem!_pos s.data j (by simpa using hj)]; rfl
set_option maxHeartbeats 1000000 in
theorem baLastIndexByte_any (s : ByteArray) (c : Int) (hs : s.size < 4611686018427387904) (w : World) :
 Calls Tryz.prog 161 #[.string s, .int .u8 c] w fun e w' => e = .returned (.int .i64 (Lib.lastIndexByte s c)) ∧ w' = w := by
 go_enter Tryz.func161, Tryz.ntmps161
 go_wp2
 go_loop [5] (fun vi => ∃ k : Nat, k ≤ s.size ∧ vi = .int .i64 ((k : Int) - 1) ∧ Hid (Lib.lastIndexByte s c = Lib.lastIdx s c k)) (fun vi => ((RowKit.intOf vi) + 1).toNat)
 case atStart => exact ⟨s.size, Nat.le_refl _, by first | rfl | go_num | (congr 1; omega), rfl⟩
 case round =>
  obtain ⟨k, hk, rfl, hh⟩ := hrel
  go_wp2
  ·have hc : (((s[k - 1]).toNat : Int) == c) = true := by assumption
   have k1 : 1 ≤ k := by omega
   have e1 : Lib.lastIdx s c k = ((k - 1 : Nat) : Int) := by
    have := Lib.lastIdx_hit s c (k - 1) (by rw [byteBang s (k - 1) (by omega)]; simpa using hc)
    rwa [show k - 1 + 1 = k by omega] at this
   have e2 : ((k - 1 : Nat) : Int) = (k : Int) - 1 := by omega
   go_ret
   rw [hh.out, e1, e2]
   exact ⟨rfl, rfl⟩
  ·have hc : (((s[k - 1]).toNat : Int) == c) = false := by assumption
   have k1 : 1 ≤ k := by omega
   have e1 : Lib.lastIdx s c k = Lib.lastIdx s c (k - 1) := by
    have := Lib.lastIdx_miss s c (k - 1) (by rw [byteBang s (k - 1) (by omega)]; simpa using hc)
    rwa [show k - 1 + 1 = k by omega] at this
   refine ⟨⟨k - 1, by omega, by congr 1; omega, hh.out.trans e1⟩, ?_⟩
   simp [RowKit.intOf]; omega
  ·have k0 : k = 0 := by omega
   subst k0
   go_ret
   rw [hh.out]
   exact ⟨rfl, rfl⟩
theorem lastIndexByte_any (s : ByteArray) (c : Int) (hs : s.size < 4611686018427387904) (w : World) :
 Calls Tryz.prog 150 #[.string s, .int .u8 c] w fun e w' => e = .returned (.int .i64 (Lib.lastIndexByte s c)) ∧ w' = w := by
 go_enter Tryz.func150, Tryz.ntmps150
 go_wp2_with (go_at_call 161; refine (baLastIndexByte_any _ _ (by assumption) _).mono ?_; rintro e w' ⟨rfl, rfl⟩)
 go_ret
 exact ⟨rfl, rfl⟩
theorem indexByte_no (s : ByteArray) (h : Lib.indexByte s.data.toList 58 = -1) (w : World) :
 Calls Tryz.prog 149 #[.string s, .int .u8 58] w fun e w' => e = .returned (.int .i64 (-1)) ∧ w' = w := by
 have := indexByte_any s 58 w
 rw [show (58 : Int).toNat.toUInt8 = 58 from rfl, h] at this
 exact this
theorem indexByte_yes (s : ByteArray) (i : Nat) (h : Lib.indexByte s.data.toList 58 = i) (w : World) :
 Calls Tryz.prog 149 #[.string s, .int .u8 58] w fun e w' => e = .returned (.int .i64 i) ∧ w' = w := by
 have := indexByte_any s 58 w
 rw [show (58 : Int).toNat.toUInt8 = 58 from rfl, h] at this
 exact this
theorem lastIndexByte_val (s : ByteArray) (i : Int) (hs : s.size < 4611686018427387904) (h : Lib.lastIndexByte s 45 = i) (w : World) :
 Calls Tryz.prog 150 #[.string s, .int .u8 45] w fun e w' => e = .returned (.int .i64 i) ∧ w' = w := by
 have := lastIndexByte_any s 45 hs w
 rw [h] at this
 exact this
def verAgg (v : Ver) : Value := .agg #[.string v.e, .string v.u, .string v.r, .bool v.c, .bool v.d]
set_option maxHeartbeats 1000000 in
theorem cutParts_any (s : ByteArray) (hs : s.size < 4611686018427387904) (w : World) :
 Calls Tryz.prog 136 #[.string s] w fun e w' => e = .returned (verAgg (cut s)) ∧ Below w.heap.size w w' := by
 have hR := rest_size s
 rcases indexByte_spec s.data.toList 58 with ⟨h1, -⟩ | ⟨i, hi, h1, -, -⟩
 ·have hrest : rest s = s := by unfold rest; rw [if_pos h1]
  have c1 := hide (fun w => indexByte_no s h1 w)
  rcases Lib.lastIndexByte_spec s 45 with ⟨h2, -⟩ | ⟨j, hj, h2, -, -⟩
  ·have HF := hide (show cut s = ⟨nob, s, nob, false, false⟩ by unfold cut; rw [hrest]; simp [h1, h2])
   have c2 := hide (fun w => lastIndexByte_val s (-1) (by omega) h2 w)
   clear h1 h2 hR hrest
   go_enter Tryz.func136, Tryz.ntmps136
   go_wp2_with (first | (go_at_call 149; refine (unhide c1 _).mono ?_; rintro e w' ⟨rfl, rfl⟩) | (go_at_call 150; refine (unhide c2 _).mono ?_; rintro e w' ⟨rfl, rfl⟩))
   exact bodyPost_ret (v := .agg #[.string nob, .string s, .string nob, .bool false, .bool false]) (by simp [results, Tryz.results136, go_sem, nob]) rfl ⟨by rw [unhide HF]; rfl, ((Below.refl _ _).alloc (Nat.le_refl _) _).alloc (by simp) _⟩
  ·have HF := hide (show cut s = ⟨nob, s.extract 0 j, s.extract (j + 1) s.size, false, true⟩ by unfold cut; rw [hrest]; simp [h1, h2, show ¬ ((j : Int) = -1) by omega])
   have c2 := hide (fun w => lastIndexByte_val s j (by omega) h2 w)
   clear h1 h2 hR hrest
   go_enter Tryz.func136, Tryz.ntmps136
   go_wp2_with (first | (go_at_call 149; refine (unhide c1 _).mono ?_; rintro e w' ⟨rfl, rfl⟩) | (go_at_call 150; refine (unhide c2 _).mono ?_; rintro e w' ⟨rfl, rfl⟩))
   exact bodyPost_ret (v := .agg #[.string nob, .string (s.extract 0 j), .string (s.extract (j + 1) s.size), .bool false, .bool true]) (by simp [results, Tryz.results136, go_sem, nob]) rfl ⟨by rw [unhide HF]; rfl, ((Below.refl _ _).alloc (Nat.le_refl _) _).alloc (by simp) _⟩
 ·have hi' : i < s.size := by simpa using hi
  have hrest : rest s = s.extract (i + 1) s.size := by unfold rest; rw [if_neg (by rw [h1]; omega), h1]; rfl
  have c1 := hide (fun w => indexByte_yes s i h1 w)
  rcases Lib.lastIndexByte_spec (s.extract (i + 1) s.size) 45 with ⟨h2, -⟩ | ⟨j, hj, h2, -, -⟩
  ·have HF := hide (show cut s = ⟨s.extract 0 i, s.extract (i + 1) s.size, nob, true, false⟩ by unfold cut; rw [hrest]; simp [h1, h2, show ¬ ((i : Int) = -1) by omega])
   have c2 := hide (fun w => lastIndexByte_val (s.extract (i + 1) s.size) (-1) (by rw [hrest] at hR; omega) h2 w)
   clear h1 h2 hR hrest hi
   go_enter Tryz.func136, Tryz.ntmps136
   go_wp2_with (first | (go_at_call 149; refine (unhide c1 _).mono ?_; rintro e w' ⟨rfl, rfl⟩) | (go_at_call 150; refine (unhide c2 _).mono ?_; rintro e w' ⟨rfl, rfl⟩))
   exact bodyPost_ret (v := .agg #[.string (s.extract 0 i), .string (s.extract (i + 1) s.size), .string nob, .bool true, .bool false]) (by simp [results, Tryz.results136, go_sem, nob]) rfl ⟨by rw [unhide HF]; rfl, ((Below.refl _ _).alloc (Nat.le_refl _) _).alloc (by simp) _⟩
  ·have HF := hide (show cut s = ⟨s.extract 0 i, (s.extract (i + 1) s.size).extract 0 j, (s.extract (i + 1) s.size).extract (j + 1) (s.extract (i + 1) s.size).size, true, true⟩ by unfold cut; rw [hrest]; simp [h1, h2, show ¬ ((i : Int) = -1) by omega, show ¬ ((j : Int) = -1) by omega])
   have c2 := hide (fun w => lastIndexByte_val (s.extract (i + 1) s.size) j (by rw [hrest] at hR; omega) h2 w)
   have hsz : (s.extract (i + 1) s.size).size = s.size - (i + 1) := by rw [ByteArray.size_extract]; omega
   rw [hsz] at HF hj
   clear h1 h2 hR hrest hi hsz
   go_enter Tryz.func136, Tryz.ntmps136
   go_wp2_with (first | (go_at_call 149; refine (unhide c1 _).mono ?_; rintro e w' ⟨rfl, rfl⟩) | (go_at_call 150; refine (unhide c2 _).mono ?_; rintro e w' ⟨rfl, rfl⟩))
   exact bodyPost_ret (v := .agg #[.string (s.extract 0 i), .string ((s.extract (i + 1) s.size).extract 0 j), .string ((s.extract (i + 1) s.size).extract (j + 1) (s.size - (i + 1))), .bool true, .bool true]) (by simp [results, Tryz.results136, go_sem]) rfl ⟨by rw [unhide HF]; rfl, ((Below.refl _ _).alloc (Nat.le_refl _) _).alloc (by simp) _⟩
theorem cutParts_as (s : ByteArray) (hs : s.size < 4611686018427387904) (E U R : ByteArray) (C D : Bool) (h : cut s = ⟨E, U, R, C, D⟩) (w : World) :
 Calls Tryz.prog 136 #[.string s] w fun e w' => e = .returned (.agg #[.string E, .string U, .string R, .bool C, .bool D]) ∧ Below w.heap.size w w' := by
 have := cutParts_any s hs w
 rw [h] at this
 exact this
theorem checkParts_as (e u r : ByteArray) (c d : Bool) (n : Int) (hn : chk e u r c d = n) (he : e.size ≤ maxLen) (hu : u.size ≤ maxLen) (hr : r.size ≤ maxLen) (w : World) :
 Calls Tryz.prog 137 #[.agg #[.string e, .string u, .string r, .bool c, .bool d]] w fun x w' => x = .returned (.int .i64 n) ∧ Below w.heap.size w w' := by
 have := checkParts_any e u r c d w he hu hr
 rw [hn] at this
 exact this
theorem bcell {W w1 : World} (hb : Below W.heap.size W w1) : (∀ b o, b < W.heap.size → w1.cell? ⟨b, o, none⟩ = W.cell? ⟨b, o, none⟩) ∧ (∀ b o, b < W.heap.size → w1.frozen? ⟨b, o, none⟩ = W.frozen? ⟨b, o, none⟩) :=
 ⟨fun b o h => hb.cell (p := ⟨b, o, none⟩) h, fun b o h => hb.frozen (p := ⟨b, o, none⟩) h⟩
theorem below_set5 {w w2 : World} {b : Nat} (h : Below b w w2) (v0 v1 v2 v3 v4 : Value) :
 Below b w (((((w2.setCell ⟨b, 0, none⟩ v0).setCell ⟨b, 1, none⟩ v1).setCell ⟨b, 2, none⟩ v2).setCell ⟨b, 3, none⟩ v3).setCell ⟨b, 4, none⟩ v4) :=
 ((((h.setCell (p := ⟨b, 0, none⟩) (Nat.le_refl _) _).setCell (p := ⟨b, 1, none⟩) (Nat.le_refl _) _).setCell (p := ⟨b, 2, none⟩) (Nat.le_refl _) _).setCell (p := ⟨b, 3, none⟩) (Nat.le_refl _) _).setCell (p := ⟨b, 4, none⟩) (Nat.le_refl _) _
set_option maxHeartbeats 1000000 in
theorem parse_long (s : ByteArray) (h : 256 < s.size) (hs : s.size ≤ maxLen) (w : World) :
 Calls Tryz.prog 124 #[.string s] w fun x w' => x = .returned (.tuple #[.agg #[.string nob, .string nob, .string nob, .bool false, .bool false], .int .i64 10]) ∧ Below w.heap.size w w' := by
 unfold maxLen at hs
 go_enter Tryz.func124, Tryz.ntmps124
 go_wp2
 exact bodyPost_ret (v := .tuple #[.agg #[.string nob, .string nob, .string nob, .bool false, .bool false], .int .i64 10]) (by simp [results, Tryz.results124, go_sem, nob]) rfl ⟨rfl, (Below.refl _ _).alloc (Nat.le_refl _) _⟩
set_option maxHeartbeats 1000000 in
theorem parse_short (s : ByteArray) (h : s.size ≤ 256) (E U R : ByteArray) (C D : Bool) (hc : cut s = ⟨E, U, R, C, D⟩) (n : Int) (hn : chk E U R C D = n) (w : World) :
 Calls Tryz.prog 124 #[.string s] w fun x w' => x = .returned (.tuple #[if n = 0 then .agg #[.string E, .string U, .string R, .bool C, .bool D] else .agg #[.string nob, .string nob, .string nob, .bool false, .bool false], .int .i64 n]) ∧ Below w.heap.size w w' := by
 have hz := cut_size s
 rw [hc] at hz
 obtain ⟨z1, z2, z3⟩ := hz
 simp only at z1 z2 z3
 have c1 := hide (fun w => cutParts_as s (by omega) E U R C D hc w)
 have c2 := hide (fun w => checkParts_as E U R C D n hn (by unfold maxLen; omega) (by unfold maxLen; omega) (by unfold maxLen; omega) w)
 clear hc hn z1 z2 z3
 by_cases e : n = 0
 ·subst e
  rw [if_pos rfl]
  go_enter Tryz.func124, Tryz.ntmps124
  go_wp2_with fail
  refine (unhide c1 _).mono ?_
  rintro e w1 ⟨rfl, hb1⟩
  have hz1 := hb1.size
  have hb1' := hide hb1
  obtain ⟨hc1, hf1⟩ := bcell hb1
  clear hb1
  simp at hz1
  go_wp2_with fail
  refine (unhide c2 _).mono ?_
  rintro e w2 ⟨rfl, hb2⟩
  have hz2 := hb2.size
  have hb2' := hide hb2
  obtain ⟨hc2, hf2⟩ := bcell hb2
  clear hb2
  simp at hz2
  have q1 : w.heap.size < w1.heap.size + 1 := by omega
  have q2 : w.heap.size < w1.heap.size := by omega
  go_wp2_with fail
  refine bodyPost_ret (v := .tuple #[.agg #[.string E, .string U, .string R, .bool C, .bool D], .int .i64 0]) (by simp [results, Tryz.results124, go_sem, hc1, hc2, q1, q2]) rfl ⟨rfl, ?_⟩
  exact below_set5 (((((Below.refl _ w).alloc (Nat.le_refl _) _).trans ((unhide hb1').mono (by simp))).alloc (by omega) _).trans ((unhide hb2').mono (by simp; omega))) _ _ _ _ _
 ·have hn : (n != 0) = true := by simp [e]
  rw [if_neg e]
  clear e
  go_enter Tryz.func124, Tryz.ntmps124
  go_wp2_with fail
  refine (unhide c1 _).mono ?_
  rintro e w1 ⟨rfl, hb1⟩
  have hz1 := hb1.size
  have hb1' := hide hb1
  obtain ⟨hc1, hf1⟩ := bcell hb1
  clear hb1
  simp at hz1
  go_wp2_with fail
  refine (unhide c2 _).mono ?_
  rintro e w2 ⟨rfl, hb2⟩
  have hz2 := hb2.size
  have hb2' := hide hb2
  obtain ⟨hc2, hf2⟩ := bcell hb2
  clear hb2
  simp at hz2
  have q1 : w.heap.size < w1.heap.size + 1 := by omega
  have q2 : w.heap.size < w1.heap.size := by omega
  go_wp2_with fail
  refine bodyPost_ret (v := .tuple #[.agg #[.string nob, .string nob, .string nob, .bool false, .bool false], .int .i64 n]) (by simp [results, Tryz.results124, go_sem, nob, hc1, hc2, q1, q2]) rfl ⟨rfl, ?_⟩
  exact below_set5 (((((Below.refl _ w).alloc (Nat.le_refl _) _).trans ((unhide hb1').mono (by simp))).alloc (by omega) _).trans ((unhide hb2').mono (by simp; omega))) _ _ _ _ _
theorem Parse_any (s : ByteArray) (hs : s.size ≤ maxLen) (E U R : ByteArray) (C D : Bool) (n : Int) (h : parse s = (⟨E, U, R, C, D⟩, n)) (w : World) :
 Calls Tryz.prog 124 #[.string s] w fun x w' => x = .returned (.tuple #[.agg #[.string E, .string U, .string R, .bool C, .bool D], .int .i64 n]) ∧ Below w.heap.size w w' := by
 unfold parse at h
 by_cases hl : 256 < s.size
 ·rw [if_pos hl] at h
  cases h
  exact parse_long s hl hs w
 ·rw [if_neg hl] at h
  cases hc : cut s with
  | mk E' U' R' C' D' =>
    rw [hc] at h
    have := parse_short s (by omega) E' U' R' C' D' hc _ rfl w
    by_cases hn : chk E' U' R' C' D' = 0
    ·rw [if_pos (show chkV ⟨E', U', R', C', D'⟩ = 0 from hn)] at h
     cases h
     rw [if_pos hn, hn] at this
     exact this
    ·rw [if_neg (show ¬ chkV ⟨E', U', R', C', D'⟩ = 0 from hn)] at h
     cases h
     rw [if_neg hn] at this
     exact this
end
section
open Go.RowKit
set_option maxHeartbeats 400000 in
theorem digitsOf_dig (e : ByteArray) (he : e.size ≤ maxLen) (h : allB (kind 152) e = true) (w : World) :
 Calls Tryz.prog 139 #[.string e] w fun x w' => x = .returned (.string e) ∧ w' = w := by
 go_enter Tryz.func139, Tryz.ntmps139
 go_wp2_with (go_at_call 151; refine (consists_any _ _ (by decide) _ he).mono ?_; rintro x w' ⟨rfl, rfl⟩)
 go_ret
 exact ⟨rfl, rfl⟩
def ordV (v w : Ver) : Int := if ordNum v.e w.e = 0 then (if ordPart v.u w.u = 0 then ordPart v.r w.r else ordPart v.u w.u) else ordNum v.e w.e
set_option maxHeartbeats 1000000 in
theorem Order_dig (e u r : ByteArray) (c d : Bool) (E U R : ByteArray) (C D : Bool) (he : e.size ≤ maxLen) (hu : u.size ≤ maxLen) (hr : r.size ≤ maxLen) (hE : E.size ≤ maxLen) (hU : U.size ≤ maxLen) (hR : R.size ≤ maxLen)
 (h1 : allB (kind 152) e = true) (h2 : allB (kind 152) E = true) (w : World) :
 Calls Tryz.prog 126 #[.agg #[.string e, .string u, .string r, .bool c, .bool d], .agg #[.string E, .string U, .string R, .bool C, .bool D]] w fun x w' =>
  x = .returned (.int .i64 (ordV ⟨e, u, r, c, d⟩ ⟨E, U, R, C, D⟩)) ∧ Below w.heap.size w w' := by
 have HF := hide (show ordV ⟨e, u, r, c, d⟩ ⟨E, U, R, C, D⟩ = if ordNum e E = 0 then (if ordPart u U = 0 then ordPart r R else ordPart u U) else ordNum e E from rfl)
 have c1 := hide (fun w => digitsOf_dig e he h1 w)
 have c2 := hide (fun w => digitsOf_dig E hE h2 w)
 have c3 := hide (fun w => orderNumbers_any e E he hE w)
 have c4 := hide (fun w => orderParts_any u U hu hU w)
 have c5 := hide (fun w => orderParts_any r R hr hR w)
 generalize ordV ⟨e, u, r, c, d⟩ ⟨E, U, R, C, D⟩ = res at *
 generalize ordNum e E = x1 at *
 generalize ordPart u U = x2 at *
 generalize ordPart r R = x3 at *
 clear h1 h2 he hu hr hE hU hR
 have HB := hide (((Below.refl w.heap.size w).alloc (Nat.le_refl _) (.cells #[.string e, .string u, .string r, .bool c, .bool d] 172)).alloc (by simp) (.cells #[.string E, .string U, .string R, .bool C, .bool D] 172))
 by_cases e1 : x1 = 0
 ·have n1 : (x1 != 0) = false := by simp [e1]
  have HF1 := hide ((unhide HF).trans (if_pos e1))
  clear e1 HF
  go_enter Tryz.func126, Tryz.ntmps126
  go_wp2_with fail
  go_quiet (first | (go_at_call_of 139 (Value.string e); exact Calls.quiet_of_same (unhide c1 _)) | (go_at_call_of 139 (Value.string E); exact Calls.quiet_of_same (unhide c2 _)) | (go_at_call 138; exact Calls.quiet_of_same (unhide c3 _)))
  go_wp2_with fail
  refine (unhide c4 _).mono ?_
  rintro x w1 ⟨rfl, hb1⟩
  have hz1 := hb1.size
  have hb1' := hide hb1
  obtain ⟨hc1, hf1⟩ := bcell hb1
  clear hb1
  simp at hz1
  have q1 : w.heap.size < w1.heap.size := by omega
  have hB1 := hide ((below_drewN (unhide HB) nq).trans ((unhide hb1').mono (by simp; omega)))
  by_cases e2 : x2 = 0
  ·have n2 : (x2 != 0) = false := by simp [e2]
   have HF2 := hide ((unhide HF1).trans (if_pos e2))
   clear e2 HF1
   go_wp2_with fail
   refine (unhide c5 _).mono ?_
   rintro x w2 ⟨rfl, hb2⟩
   have hb2' := hide hb2
   clear hb2
   go_wp2_with fail
   go_ret
   exact ⟨ret_int64 (unhide HF2).symm, (unhide hB1).trans ((unhide hb2').mono (by omega))⟩
  ·have n2 : (x2 != 0) = true := by simpa using e2
   have HF2 := hide ((unhide HF1).trans (if_neg e2))
   clear e2 HF1
   go_wp2_with fail
   go_ret
   exact ⟨ret_int64 (unhide HF2).symm, unhide hB1⟩
 ·have n1 : (x1 != 0) = true := by simpa using e1
  have HF1 := hide ((unhide HF).trans (if_neg e1))
  clear e1 HF
  go_enter Tryz.func126, Tryz.ntmps126
  go_wp2_with fail
  go_quiet (first | (go_at_call_of 139 (Value.string e); exact Calls.quiet_of_same (unhide c1 _)) | (go_at_call_of 139 (Value.string E); exact Calls.quiet_of_same (unhide c2 _)) | (go_at_call 138; exact Calls.quiet_of_same (unhide c3 _)))
  go_wp2_with fail
  go_ret
  exact ⟨ret_int64 (unhide HF1).symm, below_drewN (unhide HB) nq⟩
end
section
structure IsPre {α : Type} (c : α → α → Int) : Prop where
 rng : ∀ x y, c x y = -1 ∨ c x y = 0 ∨ c x y = 1
 anti : ∀ x y, c y x = - c x y
 tr : ∀ x y z, c x y ≤ 0 → c y z ≤ 0 → c x z ≤ 0
theorem pre_ci : IsPre ci := by
 refine ⟨fun x y => ?_, fun x y => ?_, fun x y z => ?_⟩
 ·unfold ci; split <;> (try split) <;> simp
 ·unfold ci; split <;> split <;> (try split) <;> (try split) <;> omega
 ·unfold ci
  by_cases h1 : x < y <;> by_cases h2 : y < x <;> by_cases h3 : y < z <;> by_cases h4 : z < y <;> by_cases h5 : x < z <;> by_cases h6 : z < x <;> simp [h1, h2, h3, h4, h5, h6] <;> omega
theorem pre_comap {α β : Type} {c : α → α → Int} (h : IsPre c) (f : β → α) : IsPre (fun x y => c (f x) (f y)) :=
 ⟨fun _ _ => h.rng _ _, fun _ _ => h.anti _ _, fun _ _ _ => h.tr _ _ _⟩
theorem pre_lex {α : Type} {c d : α → α → Int} (h : IsPre c) (k : IsPre d) : IsPre (fun x y => if c x y = 0 then d x y else c x y) := by
 refine ⟨fun x y => ?_, fun x y => ?_, fun x y z => ?_⟩
 ·show (if c x y = 0 then d x y else c x y) = _ ∨ _
  split
  ·exact k.rng x y
  ·exact h.rng x y
 ·show (if c y x = 0 then d y x else c y x) = - (if c x y = 0 then d x y else c x y)
  have := h.anti x y
  have := k.anti x y
  split <;> split <;> omega
 ·show (if c x y = 0 then d x y else c x y) ≤ 0 → (if c y z = 0 then d y z else c y z) ≤ 0 → (if c x z = 0 then d x z else c x z) ≤ 0
  have t1 := h.tr x y z
  have t2 := h.tr z x y
  have t3 := h.tr y z x
  have a1 := h.anti x y
  have a2 := h.anti y z
  have a3 := h.anti x z
  have t4 := k.tr x y z
  intro e1 e2
  split at e1 <;> split at e2 <;> split <;> omega
theorem pre_zero {α : Type} : IsPre (fun _ _ : α => (0 : Int)) := ⟨fun _ _ => .inr (.inl rfl), fun _ _ => rfl, fun _ _ _ _ _ => Int.le_refl _⟩
theorem pre_sq {α : Type} (c : Nat → α → α → Int) (h : ∀ i, IsPre (c i)) : ∀ n, IsPre (fun x y => sq (fun i => c i x y) n)
 | 0 => pre_zero
 | n + 1 => pre_lex (pre_sq c h n) (h n)
theorem pre_seq {α : Type} (c : Nat → α → α → Int) (h : ∀ i, IsPre (c i)) (B : α → Nat) (C : α → α → Int) (hC : ∀ x y n, B x ≤ n → B y ≤ n → C x y = sq (fun i => c i x y) n) : IsPre C := by
 refine ⟨fun x y => ?_, fun x y => ?_, fun x y z => ?_⟩
 ·rw [hC x y (B x + B y) (by omega) (by omega)]
  exact (pre_sq c h _).rng x y
 ·rw [hC x y (B x + B y) (by omega) (by omega), hC y x (B x + B y) (by omega) (by omega)]
  exact (pre_sq c h _).anti x y
 ·rw [hC x y (B x + B y + B z) (by omega) (by omega), hC y z (B x + B y + B z) (by omega) (by omega), hC x z (B x + B y + B z) (by omega) (by omega)]
  exact (pre_sq c h _).tr x y z
def csL (x y : List UInt8) : Int := if Op.bytesLess x y = true then -1 else if (x == y) = true then 0 else 1
theorem csL_cons (a b : UInt8) (x y : List UInt8) : csL (a :: x) (b :: y) = if ci (a.toNat : Int) (b.toNat : Int) = 0 then csL x y else ci (a.toNat : Int) (b.toNat : Int) := by
 unfold csL ci
 rcases Nat.lt_trichotomy a.toNat b.toNat with h | h | h
 ·have h1 : a < b := h
  have h2 : (a.toNat : Int) < (b.toNat : Int) := by omega
  simp [Op.bytesLess, h1, h2]
 ·have h1 : a = b := UInt8.toNat_inj.1 h
  subst h1
  simp [Op.bytesLess]
 ·have h1 : ¬ a < b := by intro h'; have : a.toNat < b.toNat := h'; omega
  have h2 : ¬ (a.toNat : Int) < (b.toNat : Int) := by omega
  have h3 : (b.toNat : Int) < (a.toNat : Int) := by omega
  have h4 : a ≠ b := by intro e; rw [e] at h; omega
  simp [Op.bytesLess, h1, h2, h3, h4]
theorem pre_csL : IsPre csL := by
 have r : ∀ x y, csL x y = -1 ∨ csL x y = 0 ∨ csL x y = 1 := by
  intro x y; unfold csL; split <;> (try split) <;> simp
 have an : ∀ x y, csL y x = - csL x y := by
  intro x
  induction x with
  | nil => intro y; cases y <;> rfl
  | cons a x ih =>
    intro y
    cases y with
    | nil => rfl
    | cons b y =>
      rw [csL_cons, csL_cons]
      have := pre_ci.anti (a.toNat : Int) (b.toNat : Int)
      have := ih y
      split <;> split <;> omega
 refine ⟨r, an, ?_⟩
 intro x
 induction x with
 | nil =>
   intro y z _ _
   cases z
   ·exact Int.le_refl _
   ·exact (by decide : (-1 : Int) ≤ 0)
 | cons a x ih =>
   intro y z h1 h2
   cases y with
   | nil => exact absurd h1 (by have : csL (a :: x) [] = 1 := rfl
                                omega)
   | cons b y =>
     cases z with
     | nil => exact absurd h2 (by have : csL (b :: y) [] = 1 := rfl
                                  omega)
     | cons c z =>
       rw [csL_cons] at h1 h2 ⊢
       have t1 := pre_ci.tr (a.toNat : Int) b.toNat c.toNat
       have t2 := pre_ci.tr (c.toNat : Int) a.toNat b.toNat
       have t3 := pre_ci.tr (b.toNat : Int) c.toNat a.toNat
       have a1 := pre_ci.anti (a.toNat : Int) b.toNat
       have a2 := pre_ci.anti (b.toNat : Int) c.toNat
       have a3 := pre_ci.anti (a.toNat : Int) c.toNat
       have t4 := ih y z
       split at h1 <;> split at h2 <;> split <;> omega
theorem cs_csL (a b : ByteArray) : cs a b = csL a.toList b.toList := rfl
theorem pre_cs : IsPre cs := pre_comap pre_csL ByteArray.toList
theorem pre_ordNum : IsPre ordNum := pre_lex (pre_comap pre_ci (fun s : ByteArray => ((stripB s).size : Int))) (pre_comap pre_cs stripB)
theorem rkAt_end (s : ByteArray) (i : Nat) (h : s.size ≤ i) : rkAt s i = 1 := by
 unfold rkAt; rw [dif_neg (by omega)]
theorem pre_ordWord : IsPre ordWord := by
 refine pre_seq (fun i a b => cw a b i) (fun i => pre_comap pre_ci (fun s : ByteArray => rkAt s i)) ByteArray.size ordWord ?_
 intro a b n h1 h2
 unfold ordWord
 refine (sq_tail (cw a b) (max a.size b.size) ?_ n (by omega)).symm
 intro i hi
 unfold cw
 rw [rkAt_end a i (by omega), rkAt_end b i (by omega)]
 rfl
theorem pre_cp (i : Nat) : IsPre (fun a b => cp a b i) := by
 cases h : odd i
 ·have e : (fun a b => cp a b i) = fun a b => ordWord (runOf a i) (runOf b i) := by
   funext a b; unfold cp; rw [h]; rfl
  rw [e]; exact pre_comap pre_ordWord (fun s => runOf s i)
 ·have e : (fun a b => cp a b i) = fun a b => ordNum (runOf a i) (runOf b i) := by
   funext a b; unfold cp; rw [h]; rfl
  rw [e]; exact pre_comap pre_ordNum (fun s => runOf s i)
theorem ordPart_any (a b : ByteArray) (n : Nat) (h1 : 2 * a.size ≤ n) (h2 : 2 * b.size ≤ n) : ordPart a b = sq (cp a b) n := by
 unfold ordPart
 have h : ∀ i, max (2 * a.size) (2 * b.size) ≤ i → cp a b i = 0 := fun i hi => cp_end a b i (ia_done a i (by omega)) (ia_done b i (by omega))
 rw [sq_tail (cp a b) _ h n (by omega), sq_tail (cp a b) _ h (bnd a b) (by unfold bnd; omega)]
theorem pre_ordPart : IsPre ordPart :=
 pre_seq (fun i a b => cp a b i) pre_cp (fun s => 2 * s.size) ordPart fun a b n h1 h2 => ordPart_any a b n h1 h2
theorem pre_ordV : IsPre ordV :=
 pre_lex (pre_comap pre_ordNum Ver.e) (pre_lex (pre_comap pre_ordPart Ver.u) (pre_comap pre_ordPart Ver.r))
end
end Go.Proofs.YtdkpglmdncjnbaaGreatDoor
