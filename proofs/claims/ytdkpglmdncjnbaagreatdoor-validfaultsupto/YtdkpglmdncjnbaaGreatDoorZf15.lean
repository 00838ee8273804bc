import Derived.Shelf.Sort.Plain
import Derived.Shelf.Slices.CompactI
import Derived.Test.YtdkpglmdncjnbaaGreatDoorZf14
import Derived.Sort.OwnSortedInts
import Derived.Lib.SlicesCompact
import Derived.RegionTactic
namespace Go.Proofs
open Go.Shelf
def Tryz.lays189_ren : Go.Shelf.Ren := ⟨fun | 189 => 68 | 125 => 73 | 257 => 86 | 128 => 96 | 129 => 97 | 294 => 106 | 295 => 107 | 296 => 108 | 297 => 109 | 298 => 110 | 299 => 111 | 216 => 112 | 300 => 113 | 301 => 114 | 328 => 127 | 329 => 116 | 330 => 117 | 331 => 128 | 332 => 129 | 215 => 130 | 343 => 141 | n => n, fun | 28 => 34 | 3 => 3 | 46 => 120 | 0 => 0 | 51 => 144 | 53 => 146 | 4 => 4 | 183 => 138 | 182 => 137 | 131 => 100 | 5 => 5 | 9 => 9 | 218 => 163 | 222 => 167 | 228 => 180 | 229 => 151 | n => n, fun | n => n⟩
theorem Tryz.lays189 : Go.Proofs.Lays.n189 Tryz.prog Tryz.lays189_ren := {
 mixed := by kernel_rfl
 f125 := Tryz.func73.trans (congrArg some (by kernel_rfl))
 f128 := Tryz.func96.trans (congrArg some (by kernel_rfl))
 f129 := Tryz.func97.trans (congrArg some (by kernel_rfl))
 f189 := Tryz.func68.trans (congrArg some (by kernel_rfl))
 f215 := Tryz.func130.trans (congrArg some (by kernel_rfl))
 f216 := Tryz.func112.trans (congrArg some (by kernel_rfl))
 f257 := Tryz.func86.trans (congrArg some (by kernel_rfl))
 f294 := Tryz.func106.trans (congrArg some (by kernel_rfl))
 f295 := Tryz.func107.trans (congrArg some (by kernel_rfl))
 f296 := Tryz.func108.trans (congrArg some (by kernel_rfl))
 f297 := Tryz.func109.trans (congrArg some (by kernel_rfl))
 f298 := Tryz.func110.trans (congrArg some (by kernel_rfl))
 f299 := Tryz.func111.trans (congrArg some (by kernel_rfl))
 f300 := Tryz.func113.trans (congrArg some (by kernel_rfl))
 f301 := Tryz.func114.trans (congrArg some (by kernel_rfl))
 f328 := Tryz.func127.trans (congrArg some (by kernel_rfl))
 f329 := Tryz.func116.trans (congrArg some (by kernel_rfl))
 f330 := Tryz.func117.trans (congrArg some (by kernel_rfl))
 f331 := Tryz.func128.trans (congrArg some (by kernel_rfl))
 f332 := Tryz.func129.trans (congrArg some (by kernel_rfl))
 f343 := Tryz.func141.trans (congrArg some (by kernel_rfl))
 t0 := Tryz.underlying0
 a0 := Tryz.isAgg0
 z0 := Tryz.sizeOf0
 v0 := Tryz.zeroValue0
 t3 := Tryz.underlying3
 a3 := Tryz.isAgg3
 z3 := Tryz.sizeOf3
 v3 := Tryz.zeroValue3
 t4 := Tryz.underlying4
 a4 := Tryz.isAgg4
 z4 := Tryz.sizeOf4
 v4 := Tryz.zeroValue4
 t5 := Tryz.underlying5
 a5 := Tryz.isAgg5
 z5 := Tryz.sizeOf5
 v5 := Tryz.zeroValue5
 t9 := Tryz.underlying9
 a9 := Tryz.isAgg9
 z9 := Tryz.sizeOf9
 v9 := Tryz.zeroValue9
 t28 := Tryz.underlying34
 a28 := Tryz.isAgg34
 z28 := Tryz.sizeOf34
 v28 := Tryz.zeroValue34
 t46 := Tryz.underlying120
 a46 := Tryz.isAgg120
 z46 := Tryz.sizeOf120
 v46 := Tryz.zeroValue120
 t51 := Tryz.underlying144
 a51 := Tryz.isAgg144
 z51 := Tryz.sizeOf144
 v51 := Tryz.zeroValue144
 t53 := Tryz.underlying146
 a53 := Tryz.isAgg146
 z53 := Tryz.sizeOf146
 v53 := Tryz.zeroValue146
 t131 := Tryz.underlying100
 a131 := Tryz.isAgg100
 z131 := Tryz.sizeOf100
 v131 := Tryz.zeroValue100
 t182 := Tryz.underlying137
 a182 := Tryz.isAgg137
 z182 := Tryz.sizeOf137
 v182 := Tryz.zeroValue137
 t183 := Tryz.underlying138
 a183 := Tryz.isAgg138
 z183 := Tryz.sizeOf138
 v183 := Tryz.zeroValue138
 t218 := Tryz.underlying163
 a218 := Tryz.isAgg163
 z218 := Tryz.sizeOf163
 v218 := Tryz.zeroValue163
 t222 := Tryz.underlying167
 a222 := Tryz.isAgg167
 z222 := Tryz.sizeOf167
 v222 := Tryz.zeroValue167
 t228 := Tryz.underlying180
 a228 := Tryz.isAgg180
 z228 := Tryz.sizeOf180
 v228 := Tryz.zeroValue180
 t229 := Tryz.underlying151
 a229 := Tryz.isAgg151
 z229 := Tryz.sizeOf151
 v229 := Tryz.zeroValue151 }
def Tryz.lays20_ren : Go.Shelf.Ren := ⟨fun | 20 => 69 | n => n, fun | 22 => 34 | 3 => 3 | 4 => 4 | 0 => 0 | n => n, fun | n => n⟩
theorem Tryz.lays20 : Go.Proofs.Lays2.n20 Tryz.prog Tryz.lays20_ren := {
 mixed := by kernel_rfl
 f20 := Tryz.func69.trans (congrArg some (by kernel_rfl))
 t0 := Tryz.underlying0
 a0 := Tryz.isAgg0
 z0 := Tryz.sizeOf0
 v0 := Tryz.zeroValue0
 t3 := Tryz.underlying3
 a3 := Tryz.isAgg3
 z3 := Tryz.sizeOf3
 v3 := Tryz.zeroValue3
 t4 := Tryz.underlying4
 a4 := Tryz.isAgg4
 z4 := Tryz.sizeOf4
 v4 := Tryz.zeroValue4
 t22 := Tryz.underlying34
 a22 := Tryz.isAgg34
 z22 := Tryz.sizeOf34
 v22 := Tryz.zeroValue34
 i3 := by kernel_rfl }
end Go.Proofs
namespace Go.Proofs.YtdkpglmdncjnbaaGreatDoor
section
open Go.RowKit Go.Maps Go.Shelf Go.Sort
theorem cpU (d : Array Int) (hs : ∀ i j, i ≤ j → j < d.size → d[i]! ≤ d[j]!) : ∀ m, m ≤ d.size → (Lib.compactUpTo d m).Pairwise (· < ·) ∧ (∀ x, x ∈ Lib.compactUpTo d m ↔ ∃ j, j < m ∧ d[j]! = x)
 | 0, _ => ⟨List.Pairwise.nil, fun x => by simp [Lib.compactUpTo]⟩
 | m + 1, hm => by
   obtain ⟨h1, h2⟩ := cpU d hs m (by omega)
   have e := Lib.compactUpTo_succ d m
   rw [e]
   by_cases hk : Lib.keeps d m = true
   ·rw [if_pos hk]
    refine ⟨List.pairwise_append.2 ⟨h1, List.pairwise_singleton _ _, fun a ha b hb => ?_⟩, fun x => ?_⟩
    ·rw [List.mem_singleton] at hb
     subst hb
     obtain ⟨j, hj, rfl⟩ := (h2 a).1 ha
     have l1 := hs j (m - 1) (by omega) (by omega)
     have l2 := hs (m - 1) m (by omega) (by omega)
     have hn : d[m]! ≠ d[m - 1]! := fun e => by
      rw [Lib.keeps_neg (by omega) e] at hk
      cases hk
     omega
    ·rw [List.mem_append, h2, List.mem_singleton]
     constructor
     ·rintro (⟨j, hj, q⟩ | q)
      ·exact ⟨j, by omega, q⟩
      ·exact ⟨m, by omega, q.symm⟩
     ·rintro ⟨j, hj, q⟩
      by_cases ej : j = m
      ·subst ej; exact .inr q.symm
      ·exact .inl ⟨j, by omega, q⟩
   ·rw [if_neg hk, List.append_nil]
    refine ⟨h1, fun x => ?_⟩
    rw [h2]
    have hm0 : 0 < m := Nat.pos_of_ne_zero fun e => hk (by subst e; exact Lib.keeps_lt_one d 0 (by omega))
    have hq : d[m]! = d[m - 1]! := Classical.byContradiction fun e => hk (Lib.keeps_pos e)
    constructor
    ·rintro ⟨j, hj, q⟩; exact ⟨j, by omega, q⟩
    ·rintro ⟨j, hj, q⟩
     by_cases ej : j = m
     ·subst ej; exact ⟨j - 1, by omega, by rw [← hq]; exact q⟩
     ·exact ⟨j, by omega, q⟩
theorem uniq_sorted : ∀ (a b : List Int), a.Pairwise (· < ·) → b.Pairwise (· < ·) → (∀ x, x ∈ a ↔ x ∈ b) → a = b
 | [], [], _, _, _ => rfl
 | [], y :: b, _, _, h => by have := (h y).2 (by simp); simp at this
 | x :: a, [], _, _, h => by have := (h x).1 (by simp); simp at this
 | x :: a, y :: b, ha, hb, h => by
   rw [List.pairwise_cons] at ha hb
   have e : x = y := by
    have hx := (h x).1 (by simp)
    have hy := (h y).2 (by simp)
    rw [List.mem_cons] at hx hy
    rcases hx with hx | hx
    ·exact hx
    ·rcases hy with hy | hy
     ·exact hy.symm
     ·have := ha.1 y hy; have := hb.1 x hx; omega
   subst e
   rw [uniq_sorted a b ha.2 hb.2 fun z => ?_]
   constructor
   ·intro hz
    have := (h z).1 (by simp [hz])
    rw [List.mem_cons] at this
    rcases this with q | q
    ·have := ha.1 z hz; omega
    ·exact q
   ·intro hz
    have := (h z).2 (by simp [hz])
    rw [List.mem_cons] at this
    rcases this with q | q
    ·have := hb.1 z hz; omega
    ·exact q
theorem sorted_once (l : List Int) (r : List Int) (hr : r.Pairwise (· < ·)) (h : ∀ x, x ∈ l ↔ x ∈ r) : Lib.compact (l.mergeSort fun x y => decide (x ≤ y)) = r := by
 obtain ⟨s, hs⟩ : ∃ s, s = l.mergeSort fun x y => decide (x ≤ y) := ⟨_, rfl⟩
 have hp : s.Pairwise fun x y => decide (x ≤ y) = true := by
  rw [hs]
  exact List.pairwise_mergeSort (fun a b c h1 h2 => by simp at *; omega) (fun a b => by simp; omega) l
 have hm : ∀ x, x ∈ s ↔ x ∈ l := fun x => by rw [hs]; exact List.mem_mergeSort
 rw [← hs]
 have hd : ∀ i j, i ≤ j → j < s.toArray.size → s.toArray[i]! ≤ s.toArray[j]! := fun i j hij hj => by
  have hj' : j < s.length := by simpa using hj
  rw [getElem!_pos _ i (by simp; omega), getElem!_pos _ j (by simp; omega)]
  by_cases e : i = j
  ·subst e; exact Int.le_refl _
  ·have := List.pairwise_iff_getElem.1 hp i j (by omega) hj' (by omega)
   simpa using this
 obtain ⟨k1, k2⟩ := cpU s.toArray hd s.length (by simp)
 refine uniq_sorted _ _ k1 hr fun x => ?_
 rw [show Lib.compact s = Lib.compactUpTo s.toArray s.length from rfl, k2, ← h x, ← hm x]
 constructor
 ·rintro ⟨j, hj, q⟩
  rw [getElem!_pos _ j (by simp; omega)] at q
  rw [← q]
  simp
 ·intro hx
  obtain ⟨j, hj, q⟩ := List.getElem_of_mem hx
  exact ⟨j, hj, by rw [getElem!_pos _ j (by simp; omega)]; simpa using q⟩
def zsI (l : List Nat) : List Int := l.map fun (p : Nat) => (p : Int)
theorem zsI_len (l : List Nat) : (zsI l).length = l.length := by simp [zsI]
theorem ints_zs (l : List Nat) : ints l = (zsI l).map (Value.int .i64) := by simp [ints, zsI]
theorem ins_nil (w : World) : Calls Tryz.prog 106 #[.slice none 0 0, .int .i64 0, .int .i64 0] w fun e w' => e = .returned (.tuple #[]) ∧ w' = w := by
 go_enter Tryz.func106, Tryz.ntmps106
 go_wp2
 refine wp_loop_rounds 1 ?_
 rw [rounds_succ]
 go_wp2
 go_end0
 exact ⟨rfl, rfl⟩
set_option maxRecDepth 100000 in
theorem pdq_nil (l : Int) (w : World) : Calls Tryz.prog 86 #[.slice none 0 0, .int .i64 0, .int .i64 0, .int .i64 l] w fun e w' => e = .returned (.tuple #[]) ∧ w' = w := by
 go_enter Tryz.func86, Tryz.ntmps86
 go_wp2
 refine wp_loop_rounds 1 ?_
 rw [rounds_succ]
 go_wp2_with (first | (go_at_call 106; refine (ins_nil _).mono ?_; rintro e w' ⟨rfl, rfl⟩))
 refine bodyPost_ret (results_none rfl _ _ _) rfl ?_
 exact ⟨rfl, rfl⟩
set_option maxRecDepth 100000 in
theorem sort_nil (w : World) : Calls Tryz.prog 68 #[.slice none 0 0] w fun e w' => e = .returned (.tuple #[]) ∧ w' = w := by
 go_enter Tryz.func68, Tryz.ntmps68
 go_wp2_with (first | (go_at_call 86; refine (pdq_nil _ _).mono ?_; rintro e w' ⟨rfl, rfl⟩) | go_in)
 go_end0
 exact ⟨rfl, rfl⟩
def So (w w' : World) (r : Value) (L : List Nat) : Prop := (r = .slice none 0 0 ∧ L = []) ∨ ∃ g cap, r = .slice (some ⟨g, 0, none⟩) L.length cap ∧ L.length ≤ cap ∧ w.heap.size ≤ g ∧ g < w'.heap.size ∧ Holds (Value.int .i64) w' g 0 ((zsI L).mergeSort fun x y => decide (x ≤ y)).toArray
set_option maxRecDepth 100000 in
set_option maxHeartbeats 2000000 in
theorem sorted_any {w : World} {f : Value} {L : List Nat} (hL : L.length ≤ 2097152) (h : Calls Tryz.prog 101 #[f] w fun e w' => ∃ r, e = .returned r ∧ w'.ownsRow w.heap.size 3 1 r L.length (ints L) ∧ RowKit.Below w.heap.size w w') :
 Calls Tryz.prog 80 #[f] w fun e w' => ∃ r, e = .returned r ∧ RowKit.Below w.heap.size w w' ∧ So w w' r L := by
 have C := hide h
 clear h
 go_enter Tryz.func80, Tryz.ntmps80
 go_wp2_with (go_at_call 101; refine (unhide C).mono ?_; rintro e w2 ⟨r, rfl, hrow, hb⟩; have H2 := hide (And.intro hrow hb); clear hrow hb C)
 obtain ⟨hrow, hb⟩ := unhide H2
 rcases hrow.2 with ⟨rfl, h0⟩ | ⟨g, cap, cur, rfl, hbase, hbl, h1, h2, h3, h4⟩
 ·refine (sort_nil w2).mono ?_
  rintro e w3 ⟨rfl, rfl⟩
  have HE := hide (show L = [] from List.length_eq_zero_iff.1 h0)
  clear hrow h0 H2
  go_wp2_with fail
  go_ret
  exact ⟨_, rfl, hb, .inl ⟨rfl, unhide HE⟩⟩
 ·rw [Nat.mul_one, ints_zs, ← zsI_len L] at h4
  have hH : Holds (Value.int .i64) w2 g 0 (zsI L).toArray := holds_of_blockI hbl h4
  have hgl := blk_lt hbl
  have hc := Any.slices_Sort_int Tryz.lays189 g 0 cap (zsI L) w2 hH hgl (by rw [zsI_len]; omega)
  rw [zsI_len] at hc
  have hc : Calls Tryz.prog 68 #[.slice (some ⟨g, 0, none⟩) L.length cap] w2 _ := hc
  refine hc.mono ?_
  rintro e w3 ⟨rfl, nn, os, rfl⟩
  have hgr := grownBy_sortedI (w := w2) (g := g) (n := nn) (os := os) ((zsI L).mergeSort fun x y => decide (x ≤ y)).toArray
  have hb3 := hb.grown hgr hb.size (fun j hj => by cases hj; exact hbase)
  have hl3 : g < (grow (putRow (Value.int .i64) (Sort.ahead w2 nn) g 0 ((zsI L).mergeSort fun x y => decide (x ≤ y)).toArray) os).heap.size := Nat.lt_of_lt_of_le hgl hgr.size
  have hH3 : Holds (Value.int .i64) (grow (putRow (Value.int .i64) (Sort.ahead w2 nn) g 0 ((zsI L).mergeSort fun x y => decide (x ≤ y)).toArray) os) g 0 ((zsI L).mergeSort fun x y => decide (x ≤ y)).toArray := by
   have hown := ownsRow_sortedI (os := os) (n := nn) (ss := zsI L) (ts := (zsI L).mergeSort fun x y => decide (x ≤ y)) (by simp) hbase hbl (by rw [zsI_len]; exact h1) h2 h3
   rcases hown.2 with ⟨q, _⟩ | ⟨g2, cap2, cur2, q, _, q3, _, _, _, q4⟩
   ·cases q
   ·cases q
    rw [Nat.mul_one, show (zsI L).length = ((zsI L).mergeSort fun x y => decide (x ≤ y)).length by simp] at q4
    exact holds_of_blockI q3 q4
  have HF := hide (And.intro hb3 (And.intro hl3 hH3))
  generalize grow (putRow (Value.int .i64) (Sort.ahead w2 nn) g 0 ((zsI L).mergeSort fun x y => decide (x ≤ y)).toArray) os = w3 at *
  clear hc hrow hbl h4 hH hgr hb3 hl3 hH3 H2
  go_wp2_with fail
  go_ret
  obtain ⟨hb3, hl3, hH3⟩ := unhide HF
  exact ⟨_, rfl, hb3, .inr ⟨g, cap, rfl, h1, hbase, hl3, hH3⟩⟩
def Pl (lo : Nat) (w : World) (r : Value) (l : List Nat) : Prop := ∃ a c, r = .slice a l.length c ∧ ∀ (i p : Nat), l[i]? = some p → ∃ g, a = some ⟨g, 0, none⟩ ∧ lo ≤ g ∧ g < w.heap.size ∧ w.cell? ⟨g, i, none⟩ = some (.int .i64 (p : Int))
theorem compact_any {w0 w : World} {r : Value} {L M : List Nat} (hL : L.length ≤ 2097152) (hs : So w0 w r L) (hM : M.Pairwise (· < ·)) (hm : ∀ x, x ∈ L ↔ x ∈ M) (hb : RowKit.Below w0.heap.size w0 w) :
 Calls Tryz.prog 69 #[r] w fun e w' => ∃ r2, e = .returned r2 ∧ RowKit.Below w0.heap.size w0 w' ∧ Pl w0.heap.size w' r2 M := by
 have hMz : (zsI M).Pairwise (· < ·) := by
  unfold zsI
  rw [List.pairwise_map]
  exact hM.imp fun h => by omega
 have hmz : ∀ x, x ∈ zsI L ↔ x ∈ zsI M := fun x => by simp [zsI, hm]
 rcases hs with ⟨rfl, h0⟩ | ⟨g, cap, rfl, hcap, hg, hgl, hH⟩
 ·subst h0
  have e : M = [] := List.eq_nil_iff_forall_not_mem.2 fun x hx => by have := (hm x).2 hx; cases this
  subst e
  refine (Any.slices_Compact_int_empty Tryz.lays20 none 0 w).mono ?_
  rintro e w' ⟨rfl, rfl⟩
  exact ⟨_, rfl, hb, none, 0, rfl, fun i p h => by simp at h⟩
 ·have hlen : ((zsI L).mergeSort fun x y => decide (x ≤ y)).length = L.length := by simp [zsI_len]
  have hc := Any.slices_Compact_int Tryz.lays20 g 0 cap ((zsI L).mergeSort fun x y => decide (x ≤ y)) w hH (by rw [hlen]; omega) (by rw [hlen]; exact hcap)
  rw [hlen, sorted_once (zsI L) (zsI M) hMz hmz, zsI_len] at hc
  refine Calls.mono hc ?_
  rintro e w' ⟨rfl, q, rfl⟩
  have hml : M.length ≤ L.length := by
   have := sorted_once (zsI L) (zsI M) hMz hmz
   have h2 : (Lib.compact ((zsI L).mergeSort fun x y => decide (x ≤ y))).length ≤ ((zsI L).mergeSort fun x y => decide (x ≤ y)).length := by
    unfold Lib.compact Lib.compactUpTo
    rw [List.length_map]
    refine Nat.le_trans (List.length_filter_le _ _) ?_
    rw [List.length_range]
    exact Nat.le_refl _
   rw [this, hlen, zsI_len] at h2
   exact h2
  have hsz : (zsI M ++ List.replicate (L.length - M.length) 0).toArray.size = ((zsI L).mergeSort fun x y => decide (x ≤ y)).toArray.size := by
   simp [zsI_len, hlen]
   omega
  refine ⟨_, rfl, ?_, some ⟨g, 0, none⟩, cap, rfl, fun i p hp => ⟨g, rfl, hg, by simpa using hgl, ?_⟩⟩
  ·have hgr : w.grownBy (putRow (Value.int .i64) (Sort.ahead w q) g 0 (zsI M ++ List.replicate (L.length - M.length) 0).toArray) (some g) := by
    refine ⟨rfl, rfl, rfl, by simp, fun k hk hne => ?_⟩
    have : g ≠ k := fun e => hne (by rw [e])
    simp [putRow, mapBlock, Sort.ahead, Array.getElem?_modify, this]
   exact hb.grown hgr hb.size (fun j hj => by cases hj; exact hg)
  ·have hil := (List.getElem?_eq_some_iff.1 hp).1
   have := (holds_putRow (Value.int .i64) (Sort.ahead w q) g 0 _ (zsI M ++ List.replicate (L.length - M.length) 0).toArray (holds_ahead _ w q g 0 _ hH) hsz i (by simp [zsI_len]; omega)).1
   rw [Nat.zero_add] at this
   rw [this]
   congr 2
   rw [getElem!_pos _ i (by simp [zsI_len]; omega)]
   rw [List.getElem_toArray, List.getElem_append_left (by rw [zsI_len]; exact hil)]
   obtain ⟨_, rfl⟩ := List.getElem?_eq_some_iff.1 hp
   simp [zsI]
end
section
open Go.RowKit Go.Shelf
theorem op_round {l n : Nat} {P : Program} {o : Oper} {a : Act} {w : World} {K K2 : Act → World → Prop} {Q : Exit → Act → World → Prop} (hd : ∀ c, o.op ≠ .defer c) (hK : ∀ a w, K a w → K2 a w) (h : o.wp P a w K Q) : o.wpIn (Fence.wide.inRound l) n P a w K2 Q := by
 refine ⟨fun _ _ => trivial, ?_⟩
 show o.uponIn _ n P a K2 Q ((o.semAt (some l) a.eval).run P w)
 rw [Oper.semAt_some l _ _ hd]
 unfold Oper.wp at h
 generalize (execOp a.eval o).run P w = r at *
 cases r with
 | ok x w2 =>
   cases x with
   | value v => exact hK _ _ h
   | skip => exact hK _ _ h
   | defer d => exact hK _ _ h
   | enter f args =>
     refine ⟨fun q => (by cases q), CallsIn.inRound l (callsIn_wide.2 (Calls.mono h fun e w3 he => ?_))⟩
     cases e with
     | returned v => exact hK _ _ he
     | panicked c => exact he
     | outgrown => exact he
   | row row args =>
     refine ⟨fun q => (by cases q), fun c cs _ => ?_⟩
     obtain ⟨v, w3, r1, r2⟩ := h c cs
     exact ⟨v, w3, hK _ _ r1, stepsIn_wide.2 r2⟩
   | _ => exact h.elim
 | halt x w2 =>
   cases x with
   | panic v => exact h
   | _ => exact h.elim
theorem any_round {l n : Nat} {P : Program} {md : Region.Mode} {ops : Array Oper} {Q : Exit → Act → World → Prop} (hd : ∀ (i : Nat) (o : Oper), ops[i]? = some o → ∀ c, o.op ≠ Op.defer c) (hL : ¬ LetsOut Q) : ∀ (fuel : Nat) (listed : Array Bool) (a : Act) (w : World), wpAny P md ops Q fuel listed a w → wpAnyIn (Fence.wide.inRound l) n P md ops Q fuel listed a w
 | 0, _, _, _, h => h
 | fuel + 1, listed, a, w, h => by
   refine ⟨h.1, fun i hi => ?_⟩
   have h2 := h.2 i hi
   unfold wpOp at h2
   unfold wpOpIn
   cases ho : ops[i]? with
   | none =>
     rw [ho] at h2
     exact any_round hd hL fuel _ _ _ h2
   | some o =>
     rw [ho] at h2
     simp only at h2 ⊢
     by_cases hw : Region.wanted o (yielded ops a.tmps) = true
     ·rw [if_pos hw] at h2 ⊢
      rcases h2 with h2 | h2
      ·exact op_round (hd i o ho) (fun a w => any_round hd hL fuel _ a w) h2
      ·exact absurd h2.2 hL
     ·rw [if_neg hw] at h2 ⊢
      exact ⟨fun _ _ => trivial, any_round hd hL fuel _ _ _ h2⟩
theorem region_round {l n id : Nat} {P : Program} {ops : Array Oper} {Q : Exit → Act → World → Prop} {a : Act} {w : World} (hm : P.follows .mixedOrders = true) (hd : ∀ (i : Nat) (o : Oper), ops[i]? = some o → ∀ c, o.op ≠ Op.defer c) (hL : ¬ LetsOut Q)
 (h : wpAny P .any ops Q ops.size (Array.replicate ops.size false) a w.drew) : (Code.region id ops true).wpIn (Fence.wide.inRound l) n P Q a w :=
 wpIn_region_any hm (any_round hd hL _ _ _ _ h)
end
section
open Go.RowKit
def Cls (w : World) (v : Value) (cl : List (List At)) : Prop := ∃ a c, v = .slice a cl.length c ∧ (0 < cl.length → ∃ b o, a = some ⟨b, o, none⟩ ∧ b < w.heap.size ∧ ∀ (i : Nat) (al : List At), cl[i]? = some al → ∃ xa xc, w.cell? ⟨b, o + i, none⟩ = some (.slice xa al.length xc) ∧ Ats w (.slice xa al.length xc) al)
theorem cell_later {W W2 : World} {p : Addr} {v : Value} (h : W.cell? p = some v) (hb : Below W.heap.size W W2) : W2.cell? p = some v := by
 have hlt := World.block_lt_of_cell? _ _ h
 exact (hb.cell hlt).trans h
theorem Cls.later {w w' : World} {v : Value} {cl : List (List At)} (h : Cls w v cl) (hb : Below w.heap.size w w') : Cls w' v cl := by
 obtain ⟨a, c, h1, h2⟩ := h
 refine ⟨a, c, h1, fun h0 => ?_⟩
 obtain ⟨b, o, h3, h4, h5⟩ := h2 h0
 refine ⟨b, o, h3, Nat.lt_of_lt_of_le h4 hb.size, fun i al hi => ?_⟩
 obtain ⟨xa, xc, h6, h7⟩ := h5 i al hi
 exact ⟨xa, xc, cell_later h6 hb, h7.later hb⟩
theorem atm_neq (n : ByteArray) (op : Int) (v : ByteArray) (w : World) :
 (binOp .neq 48 (.agg #[.string n, .int .i64 op, .string v]) (.agg #[.string n, .int .i64 op, .string v])).run Tryz.prog w = .ok (.bool false) w := by
 go_simp
theorem Ats.at {w : World} {xa : Option Addr} {n xc : Nat} {al : List At} (h : Ats w (.slice xa n xc) al) {k : Nat} {x : At} (hx : al[k]? = some x) : ∃ b o, xa = some ⟨b, o, none⟩ ∧ b < w.heap.size ∧ w.cell? ⟨b, o + k * 3, none⟩ = some (.string x.n) ∧ w.cell? ⟨b, o + k * 3 + 1, none⟩ = some (.int .i64 x.op) ∧ w.cell? ⟨b, o + k * 3 + 2, none⟩ = some (.string x.v) := by
 obtain ⟨hk, rfl⟩ := List.getElem?_eq_some_iff.1 hx
 obtain ⟨a, c, e, _, h2⟩ := h
 obtain ⟨b, o, h3, h4, h5⟩ := h2 k hk
 cases e
 exact ⟨b, o, h3, h4, h5⟩
set_option maxRecDepth 100000 in
set_option maxHeartbeats 4000000 in
theorem sameClauses_any (cl : List (List At)) (v u : Value) (w : World) (hl : cl.length ≤ 4611686018427387904) (hls : ∀ al ∈ cl, al.length ≤ 4611686018427387904) (h1 : Cls w v cl) (h2 : Cls w u cl) :
 Calls Tryz.prog 62 #[v, u] w fun e w' => e = .returned (.bool true) ∧ Below w.heap.size w w' := by
 obtain ⟨va, vc, rfl, hv⟩ := h1
 obtain ⟨ua, uc, rfl, hu⟩ := h2
 have HV := hide hv
 have HU := hide hu
 have HLS := hide hls
 clear hv hu hls
 obtain ⟨N, hN⟩ : ∃ N, cl.length = N := ⟨_, rfl⟩
 rw [hN] at hl ⊢
 have HN := hide hN
 clear hN
 go_enter Tryz.func62, Tryz.ntmps62
 go_wp2_with fail
 go_loopg [5, 6] N (fun gq vi _ wr => ∃ i : Nat, vi = .int .i64 i ∧ i ≤ N ∧ N - i ≤ gq ∧ Hid (Below w.heap.size w wr))
 case atStart => exact ⟨0, by go_num, by omega, by omega, hide (Below.refl _ _)⟩
 case round =>
  obtain ⟨i, rfl, hi, hg, HB⟩ := hrel
  by_cases hlt : i < N
  ·have hiz : (i : Int) < (N : Int) := by omega
   obtain ⟨b1, o1, rfl, _, hc1⟩ := unhide HV (by have := unhide HN; omega)
   obtain ⟨b2, o2, rfl, _, hc2⟩ := unhide HU (by have := unhide HN; omega)
   obtain ⟨al, hal⟩ : ∃ al, cl[i]? = some al := ⟨_, List.getElem?_eq_getElem (by have := unhide HN; omega)⟩
   obtain ⟨xa, xc, k1, A1⟩ := hc1 i al hal
   obtain ⟨ya, yc, k2, A2⟩ := hc2 i al hal
   have hla := unhide HLS al (List.mem_of_getElem? hal)
   have c1 := cell_later k1 (unhide HB)
   have c2 := cell_later k2 (unhide HB)
   have HK1 := hide k1
   have HK2 := hide k2
   have HA1 := hide A1
   have HA2 := hide A2
   clear hc1 hc2 k1 k2 A1 A2 hal
   obtain ⟨L, hL⟩ : ∃ L, al.length = L := ⟨_, rfl⟩
   rw [hL] at c1 c2 HK1 HK2 HA1 HA2 hla
   have HL := hide hL
   clear hL
   have i0 : (0 : Int) ≤ (i : Int) := by omega
   go_wp2_with fail
   go_quiet (fail)
   have HB1 := hide (bl_t (unhide HB) (bl_drewN wr nq))
   clear c1 c2 HB
   generalize wr.drewN nq = W1 at *
   go_wp2_with fail
   go_loopg [6] L (fun gq vk wr => ∃ k : Nat, vk = .int .i64 k ∧ k ≤ L ∧ L - k ≤ gq ∧ Hid (Below w.heap.size w wr))
   case atStart => exact ⟨0, by go_num, by omega, by omega, HB1⟩
   case round =>
    clear HB1
    obtain ⟨k, rfl, hk, hgk, HB⟩ := hrel
    have c1 := cell_later (unhide HK1) (unhide HB)
    have c2 := cell_later (unhide HK2) (unhide HB)
    by_cases hlk : k < L
    ·have hkz : (k : Int) < (L : Int) := by omega
     obtain ⟨x, hx⟩ : ∃ x, al[k]? = some x := ⟨_, List.getElem?_eq_getElem (by have := unhide HL; omega)⟩
     obtain ⟨p1, q1, rfl, _, d0, d1, d2⟩ := ((unhide HA1).later (unhide HB)).at hx
     obtain ⟨p2, q2, rfl, _, e0, e1, e2⟩ := ((unhide HA2).later (unhide HB)).at hx
     have ce := atm_neq x.n x.op x.v
     clear hx
     generalize x.n = s0 at *
     generalize x.op = s1 at *
     generalize x.v = s2 at *
     have k0 : (0 : Int) ≤ (k : Int) := by omega
     go_wp2_with fail
     go_quiet (fail)
     have HB1 := hide (bl_t (unhide HB) (bl_drewN wr nq))
     clear c1 c2 d0 d1 d2 e0 e1 e2 HB
     generalize wr.drewN nq = W2 at *
     go_wp2_with fail
     go_roundg (L - (k + 1))
     case measure => omega
     case rel => exact ⟨k + 1, by go_num, by omega, by omega, HB1⟩
    ·have hkz : ¬ (k : Int) < (L : Int) := by omega
     go_wp2_with fail
     go_roundg (N - (i + 1))
     case measure => omega
     case rel => exact ⟨i + 1, by go_num, by omega, by omega, HB⟩
  ·go_wp2_with fail
   go_ret
   exact ⟨rfl, unhide HB⟩
end
end Go.Proofs.YtdkpglmdncjnbaaGreatDoor
