import Derived.Test.YtjnbnndocinicaaGreatDoorWvC
import Derived.Test.YtjnbnndocinicaaGreatDoorShS
import Derived.Sort.OwnSortedInts
import Derived.Lib.SlicesCompact
namespace Go.Proofs.YtjnbnndocinicaaGreatDoor
open Go.RowKit Go.Maps Go.Shelf Go.Sort

theorem cpU (d : Array Int) (hs : ∀ i j, i ≤ j → j < d.size → d[i]! ≤ d[j]!) : ∀ m, m ≤ d.size → (Lib.compactUpTo d m).Pairwise (· < ·) ∧ (∀ x, x ∈ Lib.compactUpTo d m ↔ ∃ j, j < m ∧ d[j]! = x)
  | 0, _ => ⟨List.Pairwise.nil, fun x => by simp [Lib.compactUpTo]⟩
  | m + 1, hm => by
    obtain ⟨h1, h2⟩ := cpU d hs m (by omega)
    have e := Lib.compactUpTo_succ d m
    rw [e]
    by_cases hk : Lib.keeps d m = true
    · rw [if_pos hk]
      refine ⟨List.pairwise_append.2 ⟨h1, List.pairwise_singleton _ _, fun a ha b hb => ?_⟩, fun x => ?_⟩
      · rw [List.mem_singleton] at hb
        subst hb
        obtain ⟨j, hj, rfl⟩ := (h2 a).1 ha
        have l1 := hs j (m - 1) (by omega) (by omega)
        have l2 := hs (m - 1) m (by omega) (by omega)
        have hn : d[m]! ≠ d[m - 1]! := fun e => by
          rw [Lib.keeps_neg (by omega) e] at hk
          cases hk
        omega
      · rw [List.mem_append, h2, List.mem_singleton]
        constructor
        · rintro (⟨j, hj, q⟩ | q)
          · exact ⟨j, by omega, q⟩
          · exact ⟨m, by omega, q.symm⟩
        · rintro ⟨j, hj, q⟩
          by_cases ej : j = m
          · subst ej; exact .inr q.symm
          · exact .inl ⟨j, by omega, q⟩
    · rw [if_neg hk, List.append_nil]
      refine ⟨h1, fun x => ?_⟩
      rw [h2]
      have hm0 : 0 < m := Nat.pos_of_ne_zero fun e => hk (by subst e; exact Lib.keeps_lt_one d 0 (by omega))
      have hq : d[m]! = d[m - 1]! := Classical.byContradiction fun e => hk (Lib.keeps_pos e)
      constructor
      · rintro ⟨j, hj, q⟩; exact ⟨j, by omega, q⟩
      · rintro ⟨j, hj, q⟩
        by_cases ej : j = m
        · subst ej; exact ⟨j - 1, by omega, by rw [← hq]; exact q⟩
        · exact ⟨j, by omega, q⟩
theorem uniq_sorted : ∀ (a b : List Int), a.Pairwise (· < ·) → b.Pairwise (· < ·) → (∀ x, x ∈ a ↔ x ∈ b) → a = b
  | [], [], _, _, _ => rfl
  | [], y :: b, _, _, h => by have := (h y).2 (by simp); simp at this
  | x :: a, [], _, _, h => by have := (h x).1 (by simp); simp at this
  | x :: a, y :: b, ha, hb, h => by
    rw [List.pairwise_cons] at ha hb
    have e : x = y := by
      have hx := (h x).1 (by simp)
      have hy := (h y).2 (by simp)
      rw [List.mem_cons] at hx hy
      rcases hx with hx | hx
      · exact hx
      · rcases hy with hy | hy
        · exact hy.symm
        · have := ha.1 y hy; have := hb.1 x hx; omega
    subst e
    rw [uniq_sorted a b ha.2 hb.2 fun z => ?_]
    constructor
    · intro hz
      have := (h z).1 (by simp [hz])
      rw [List.mem_cons] at this
      rcases this with q | q
      · have := ha.1 z hz; omega
      · exact q
    · intro hz
      have := (h z).2 (by simp [hz])
      rw [List.mem_cons] at this
      rcases this with q | q
      · have := hb.1 z hz; omega
      · exact q
/-- What is sorted and freed of what stands twice. -/
theorem sorted_once (l : List Int) (r : List Int) (hr : r.Pairwise (· < ·)) (h : ∀ x, x ∈ l ↔ x ∈ r) : Lib.compact (l.mergeSort fun x y => decide (x ≤ y)) = r := by
  obtain ⟨s, hs⟩ : ∃ s, s = l.mergeSort fun x y => decide (x ≤ y) := ⟨_, rfl⟩
  have hp : s.Pairwise fun x y => decide (x ≤ y) = true := by
    rw [hs]
    exact List.pairwise_mergeSort (fun a b c h1 h2 => by simp at *; omega) (fun a b => by simp; omega) l
  have hm : ∀ x, x ∈ s ↔ x ∈ l := fun x => by rw [hs]; exact List.mem_mergeSort
  rw [← hs]
  have hd : ∀ i j, i ≤ j → j < s.toArray.size → s.toArray[i]! ≤ s.toArray[j]! := fun i j hij hj => by
    have hj' : j < s.length := by simpa using hj
    rw [getElem!_pos _ i (by simp; omega), getElem!_pos _ j (by simp; omega)]
    by_cases e : i = j
    · subst e; exact Int.le_refl _
    · have := List.pairwise_iff_getElem.1 hp i j (by omega) hj' (by omega)
      simpa using this
  obtain ⟨k1, k2⟩ := cpU s.toArray hd s.length (by simp)
  refine uniq_sorted _ _ k1 hr fun x => ?_
  rw [show Lib.compact s = Lib.compactUpTo s.toArray s.length from rfl, k2, ← h x, ← hm x]
  constructor
  · rintro ⟨j, hj, q⟩
    rw [getElem!_pos _ j (by simp; omega)] at q
    rw [← q]
    simp
  · intro hx
    obtain ⟨j, hj, q⟩ := List.getElem_of_mem hx
    exact ⟨j, hj, by rw [getElem!_pos _ j (by simp; omega)]; simpa using q⟩

def zsI (l : List Nat) : List Int := l.map fun (p : Nat) => (p : Int)
theorem zsI_len (l : List Nat) : (zsI l).length = l.length := by simp [zsI]
theorem ints_zs (l : List Nat) : ints l = (zsI l).map (Value.int .i64) := by simp [ints, zsI]
theorem ins_nil (w : World) : Calls Tryz.prog 62 #[.slice none 0 0, .int .i64 0, .int .i64 0] w fun e w' => e = .returned (.tuple #[]) ∧ w' = w := by
  go_enter Tryz.func62, Tryz.ntmps62
  go_wp2
  refine wp_loop_rounds 1 ?_
  rw [rounds_succ]
  go_wp2
  go_end0
  exact ⟨rfl, rfl⟩
set_option maxRecDepth 100000 in
theorem pdq_nil (l : Int) (w : World) : Calls Tryz.prog 43 #[.slice none 0 0, .int .i64 0, .int .i64 0, .int .i64 l] w fun e w' => e = .returned (.tuple #[]) ∧ w' = w := by
  go_enter Tryz.func43, Tryz.ntmps43
  go_wp2
  refine wp_loop_rounds 1 ?_
  rw [rounds_succ]
  go_wp2_with (first | (go_at_call 62; refine (ins_nil _).mono ?_; rintro e w' ⟨rfl, rfl⟩))
  refine bodyPost_ret (results_none rfl _ _ _) rfl ?_
  exact ⟨rfl, rfl⟩
set_option maxRecDepth 100000 in
/-- SORTING NONE. -/
theorem sort_nil (w : World) : Calls Tryz.prog 29 #[.slice none 0 0] w fun e w' => e = .returned (.tuple #[]) ∧ w' = w := by
  go_enter Tryz.func29, Tryz.ntmps29
  go_wp2_with (first | (go_at_call 43; refine (pdq_nil _ _).mono ?_; rintro e w' ⟨rfl, rfl⟩) | go_in)
  go_end0
  exact ⟨rfl, rfl⟩
/-- WHAT IS SORTED. -/
def So (w w' : World) (r : Value) (L : List Nat) : Prop := (r = .slice none 0 0 ∧ L = []) ∨ ∃ g cap, r = .slice (some ⟨g, 0, none⟩) L.length cap ∧ L.length ≤ cap ∧ w.heap.size ≤ g ∧ g < w'.heap.size ∧ Holds (Value.int .i64) w' g 0 ((zsI L).mergeSort fun x y => decide (x ≤ y)).toArray
set_option maxRecDepth 100000 in
set_option maxHeartbeats 2000000 in
theorem sorted_any {w : World} {f : Value} {L : List Nat} (hL : L.length ≤ 2097152) (h : Calls Tryz.prog 73 #[f] w fun e w' => ∃ r, e = .returned r ∧ w'.ownsRow w.heap.size 3 1 r L.length (ints L) ∧ RowKit.Below w.heap.size w w') :
    Calls Tryz.prog 48 #[f] w fun e w' => ∃ r, e = .returned r ∧ RowKit.Below w.heap.size w w' ∧ So w w' r L := by
  have C := hide h
  clear h
  go_enter Tryz.func48, Tryz.ntmps48
  go_wp2_with (go_at_call 73; refine (unhide C).mono ?_; rintro e w2 ⟨r, rfl, hrow, hb⟩; have H2 := hide (And.intro hrow hb); clear hrow hb C)
  obtain ⟨hrow, hb⟩ := unhide H2
  rcases hrow.2 with ⟨rfl, h0⟩ | ⟨g, cap, cur, rfl, hbase, hbl, h1, h2, h3, h4⟩
  · refine (sort_nil w2).mono ?_
    rintro e w3 ⟨rfl, rfl⟩
    have HE := hide (show L = [] from List.length_eq_zero_iff.1 h0)
    clear hrow h0 H2
    go_wp2_with fail
    go_ret
    exact ⟨_, rfl, hb, .inl ⟨rfl, unhide HE⟩⟩
  · rw [Nat.mul_one, ints_zs, ← zsI_len L] at h4
    have hH : Holds (Value.int .i64) w2 g 0 (zsI L).toArray := holds_of_blockI hbl h4
    have hgl := blk_lt hbl
    have hc := Any.slices_Sort_int Tryz.lays189 g 0 cap (zsI L) w2 hH hgl (by rw [zsI_len]; omega)
    rw [zsI_len] at hc
    have hc : Calls Tryz.prog 29 #[.slice (some ⟨g, 0, none⟩) L.length cap] w2 _ := hc
    refine hc.mono ?_
    rintro e w3 ⟨rfl, nn, os, rfl⟩
    have hgr := grownBy_sortedI (w := w2) (g := g) (n := nn) (os := os) ((zsI L).mergeSort fun x y => decide (x ≤ y)).toArray
    have hb3 := hb.grown hgr hb.size (fun j hj => by cases hj; exact hbase)
    have hl3 : g < (grow (putRow (Value.int .i64) (Sort.ahead w2 nn) g 0 ((zsI L).mergeSort fun x y => decide (x ≤ y)).toArray) os).heap.size := Nat.lt_of_lt_of_le hgl hgr.size
    have hH3 : Holds (Value.int .i64) (grow (putRow (Value.int .i64) (Sort.ahead w2 nn) g 0 ((zsI L).mergeSort fun x y => decide (x ≤ y)).toArray) os) g 0 ((zsI L).mergeSort fun x y => decide (x ≤ y)).toArray := by
      have hown := ownsRow_sortedI (os := os) (n := nn) (ss := zsI L) (ts := (zsI L).mergeSort fun x y => decide (x ≤ y)) (by simp) hbase hbl (by rw [zsI_len]; exact h1) h2 h3
      rcases hown.2 with ⟨q, _⟩ | ⟨g2, cap2, cur2, q, _, q3, _, _, _, q4⟩
      · cases q
      · cases q
        rw [Nat.mul_one, show (zsI L).length = ((zsI L).mergeSort fun x y => decide (x ≤ y)).length by simp] at q4
        exact holds_of_blockI q3 q4
    have HF := hide (And.intro hb3 (And.intro hl3 hH3))
    generalize grow (putRow (Value.int .i64) (Sort.ahead w2 nn) g 0 ((zsI L).mergeSort fun x y => decide (x ≤ y)).toArray) os = w3 at *
    clear hc hrow hbl h4 hH hgr hb3 hl3 hH3 H2
    go_wp2_with fail
    go_ret
    obtain ⟨hb3, hl3, hH3⟩ := unhide HF
    exact ⟨_, rfl, hb3, .inr ⟨g, cap, rfl, h1, hbase, hl3, hH3⟩⟩
/-- PLACES, EACH ONCE, RISING, AS THEY LIE. -/
def Pl (lo : Nat) (w : World) (r : Value) (l : List Nat) : Prop := ∃ a c, r = .slice a l.length c ∧ ∀ (i p : Nat), l[i]? = some p → ∃ g, a = some ⟨g, 0, none⟩ ∧ lo ≤ g ∧ g < w.heap.size ∧ w.cell? ⟨g, i, none⟩ = some (.int .i64 (p : Int))
theorem compact_any {w0 w : World} {r : Value} {L M : List Nat} (hL : L.length ≤ 2097152) (hs : So w0 w r L) (hM : M.Pairwise (· < ·)) (hm : ∀ x, x ∈ L ↔ x ∈ M) (hb : RowKit.Below w0.heap.size w0 w) :
    Calls Tryz.prog 30 #[r] w fun e w' => ∃ r2, e = .returned r2 ∧ RowKit.Below w0.heap.size w0 w' ∧ Pl w0.heap.size w' r2 M := by
  have hMz : (zsI M).Pairwise (· < ·) := by
    unfold zsI
    rw [List.pairwise_map]
    exact hM.imp fun h => by omega
  have hmz : ∀ x, x ∈ zsI L ↔ x ∈ zsI M := fun x => by simp [zsI, hm]
  rcases hs with ⟨rfl, h0⟩ | ⟨g, cap, rfl, hcap, hg, hgl, hH⟩
  · subst h0
    have e : M = [] := List.eq_nil_iff_forall_not_mem.2 fun x hx => by have := (hm x).2 hx; cases this
    subst e
    refine (Any.slices_Compact_int_empty Tryz.lays20 none 0 w).mono ?_
    rintro e w' ⟨rfl, rfl⟩
    exact ⟨_, rfl, hb, none, 0, rfl, fun i p h => by simp at h⟩
  · have hlen : ((zsI L).mergeSort fun x y => decide (x ≤ y)).length = L.length := by simp [zsI_len]
    have hc := Any.slices_Compact_int Tryz.lays20 g 0 cap ((zsI L).mergeSort fun x y => decide (x ≤ y)) w hH (by rw [hlen]; omega) (by rw [hlen]; exact hcap)
    rw [hlen, sorted_once (zsI L) (zsI M) hMz hmz, zsI_len] at hc
    refine Calls.mono hc ?_
    rintro e w' ⟨rfl, q, rfl⟩
    have hml : M.length ≤ L.length := by
      have := sorted_once (zsI L) (zsI M) hMz hmz
      have h2 : (Lib.compact ((zsI L).mergeSort fun x y => decide (x ≤ y))).length ≤ ((zsI L).mergeSort fun x y => decide (x ≤ y)).length := by
        unfold Lib.compact Lib.compactUpTo
        rw [List.length_map]
        refine Nat.le_trans (List.length_filter_le _ _) ?_
        rw [List.length_range]
        exact Nat.le_refl _
      rw [this, hlen, zsI_len] at h2
      exact h2
    have hsz : (zsI M ++ List.replicate (L.length - M.length) 0).toArray.size = ((zsI L).mergeSort fun x y => decide (x ≤ y)).toArray.size := by
      simp [zsI_len, hlen]
      omega
    refine ⟨_, rfl, ?_, some ⟨g, 0, none⟩, cap, rfl, fun i p hp => ⟨g, rfl, hg, by simpa using hgl, ?_⟩⟩
    · have hgr : w.grownBy (putRow (Value.int .i64) (Sort.ahead w q) g 0 (zsI M ++ List.replicate (L.length - M.length) 0).toArray) (some g) := by
        refine ⟨rfl, rfl, rfl, by simp, fun k hk hne => ?_⟩
        have : g ≠ k := fun e => hne (by rw [e])
        simp [putRow, mapBlock, Sort.ahead, Array.getElem?_modify, this]
      exact hb.grown hgr hb.size (fun j hj => by cases hj; exact hg)
    · have hil := (List.getElem?_eq_some_iff.1 hp).1
      have := (holds_putRow (Value.int .i64) (Sort.ahead w q) g 0 _ (zsI M ++ List.replicate (L.length - M.length) 0).toArray (holds_ahead _ w q g 0 _ hH) hsz i (by simp [zsI_len]; omega)).1
      rw [Nat.zero_add] at this
      rw [this]
      congr 2
      rw [getElem!_pos _ i (by simp [zsI_len]; omega)]
      rw [List.getElem_toArray, List.getElem_append_left (by rw [zsI_len]; exact hil)]
      obtain ⟨_, rfl⟩ := List.getElem?_eq_some_iff.1 hp
      simp [zsI]
end Go.Proofs.YtjnbnndocinicaaGreatDoor
