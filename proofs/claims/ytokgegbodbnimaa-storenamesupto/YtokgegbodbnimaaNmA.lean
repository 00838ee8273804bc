import Derived.Test.YtokgegbodbnimaaPoF
import Derived.Test.YtokgegbodbnimaaShN
import Derived.Sort.KeysCollected
import Derived.Sort.OwnSorted
import Derived.Maps.RangeWalk
import Derived.Maps.AppendAt
namespace Go.Proofs.Ytokgegbodbnimaa
open Go.RowKit Go.Maps Go.Sort

/-- DOES A NAME BEGIN WITH A TEXT? -/
def pre (s p : Nm) : Bool := decide (p.size ≤ s.size) && ((ByteArray.extract s 0 (ByteArray.size p)).toList == ByteArray.toList p)
theorem lite_any (s p : Nm) (W : World) : Calls Try.prog 57 #[.string s, .string p] W fun e w' => e = .returned (.bool (pre s p)) ∧ w' = W := by
  go_enter Try.func57, Try.ntmps57
  by_cases h : p.size ≤ s.size
  · have h1 : (s.size : Int) ≥ (p.size : Int) := by omega
    have e : pre s p = ((ByteArray.extract s 0 (ByteArray.size p)).toList == ByteArray.toList p) := by
      unfold pre
      rw [decide_eq_true h, Bool.true_and]
    rw [e]
    go_wp2
    go_ret
    exact ⟨rfl, rfl⟩
  · have h1 : ¬ (s.size : Int) ≥ (p.size : Int) := by omega
    have e : pre s p = false := by
      unfold pre
      rw [decide_eq_false h, Bool.false_and]
    rw [e]
    go_wp2
    go_ret
    exact ⟨rfl, rfl⟩
theorem HasPrefix_any (s p : Nm) (W : World) : Calls Try.prog 54 #[.string s, .string p] W fun e w' => e = .returned (.bool (pre s p)) ∧ w' = W := by
  have hc := lite_any s p W
  go_enter Try.func54, Try.ntmps54
  go_wp2_with (go_at_call 57; refine hc.mono ?_; rintro e w' ⟨rfl, rfl⟩)
  go_ret
  exact ⟨rfl, rfl⟩
/-- THE NAMES THAT HAVE COME. -/
def Coll (D0 : DataW Value) (p : Nm) (left : Lit → Bool) (ss : List (List UInt8)) : Prop := ss.Nodup ∧ ∀ x, x ∈ ss ↔ (Maps.has D0 (.string x) = true ∧ left (.string x) = false ∧ pre (nmOf x) p = true)
theorem Coll.start (D0 : DataW Value) (p : Nm) : Coll D0 p (Maps.has D0) [] := ⟨List.nodup_nil, fun x => by cases Maps.has D0 (.string x) <;> simp⟩
theorem Coll.yes {D0 : DataW Value} {p : Nm} {left : Lit → Bool} {ss : List (List UInt8)} (h : Coll D0 p left ss) {x : List UInt8} {y : DataW Value} (hlk : left (.string x) = true) (hat : ∀ zd, D0.atKey (.string x) zd = y) (hp : pre (nmOf x) p = true) : Coll D0 p (fun z => left z && !z.sameKey (.string x)) (ss ++ [x]) := by
  have hhas : Maps.has D0 (.string x) = true := has_true_of_atKey hat
  have hnew : x ∉ ss := fun hx => by have := ((h.2 x).1 hx).2.1; rw [hlk] at this; cases this
  refine ⟨List.nodup_append.2 ⟨h.1, by simp, fun a ha b hb => by simp at hb; subst hb; exact fun e => hnew (e ▸ ha)⟩, fun y => ?_⟩
  by_cases hy : y = x
  · subst hy; simp [hhas, hp, Lit.sameKey]
  · simp [h.2 y, hy, Lit.sameKey]
theorem Coll.no {D0 : DataW Value} {p : Nm} {left : Lit → Bool} {ss : List (List UInt8)} (h : Coll D0 p left ss) {x : List UInt8} (hp : pre (nmOf x) p = false) : Coll D0 p (fun z => left z && !z.sameKey (.string x)) ss := by
  refine ⟨h.1, fun y => ?_⟩
  by_cases hy : y = x
  · subst hy; simp [h.2 y, hp]
  · simp [h.2 y, hy, Lit.sameKey]
theorem info9 : (Try.prog.info? 9).map (fun i => (i.zero, i.size, i.bytes)) = some (some (.string ⟨#[]⟩), 1, 16) := by kernel_rfl
theorem ins_nil (w : World) : Calls Try.prog 60 #[.slice none 0 0, .int .i64 0, .int .i64 0] w fun e w' => e = .returned (.tuple #[]) ∧ w' = w := by
  go_enter Try.func60, Try.ntmps60
  go_wp2
  refine wp_loop_rounds 1 ?_
  rw [rounds_succ]
  go_wp2
  go_end0
  exact ⟨rfl, rfl⟩
set_option maxRecDepth 100000 in
theorem pdq_nil (l : Int) (w : World) : Calls Try.prog 58 #[.slice none 0 0, .int .i64 0, .int .i64 0, .int .i64 l] w fun e w' => e = .returned (.tuple #[]) ∧ w' = w := by
  go_enter Try.func58, Try.ntmps58
  go_wp2
  refine wp_loop_rounds 1 ?_
  rw [rounds_succ]
  go_wp2_with (first | (go_at_call 60; refine (ins_nil _).mono ?_; rintro e w' ⟨rfl, rfl⟩))
  refine bodyPost_ret (results_none rfl _ _ _) rfl ?_
  exact ⟨rfl, rfl⟩
set_option maxRecDepth 100000 in
/-- SORTING NONE. -/
theorem sort_nil (w : World) : Calls Try.prog 55 #[.slice none 0 0] w fun e w' => e = .returned (.tuple #[]) ∧ w' = w := by
  go_enter Try.func55, Try.ntmps55
  go_wp2_with (first | (go_at_call 58; refine (pdq_nil _ _).mono ?_; rintro e w' ⟨rfl, rfl⟩) | go_in)
  go_end0
  exact ⟨rfl, rfl⟩
set_option maxRecDepth 100000 in
set_option maxHeartbeats 1000000 in
theorem names_some {W : World} {B o k b : Nat} {cur : Array Value} {D : DataW Value} {p : Nm} (hB : W.heap[B]? = some (.cells cur 75 (0, 0))) (hd : cur[o]? = some (.map (some b))) (hown : W.ownsMap Try.prog 9 raw b k D) (hz : Maps.size D ≤ 4000000000000) :
    Calls Try.prog 47 #[.pointer (some ⟨B, o, none⟩), .string p] W fun e w' => ∃ v left, ∃ ss : List (List UInt8), e = .returned v ∧ Coll D p left ss ∧ (∀ kl, left kl = false) ∧
      w'.ownsRow W.heap.size 9 1 v ss.length ((ss.mergeSort (fun x y => decide (x ≤ y))).map encStr) ∧ (v = .slice none 0 0 ↔ ss = []) ∧ Below W.heap.size W w' := by
  obtain ⟨i0, hi, hz0, hz1, hz2⟩ := info_parts info9
  have hbl := hown.lt
  have cd := (cell_blk hB o).1.trans hd
  go_enter Try.func47, Try.ntmps47
  go_wp2_with (first
    | (at_range; refine wpList_range_own _ rfl _ 70 rfl 9 22 law9 Try.underlying70 _ b k _ rfl hown ?_; intro w0 hrg0 hg0 hs0)
    | go_in)
  go_frame
  go_loopw [5] (fun v wr => ∃ (left : Lit → Bool) (cnt : Nat) (ss : List (List UInt8)), wr.ranges Try.prog 9 raw b W.heap.size k D left cnt ∧ ss.length + cnt ≤ Maps.size D ∧
      wr.ownsRow W.heap.size 9 1 v ss.length (ss.map encStr) ∧ (v = .slice none 0 0 ↔ ss = []) ∧ Coll D p left ss ∧ RowKit.Below W.heap.size W wr)
    (fun _ wr => wr.rangeLeft b W.heap.size)
  case atStart =>
    exact ⟨_, _, [], hrg0, by simp, World.ownsRow_nil _ _ _ _, by simp, Coll.start D p, (Below.refl _ _).grown hg0 (Nat.le_refl _) (fun j hj => by cases hj)⟩
  case round =>
    obtain ⟨left, cnt, ss, hrg, hcs, hrow, hnn, hC, hnx⟩ := hrel
    go_wp2_with (first
      | (at_next; refine wpList_next_ranges _ rfl _ rfl 9 law9 raw encStr (fun c : Value => c) (fun key kl hk => by obtain ⟨x, hx, _⟩ := Maps.keyOf_str Try.underlying9 hk; exact ⟨x, hx⟩) (fun v y _ => ⟨v, rfl⟩) b W.heap.size k _ _ _ rfl hrg ?_ ?_)
      | go_in)
    · intro hc0 hl0
      rcases hrow.2 with ⟨hn0, _⟩ | ⟨g, cap, cur2, rfl, hbase, hb, h1, h2, h3, h4⟩
      · have hv := hn0
        cases hv
        have hss := hnn.1 rfl
        subst hss
        have hc := sort_nil wr
        clear hn0 hnn
        go_wp2_with (first
          | (go_at_call 55; refine hc.mono ?_; rintro e w' ⟨rfl, rfl⟩)
          | go_in)
        go_ret
        exact ⟨.slice none 0 0, left, [], rfl, hC, hl0, by simpa using World.ownsRow_nil w' W.heap.size 9 1, by simp, hnx⟩
      · have hH : Holds encStr wr g 0 ss.toArray := holds_of_block hb (by simpa using h4)
        have hgl : g < wr.heap.size := (Array.getElem?_eq_some_iff.1 hb).1
        have hc := Any.slices_Sort_string Try.lays190 g 0 cap ss wr hH hgl (by omega)
        have hc : Calls Try.prog 55 #[.slice (some ⟨g, 0, none⟩) ss.length cap] wr _ := hc
        go_wp2_with (first
          | (go_at_call 55; refine hc.mono ?_; rintro e w' ⟨rfl, nn, os, rfl⟩)
          | go_in)
        go_ret
        exact ⟨.slice (some ⟨g, 0, none⟩) ss.length cap, left, ss, rfl, hC, hl0, ownsRow_sorted (by simp) hbase hb h1 h2 h3, ⟨fun h => (by cases h), fun h => (by have := hnn.2 h; cases this)⟩, hnx.grown (grownBy_sorted _) hnx.size (fun j hj => by cases hj; exact hbase)⟩
    · intro x c kl2 yd yp w2 cnt2 hkey hlk hv hat hrg2 hlt hg2 hs2 hen
      obtain ⟨x', ex, rfl, hxl⟩ := Maps.keyOf_str Try.underlying9 hkey
      obtain rfl : x = x' := encStr_inj ex
      have hrow2 := hrow.kept hg2 (Or.inr (row_ne_iter hrow hrg).symm)
      have hc := HasPrefix_any (nmOf x) p w2
      have hpx : ∃ t, t = pre (nmOf x) p := ⟨_, rfl⟩
      clear hs2
      obtain ⟨t, ht⟩ := hpx
      rw [← ht] at hc
      have HT := hide ht.symm
      have HX := hide hxl
      clear ht hxl ex hkey
      cases t
      · go_wp2_with (first
          | (go_at_call 54; refine hc.mono ?_; rintro e w' ⟨rfl, rfl⟩)
          | go_in)
        go_roundw
        case rel =>
          exact ⟨_, cnt2, ss, hrg2, by omega, hrow2, hnn, hC.no (unhide HT), hnx.grown hg2 hnx.size (fun j hj => by cases hj; exact Nat.le_refl _)⟩
        case measure => rw [hrg2.left_eq, hrg.left_eq]; exact hlt
      · go_wp2_with (first
          | (go_at_call 54; refine hc.mono ?_; rintro e w' ⟨rfl, rfl⟩)
          | (at_builtin; refine wpList_append_own_at _ rfl _ _ 48 rfl W.heap.size 9 i0 (.string ⟨#[]⟩) 1 16 Try.underlying48 hi hz0 hz1 hz2 rfl (by decide) _ _ _ rfl (hrow2.alloc _) ⟨w'.heap.size, 0, none⟩ 1 1 [encStr x] rfl rfl (cell_one_new _ _ _) (by simp [Value.oneCell', encStr]) (by unfold maxLen at *; omega) (by omega) (by have := hnx.size; have := hg2.size; simp; omega) ?_; intro v' w3 hown' hg3 hnil3 hat3; go_frame)
          | go_in)
        have hrg3 := (hrg2.alloc _).kept hg3 (row_ne_low hrow2 hbl) (row_ne_iter hrow2 hrg2)
        go_roundw
        case rel =>
          refine ⟨_, cnt2, ss ++ [x], hrg3, by simp; omega, by simpa using hown', ⟨fun hv' => by have := (hnil3.1 hv').2; omega, fun h => by simp at h⟩, hC.yes hlk hat (unhide HT), ?_⟩
          exact ((hnx.grown hg2 hnx.size (fun j hj => by cases hj; exact Nat.le_refl _)).alloc (by have := hnx.size; have := hg2.size; omega) _).grown hg3 (by have := hnx.size; have := hg2.size; simp; omega) (fun j hj => (hrow2.lt j hj).1)
        case measure => rw [hrg3.left_eq, hrg.left_eq]; exact hlt
end Go.Proofs.Ytokgegbodbnimaa
