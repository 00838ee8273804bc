import Derived.Test.YtjflnpcpnoccjaaTkB
import Derived.Test.YtjflnpcpnoccjaaTkD
import Derived.Test.YtjflnpcpnoccjaaTkE
import Derived.Test.YtjflnpcpnoccjaaTjY
namespace Go.Proofs.Ytjflnpcpnoccjaa
open Go.RowKit Go.Shelf
attribute [local go_sem] Oper.semAt_some
attribute [local simp] wide_fn
attribute [local go_sem] wide_fn

theorem bwE_snoc (N : Nat) (ln : Nat → Nat) (L : Nat → Nat → Int) (pre : List (Ky N)) (x : Ky N) : bwE N ln L (pre ++ [x]) = bwE N ln L pre ++ (match bk N ln L x with | none => [] | some p => [p]) := by
  unfold bwE
  rw [List.filterMap_append]
  cases h : bk N ln L x <;> simp [h]
theorem bwE_le (N : Nat) (ln : Nat → Nat) (L : Nat → Nat → Int) (pre : List (Ky N)) : (bwE N ln L pre).length ≤ pre.length := List.length_filterMap_le _ _
theorem bk_no {N : Nat} {ln : Nat → Nat} {L : Nat → Nat → Int} {e : Ky N} (h : pn N ln L e.1.1 = pn N ln L e.1.2) : bk N ln L e = none := by
  unfold bk
  simp [h]

theorem yieldAt_any {m m2 l : Nat} {P : Program} {args : Array Value} {W : World} {R : Ending → World → Prop} (h : YieldAt Fence.wide m P l args W R) : YieldAt Fence.wide m2 P l args W R := by
  obtain ⟨fn, tmps, assign, body, h1, h2⟩ := h
  exact ⟨fn, tmps, assign, body, h1, h2.1, fun c cs _ => h2.2 c cs (fun _ h => by cases h)⟩

set_option maxRecDepth 100000 in
set_option maxHeartbeats 8000000 in
/-- between's ITERATOR: the edges from one part to another, each given on. -/
theorem between1_net {N : Nat} {ln : Nat → Nat} {L : Nat → Nat → Int} (hr : rgt N ln L = true) (hN : N ≤ 1048576) (hln : ∀ k, k < N → ln k ≤ 1048576) (n : Nat) (hn : 4 ≤ n) (Bn Bd g : Nat) {na : Option Addr} {nc : Nat} {w : World} (hBn : w.cell? ⟨Bn, 0, none⟩ = some (.slice na N nc)) (hBd : w.cell? ⟨Bd, 0, none⟩ = some (.slice (some ⟨g, 0, none⟩) N N)) (hR : Rr w na N ln L) (hRi : Ri w (some ⟨g, 0, none⟩) N (fun j => (pn N ln L j : Int))) :
    SeqNet n 75 #[.pointer (some ⟨Bn, 0, none⟩), .pointer (some ⟨Bd, 0, none⟩)] (pc N ln L) (bwE N ln L (uptE N ln L N 0)) 1099511627776 w := by
  intro l J W1 hb hl hJB hJO hJR hY h0
  have h1n : 1 ≤ n := by omega
  obtain ⟨W2, hW2⟩ : ∃ W, W = W1.alloc (.cells #[.func (.yield l) #[] #[]] 82) := ⟨_, rfl⟩
  obtain ⟨W3, hW3⟩ : ∃ W, W = W2.alloc (.cells #[.slice na N nc] 22) := ⟨_, rfl⟩
  have hz2 : W2.heap.size = W1.heap.size + 1 := by rw [hW2]; simp
  have hz3 : W3.heap.size = W1.heap.size + 2 := by rw [hW3]; simp [hz2]
  have hb2 : Below W1.heap.size W1 W2 := by rw [hW2]; exact al _ _
  have hb3 : Below W1.heap.size W1 W3 := by refine bl_t hb2 ?_; rw [hW3]; exact al _ _
  have hBn2 : W2.cell? ⟨Bn, 0, none⟩ = some (.slice na N nc) := by
    have q := hb.trans (hb2.mono hb.size)
    exact (q.cell (p := ⟨Bn, 0, none⟩) (World.block_lt_of_cell? _ _ hBn)).trans hBn
  have hy3 : W3.heap[W1.heap.size]? = some (.cells #[.func (.yield l) #[] #[]] 82 (0, 0)) := by
    have q : W2.heap[W1.heap.size]? = some (.cells #[.func (.yield l) #[] #[]] 82 (0, 0)) := by rw [hW2]; exact heap_new _ _
    rw [hW3]
    exact ((al W2 _).block _ (by omega)).trans q
  have he3 : W3.heap[W1.heap.size + 1]? = some (.cells #[.slice na N nc] 22 (0, 0)) := by
    rw [hW3, ← hz2]; exact heap_new _ _
  have hJ3 : J (W1.heap.size + 2, []) W3 := by
    refine hJR W1.heap.size _ _ ?_ (by omega) (by omega)
    have q : J (W1.heap.size, []) W2 := by rw [hW2]; exact hJO.alloc _ h0
    rw [hW3]
    exact hJO.alloc _ q
  have c1 := hide (edges_in N na nc (n - 1) W2)
  rw [← hW3] at c1
  have hBnx : (W1.alloc (.cells #[.func (.yield l) #[] #[]] 82)).cell? ⟨Bn, 0, none⟩ = some (.slice na N nc) := by rw [← hW2]; exact hBn2
  have HW2 := hide hW2
  have HBD := hide hBd
  have HY3 := hide hy3
  have HE3 := hide he3
  have HZ3 := hide hz3
  have HB3 := hide hb3
  have HJ3 := hide hJ3
  have HZ2 := hide hz2
  have HB := hide hb
  have HR := hide hR
  have HRI := hide hRi
  have HJB := hide hJB
  have HJO := hide hJO
  have HY := hide hY
  have HW3 := hide hW3
  clear h0 hBn hBd hb2 hR hRi hW3 hJR hW2 hBn2 hy3 he3 hz3 hb3 hJ3 hz2 hJB hJO hY hb
  refine callsIn_of_wp_marks Try.func75 rfl trivial ?_ rfl
  simp only [Try.ntmps75, List.size_toArray, List.length_cons, List.length_nil, Nat.reduceAdd, Nat.reduceSub, Array.replicate_succ, Array.replicate_zero, List.push_toArray, List.append_toArray, List.nil_append, List.cons_append]
  gi_wp2_with (gi_at_call 61; rw [← unhide HW2]; refine (unhide c1).mono ?_; rintro e w1 ⟨rfl, hw1⟩; rw [hw1]; clear hw1 w1)
  refine rangeFunc_net (α := Ky N) (σ := List (Ky N)) (encs := encK (n := N)) rfl h1n (gf := 70) (lb := #[.pointer (some ⟨W2.heap.size, 0, none⟩)]) rfl trivial (enters_of Try.func70 (by kernel_rfl) rfl) (fun _ => rfl)
    (fun pre W => J (W1.heap.size + 2, bwE N ln L pre) W ∧ W.heap[W1.heap.size]? = some (.cells #[.func (.yield l) #[] #[]] 82 (0, 0)))
    (fun pre x => x.1.1 < N ∧ pre.length < 1099511627776) (fun pre x => pre ++ [x]) (fun _ _ _ => True) (fun pre => pre = uptE N ln L N 0) ?a1
    (fun s A B row hs hg hr => ⟨unhide HJO _ A B row hs.1 hg (fun r e => ⟨by have := (hr r e).1; have := unhide HZ3; omega, (hr r e).2⟩), (cells_kept hg (fun r e => (hr r e).2) _ _ _ hs.2).trans hs.2⟩)
    (fun _ _ _ _ _ _ _ _ => trivial) ?assign ?body ?seq ?done
  case assign =>
    intro l x W K hK
    gi_wp2
    exact hK
  case seq =>
    intro rc W9 J2 hW9 hJ2 hY2
    have hb9 : Below W3.heap.size W3 W9 := by rw [hW9]; exact bl_t (al _ _) (al _ _)
    refine (edges1_net hr hN hln (n - 1) (by omega) (W3.heap.size + 1) W2.heap.size (nc := nc) (unhide HR) J2 (fun pre W h => ?_) (fun pre x W hx hl2 hj => ?_) W9 ?_ ?_).mono ?_
    · rw [hJ2] at h
      exact unhide HJB _ _ h.1.1
    · exact (hY2 pre x W ⟨hx, hl2⟩ hj).mono fun e w2 h => ⟨h.1, h.2.1⟩
    · rw [unhide HZ2]
      exact (cell_blk ((hb9.block _ (by have := unhide HZ3; omega)).trans (unhide HE3)) 0).1
    · rw [hJ2]
      refine ⟨⟨?_, ?_⟩, ?_, ?_⟩
      · have q := unhide HJO _ W3 W9 none (unhide HJ3) (by rw [hW9]; exact (World.grownBy_alloc _ _ none).trans (World.grownBy_alloc _ _ none)) (fun r e => by cases e)
        exact q
      · exact (hb9.block _ (by have := unhide HZ3; omega)).trans (unhide HY3)
      · rw [hW9]; have := World.alloc_heap_new (W3.alloc (.deferred (some []))) (.loop rc); rwa [World.size_alloc] at this
      · rw [hW9]; exact (Below.heap_alloc _ _ _ (by simp)).trans (World.alloc_heap_new W3 _)
    · rintro e W5 ⟨hv, hj⟩
      exact ⟨hv, _, rfl, hj⟩
  case done =>
    rintro D pre W hD hS ⟨hj, -⟩ hK
    have hS2 : pre = uptE N ln L N 0 := hS
    subst hS2
    have hD2 : W1.heap.size ≤ D := by have := unhide HZ3; omega
    have HJX := hide (OwnFrom.putObj (unhide HJO) (.deferred none) hj hD2 hK rfl)
    gi_wp2
    refine ⟨by simp, .inl ⟨_, _, rfl, run_takeDeferred hK, ?_⟩⟩
    exact ⟨_, results_none rfl _ _ _, ⟨_, rfl⟩, _, Nat.le_add_right _ 2, unhide HJX⟩
  case body =>
    rintro l2 pre ⟨⟨u, v⟩, hu9, hv⟩ W ⟨hu, hlen⟩ ⟨hj, hbx⟩
    have hu : u < N := hu
    have hv : v < N := hv
    have hbw := unhide HJB _ _ hj
    have hd : W.cell? ⟨Bd, 0, none⟩ = some (.slice (some ⟨g, 0, none⟩) N N) := (hbw.cell (p := ⟨Bd, 0, none⟩) (World.block_lt_of_cell? _ _ (unhide HBD))).trans (unhide HBD)
    have hy : W.cell? ⟨W1.heap.size, 0, none⟩ = some (.func (.yield l) #[] #[]) := (cell_blk hbx 0).1
    have hri := (unhide HRI).later hbw
    have hcu : W.cell? ⟨g, u, none⟩ = some (.int .i64 (pn N ln L u : Int)) := by
      obtain ⟨b, o, e, _, h⟩ := hri.at hu
      cases e
      simpa [iv] using h
    have hcv : W.cell? ⟨g, v, none⟩ = some (.int .i64 (pn N ln L v : Int)) := by
      obtain ⟨b, o, e, _, h⟩ := hri.at hv
      cases e
      simpa [iv] using h
    have hJd : J (W1.heap.size + 2, bwE N ln L pre) W.drew := unhide HJO _ W W.drew none hj ⟨rfl, rfl, rfl, Nat.le_refl _, fun _ _ _ => rfl⟩ (fun r e => by cases e)
    have hlb := bwE_le N ln L pre
    have hun : (u : Int) < (N : Int) := by omega
    have hvn : (v : Int) < (N : Int) := by omega
    by_cases hne : pn N ln L u = pn N ln L v
    · have hnb : ((pn N ln L u : Int) != (pn N ln L v : Int)) = false := by rw [hne]; simp
      have HEQ := hide (show bwE N ln L (pre ++ [⟨(u, v), hu9, hv⟩]) = bwE N ln L pre from by
        rw [bwE_snoc, bk_no (by exact hne)]
        simp)
      have HJD := hide hJd
      have HBX := hide hbx
      clear hJd hbx hj hbw hri hne hlb
      generalize pn N ln L u = pu at *
      generalize pn N ln L v = pv at *
      gi_wp2
      refine regionin_round (by kernel_rfl) ?hdA (rg75e ?hQA hd hcu hcv hun hvn hnb ?hKA)
      case hdA =>
        intro i o ho c
        match i, ho with
        | 0, ho => cases ho; intro h; cases h
        | 1, ho => cases ho; intro h; cases h
        | 2, ho => cases ho; intro h; cases h
        | 3, ho => cases ho; intro h; cases h
        | 4, ho => cases ho; intro h; cases h
        | 5, ho => cases ho; intro h; cases h
        | 6, ho => cases ho; intro h; cases h
        | 7, ho => cases ho; intro h; cases h
        | 8, ho => cases ho; intro h; cases h
        | 9, ho => cases ho; intro h; cases h
        | 10, ho => cases ho; intro h; cases h
        | 11, ho => cases ho; intro h; cases h
        | 12, ho => cases ho; intro h; cases h
        | 13, ho => cases ho; intro h; cases h
        | 14, ho => cases ho; intro h; cases h
        | 15, ho => cases ho; intro h; cases h
        | 16, ho => cases ho; intro h; cases h
        | 17, ho => cases ho; intro h; cases h
        | 18, ho => cases ho; intro h; cases h
        | 19, ho => cases ho; intro h; cases h
        | 20, ho => cases ho; intro h; cases h
        | 21, ho => cases ho; intro h; cases h
        | 22, ho => cases ho; intro h; cases h
        | 23, ho => cases ho; intro h; cases h
        | 24, ho => cases ho; intro h; cases h
        | 25, ho => cases ho; intro h; cases h
        | (j + 26), ho => simp at ho
      case hQA => exact fun _ _ _ _ h => h
      case hKA =>
        gi_wp2
        refine ⟨KeepsOthers.drew W, trivial, ?_, unhide HBX⟩
        rw [unhide HEQ]
        exact unhide HJD
    · have hnb : ((pn N ln L u : Int) != (pn N ln L v : Int)) = true := by simp; omega
      obtain ⟨hp, ebk⟩ := bk_is (N := N) (ln := ln) (L := L) (e := ⟨(u, v), hu9, hv⟩) hN hu hne
      have HEQ := hide (show bwE N ln L (pre ++ [⟨(u, v), hu9, hv⟩]) = bwE N ln L pre ++ [⟨(pn N ln L u, pn N ln L v), hp⟩] from by
        rw [bwE_snoc, ebk])
      have hyy := (yieldAt_any (m2 := n - 1 - 1 - 1) (unhide HY (W1.heap.size + 2, bwE N ln L pre) ⟨(pn N ln L u, pn N ln L v), hp⟩ W.drew (Nat.le_add_right _ 2) (Nat.lt_of_le_of_lt hlb hlen) hJd)).mono (R' := fun e W' => ∃ b, e = .returned (.bool b) ∧ (b = true ∧ J (W1.heap.size + 2, bwE N ln L (pre ++ [⟨(u, v), hu9, hv⟩])) W' ∧ KeepsOthers W.drew W' ∧ W'.heap[W1.heap.size]? = some (.cells #[.func (.yield l) #[] #[]] 82 (0, 0)))) (fun e W' h => ⟨true, h.1, rfl, by rw [unhide HEQ]; exact h.2.1, h.2.2.1, (h.2.2.2 _ (Nat.le_refl _) (by show _ < W1.heap.size + 2; omega)).trans hbx⟩)
      clear hJd hbx hj hbw hri hne hlb ebk
      have HYY := hide hyy
      clear hyy
      gi_wp2
      refine regionin_round (by kernel_rfl) ?hdB (rg75 ?hQB hd hy hcu hcv hun hvn hnb (unhide HYY) ?hKB)
      case hdB =>
        intro i o ho c
        match i, ho with
        | 0, ho => cases ho; intro h; cases h
        | 1, ho => cases ho; intro h; cases h
        | 2, ho => cases ho; intro h; cases h
        | 3, ho => cases ho; intro h; cases h
        | 4, ho => cases ho; intro h; cases h
        | 5, ho => cases ho; intro h; cases h
        | 6, ho => cases ho; intro h; cases h
        | 7, ho => cases ho; intro h; cases h
        | 8, ho => cases ho; intro h; cases h
        | 9, ho => cases ho; intro h; cases h
        | 10, ho => cases ho; intro h; cases h
        | 11, ho => cases ho; intro h; cases h
        | 12, ho => cases ho; intro h; cases h
        | 13, ho => cases ho; intro h; cases h
        | 14, ho => cases ho; intro h; cases h
        | 15, ho => cases ho; intro h; cases h
        | 16, ho => cases ho; intro h; cases h
        | 17, ho => cases ho; intro h; cases h
        | 18, ho => cases ho; intro h; cases h
        | 19, ho => cases ho; intro h; cases h
        | 20, ho => cases ho; intro h; cases h
        | 21, ho => cases ho; intro h; cases h
        | 22, ho => cases ho; intro h; cases h
        | 23, ho => cases ho; intro h; cases h
        | 24, ho => cases ho; intro h; cases h
        | 25, ho => cases ho; intro h; cases h
        | (j + 26), ho => simp at ho
      case hQB => exact fun _ _ _ _ h => h
      case hKB =>
        rintro b W5 ⟨rfl, h1, h2, h3⟩
        gi_wp2
        exact ⟨(KeepsOthers.drew W).trans h2, trivial, h1, h3⟩
end Go.Proofs.Ytjflnpcpnoccjaa
