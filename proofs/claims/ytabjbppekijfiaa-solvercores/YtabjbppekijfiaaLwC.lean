import Derived.Test.YtabjbppekijfiaaVsG
import Derived.KernelRfl
namespace Go.Proofs.Ytabjbppekijfiaa
open Go.RowKit

def lnA (_ : Nat) : Nat := 2
def LA (_ k : Nat) : Int := if k = 0 then 1 else 2
def fA (_ : Nat) : Int := -1
def PA : Pb := ⟨2, 1, lnA, LA, 1, fA⟩
theorem rsA : Rs PA 9 1 [-1, 2] 3 := by
  refine ⟨2, ⟨[-1, 2], [(0, 0)], 0⟩, 2, ?_, .inl ⟨by kernel_rfl, rfl, by kernel_rfl, by decide⟩⟩
  have p1 : Path PA 1 ⟨[-1], [(0, 0)], 0⟩ (0 + PA.cost []) := .next .zero (by kernel_rfl)
  have p2 : Path PA 2 ⟨[-1, 2], [(0, 0)], 0⟩ (0 + PA.cost [] + PA.cost [-1]) := .next p1 (by kernel_rfl)
  exact p2
def lnB (_ : Nat) : Nat := 1
def LB (i _ : Nat) : Int := if i = 0 then 1 else -1
def fB (_ : Nat) : Int := 0
def PB : Pb := ⟨1, 2, lnB, LB, 0, fB⟩
theorem ffB : PB.ff [1] ≠ -1 := by decide
theorem stB : PB.step ⟨[1], [], 0⟩ = .done 2 := step_none ffB rfl
theorem coB : 4 = 2 + PB.cost [1] := by decide
theorem rs_done {P : Pb} {B k : Nat} {s : Sx} {c : Nat} {v : Int} (hp : Path P k s c) (hs : P.step s = .done v) {S : Nat} (hS : S = c + P.cost s.tr) (hB : S ≤ B) : Rs P B v s.tr S := ⟨k, s, c, hp, .inl ⟨hs, rfl, hS, hB⟩⟩
theorem leB : 4 ≤ 100 := by omega
theorem stB0 : PB.step ⟨[], [], 0⟩ = .next ⟨[1], [], 0⟩ := by kernel_rfl
theorem coB0 : 0 + PB.cost [] = 2 := by decide
theorem rsB : Rs PB 100 2 [1] 4 := by
  have p := Path.next (P := PB) Path.zero stB0
  rw [show 0 + PB.cost (⟨[], [], 0⟩ : Sx).tr = 2 from coB0] at p
  exact rs_done (B := 100) p stB coB leB
theorem probA : prob 2 9 1 lnA LA 1 fA = true := by decide
theorem probB : prob 1 100 2 lnB LB 0 fB = true := by decide
theorem cellA {W : World} {g t : Nat} {cur : Array Value} (h : W.heap[g]? = some (.cells cur t (0, 0))) {k : Nat} {u : Value} (hk : cur[k]? = some u) : W.cell? ⟨g, 0 + k, none⟩ = some u := by rw [Nat.zero_add, (cell_blk h k).1]; exact hk
theorem lay3 (w : World) (a b c : Obj) : (((w.alloc a).alloc b).alloc c).heap[w.heap.size]? = some a ∧ (((w.alloc a).alloc b).alloc c).heap[w.heap.size + 1]? = some b ∧ (((w.alloc a).alloc b).alloc c).heap[w.heap.size + 1 + 1]? = some c ∧ Below w.heap.size w (((w.alloc a).alloc b).alloc c) := by
  have s1 : (w.alloc a).heap.size = w.heap.size + 1 := by simp
  have s2 : ((w.alloc a).alloc b).heap.size = w.heap.size + 1 + 1 := by simp
  refine ⟨?_, ?_, ?_, bl_t (bl_t ((Below.refl _ w).alloc (Nat.le_refl _) _) ((Below.refl _ _).alloc (Nat.le_refl _) _)) ((Below.refl _ _).alloc (Nat.le_refl _) _)⟩
  · rw [heap_old _ _ _ (by omega), heap_old _ _ _ (by omega), heap_new]
  · rw [heap_old _ _ _ (by omega), ← s1, heap_new]
  · rw [← s2, heap_new]
theorem solveA (w : World) : Calls Try.prog 13 #[.int .i64 2, .slice (some ⟨w.heap.size + 1, 0, none⟩) 1 1, .slice (some ⟨w.heap.size + 1 + 1, 0, none⟩) 1 1, .int .i64 9] (((w.alloc (.cells #[.int .i64 1, .int .i64 2] 3)).alloc (.cells #[.slice (some ⟨w.heap.size, 0, none⟩) 2 2] 23)).alloc (.cells #[.int .i64 (-1)] 3))
    fun x w' => ∃ g, x = .returned (.tuple #[.agg #[.int .i64 1, .slice (some ⟨g, 0, none⟩) 2 2, .int .i64 3], .int .i64 0]) ∧ Mw g 2 (mv [-1, 2]) w' ∧ Below w.heap.size w w' := by
  obtain ⟨b1, b2, b3, hb⟩ := lay3 w (.cells #[.int .i64 1, .int .i64 2] 3) (.cells #[.slice (some ⟨w.heap.size, 0, none⟩) 2 2] 23) (.cells #[.int .i64 (-1)] 3)
  have r1 : ∀ k, Ri (((w.alloc (.cells #[.int .i64 1, .int .i64 2] 3)).alloc (.cells #[.slice (some ⟨w.heap.size, 0, none⟩) 2 2] 23)).alloc (.cells #[.int .i64 (-1)] 3)) (some ⟨w.heap.size, 0, none⟩) 2 (LA k) := fun k _ => by
    refine ⟨_, 0, rfl, blk_lt b1, fun i hi => cellA b1 ?_⟩
    rcases (by omega : i = 0 ∨ i = 1) with e | e <;> subst e <;> rfl
  have r2 : Rv (((w.alloc (.cells #[.int .i64 1, .int .i64 2] 3)).alloc (.cells #[.slice (some ⟨w.heap.size, 0, none⟩) 2 2] 23)).alloc (.cells #[.int .i64 (-1)] 3)) (some ⟨w.heap.size + 1, 0, none⟩) 1 (fun _ => .slice (some ⟨w.heap.size, 0, none⟩) 2 2) := fun _ => by
    refine ⟨_, 0, rfl, blk_lt b2, fun i hi => cellA b2 ?_⟩
    obtain rfl : i = 0 := by omega
    rfl
  have r3 : Ri (((w.alloc (.cells #[.int .i64 1, .int .i64 2] 3)).alloc (.cells #[.slice (some ⟨w.heap.size, 0, none⟩) 2 2] 23)).alloc (.cells #[.int .i64 (-1)] 3)) (some ⟨w.heap.size + 1 + 1, 0, none⟩) 1 fA := fun _ => by
    refine ⟨_, 0, rfl, blk_lt b3, fun i hi => cellA b3 ?_⟩
    obtain rfl : i = 0 := by omega
    rfl
  refine (Solve_ok probA (by decide) (by decide) (fun _ _ => by show lnA _ ≤ _; unfold lnA; decide) ⟨fun _ => some ⟨w.heap.size, 0, none⟩, fun _ => 2, r2, fun k _ => r1 k⟩ r3).mono fun x w' hx => ?_
  obtain ⟨v, tr, S, vv, hrs, rfl, hb2, hvv⟩ := hx
  have hs := rsA.same hrs
  obtain ⟨rfl, rfl, htr⟩ := hs
  obtain rfl : tr = [-1, 2] := htr (by decide)
  rcases hvv with ⟨q, _⟩ | ⟨_, g, rfl, _, hm⟩
  · exact absurd rfl q
  · exact ⟨g, rfl, hm, bl_t hb hb2⟩
theorem solveB (w : World) : Calls Try.prog 13 #[.int .i64 1, .slice (some ⟨w.heap.size + 1 + 1, 0, none⟩) 2 2, .slice none 0 0, .int .i64 100] (((w.alloc (.cells #[.int .i64 1] 3)).alloc (.cells #[.int .i64 (-1)] 3)).alloc (.cells #[.slice (some ⟨w.heap.size, 0, none⟩) 1 1, .slice (some ⟨w.heap.size + 1, 0, none⟩) 1 1] 23))
    fun x w' => x = .returned (.tuple #[.agg #[.int .i64 2, .slice none 0 0, .int .i64 4], .int .i64 0]) ∧ Below w.heap.size w w' := by
  obtain ⟨b1, b2, b3, hb⟩ := lay3 w (.cells #[.int .i64 1] 3) (.cells #[.int .i64 (-1)] 3) (.cells #[.slice (some ⟨w.heap.size, 0, none⟩) 1 1, .slice (some ⟨w.heap.size + 1, 0, none⟩) 1 1] 23)
  refine (Solve_ok probB (by decide) (by decide) (fun _ _ => by show lnB _ ≤ _; unfold lnB; decide) ⟨fun k => if k = 0 then some ⟨w.heap.size, 0, none⟩ else some ⟨w.heap.size + 1, 0, none⟩, fun _ => 1, fun _ => ⟨_, 0, rfl, blk_lt b3, fun i hi => cellA b3 (by
      have hi2 : i < 2 := hi
      rcases (by omega : i = 0 ∨ i = 1) with e | e <;> subst e <;> rfl)⟩, fun k hk _ => by
      have hk2 : k < 2 := hk
      rcases (by omega : k = 0 ∨ k = 1) with e | e
      · subst e
        exact ⟨_, 0, rfl, blk_lt b1, fun i hi => cellA b1 (by
          have hi2 : i < 1 := hi
          obtain rfl : i = 0 := by omega
          rfl)⟩
      · subst e
        exact ⟨_, 0, rfl, blk_lt b2, fun i hi => cellA b2 (by
          have hi2 : i < 1 := hi
          obtain rfl : i = 0 := by omega
          rfl)⟩⟩ (Ri.nil _ _)).mono fun x w' hx => ?_
  obtain ⟨v, tr, S, vv, hrs, rfl, hb2, hvv⟩ := hx
  have hs := rsB.same hrs
  obtain ⟨rfl, rfl, _⟩ := hs
  rcases hvv with ⟨_, rfl⟩ | ⟨q, _⟩
  · exact ⟨rfl, bl_t hb hb2⟩
  · exact absurd q (by decide)
set_option maxRecDepth 100000 in
set_option maxHeartbeats 2000000 in
theorem lives_any (w : World) : Calls Try.prog 11 #[] w fun x w' => x = .returned (.bool true) ∧ Below w.heap.size w w' := by
  go_enter Try.func11, Try.ntmps11
  go_upto_region 2 with (go_at_call 13; refine (solveA w).mono ?_; rintro x1 w1 ⟨g, rfl, hm, hb1⟩; have HM := hide hm; have HB1 := hide hb1; clear hm hb1)
  have HA := hide (show (w1.alloc (.cells #[.int .i64 1, .slice (some ⟨g, 0, none⟩) 2 2, .int .i64 3] 29)).heap[w1.heap.size]? = some (.cells #[.int .i64 1, .slice (some ⟨g, 0, none⟩) 2 2, .int .i64 3] 29 (0, 0)) from heap_new _ _)
  have HMA := hide ((unhide HM).later ((Below.refl w1.heap.size w1).alloc (Nat.le_refl _) (.cells #[.int .i64 1, .slice (some ⟨g, 0, none⟩) 2 2, .int .i64 3] 29)))
  have HBA := hide (bl_t (unhide HB1) ((Below.refl w1.heap.size w1).alloc (Nat.le_refl _) (.cells #[.int .i64 1, .slice (some ⟨g, 0, none⟩) 2 2, .int .i64 3] 29)))
  clear HM HB1
  generalize w1.heap.size = ab at *
  generalize w1.alloc (.cells #[.int .i64 1, .slice (some ⟨g, 0, none⟩) 2 2, .int .i64 3] 29) = W1 at *
  go_upto_region 3 with (go_at_call 13; refine (solveB W1).mono ?_; rintro x2 w2 ⟨rfl, hb2⟩; have HB2 := hide hb2; clear hb2)
  have hbz := (Below.refl w2.heap.size w2).alloc (Nat.le_refl _) (.cells #[.int .i64 2, .slice none 0 0, .int .i64 4] 29)
  have HBB := hide (show (w2.alloc (.cells #[.int .i64 2, .slice none 0 0, .int .i64 4] 29)).heap[w2.heap.size]? = some (.cells #[.int .i64 2, .slice none 0 0, .int .i64 4] 29 (0, 0)) from heap_new _ _)
  have HAB := hide (show (w2.alloc (.cells #[.int .i64 2, .slice none 0 0, .int .i64 4] 29)).heap[ab]? = some (.cells #[.int .i64 1, .slice (some ⟨g, 0, none⟩) 2 2, .int .i64 3] 29 (0, 0)) from by
    have hl := blk_lt (unhide HA)
    rw [hbz.block _ (Nat.lt_of_lt_of_le hl (unhide HB2).size), (unhide HB2).block _ hl]
    exact unhide HA)
  have HMB := hide (((unhide HMA).later (unhide HB2)).later hbz)
  have HBW := hide (bl_t (bl_t (unhide HBA) (unhide HB2)) hbz)
  clear HA HMA HBA HB2 hbz
  generalize w2.heap.size = zb at *
  generalize w2.alloc (.cells #[.int .i64 2, .slice none 0 0, .int .i64 4] 29) = W2 at *
  have a0 := (cell_blk (unhide HAB) 0).1
  have a1 := (cell_blk (unhide HAB) 1).1
  have a2 := (cell_blk (unhide HAB) 2).1
  have b0 := (cell_blk (unhide HBB) 0).1
  have b2 := (cell_blk (unhide HBB) 2).1
  simp at a0 a1 a2 b0 b2
  have hal := blk_lt (unhide HAB)
  have hzl := blk_lt (unhide HBB)
  have cB := hide (bools_any 2 (mv [-1, 2]) (some ⟨g, 0, none⟩) (some ⟨W2.heap.size, 0, none⟩) 2 2 (W2.alloc (.cells #[.bool false, .bool true] 4)) (by omega) ((unhide HMB).later ((Below.refl W2.heap.size W2).alloc (Nat.le_refl _) _)).rt (fun _ => ⟨_, 0, rfl, blk_lt (heap_new _ _), fun i hi => cellA (heap_new _ _) (by rcases (by omega : i = 0 ∨ i = 1) with e | e <;> subst e <;> rfl)⟩))
  go_wp2_with (go_at_call 17; refine (unhide cB).mono ?_; rintro x5 w5 ⟨rfl, hb5⟩; have hb6 := bl_t ((Below.refl W2.heap.size W2).alloc (Nat.le_refl _) (.cells #[.bool false, .bool true] 4)) hb5; have a2' := (hb6.cell (p := ⟨ab, 2, none⟩) hal).trans a2; have b0' := (hb6.cell (p := ⟨zb, 0, none⟩) hzl).trans b0; have b2' := (hb6.cell (p := ⟨zb, 2, none⟩) hzl).trans b2; have HB6 := hide hb6; clear hb5 hb6)
  go_ret
  exact ⟨rfl, bl_t (unhide HBW) (unhide HB6)⟩
end Go.Proofs.Ytabjbppekijfiaa
