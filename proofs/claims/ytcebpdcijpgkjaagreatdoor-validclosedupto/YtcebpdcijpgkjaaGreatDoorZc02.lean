import Derived.Test.YtcebpdcijpgkjaaGreatDoorZc01
import Derived.RangeFuncNested
import Derived.RangeFuncBound
import Derived.RangeFuncCalls
import Derived.RangeFuncLeaves
import Derived.RangeFuncBox
import Derived.Shelf.Abstract
import Derived.Shelf.RegionOpen
import Derived.WalkKit
import Derived.OwnWalkIn
import Derived.TacticsInMore
import Derived.LoopNIn
import Derived.LoopIn
import Derived.Sort.QuietIn
namespace Go.Proofs.YtcebpdcijpgkjaaGreatDoor
open Go.RowKit

theorem sq_zero (c : Nat → Int) : ∀ n, sq c n = 0 ↔ ∀ i, i < n → c i = 0
  | 0 => ⟨fun _ i h => absurd h (Nat.not_lt_zero _), fun _ => rfl⟩
  | n + 1 => by
    have ih := sq_zero c n
    have e : sq c (n + 1) = if sq c n = 0 then c n else sq c n := rfl
    constructor
    · intro h i hi
      by_cases h0 : sq c n = 0
      · rw [e, if_pos h0] at h
        by_cases hin : i = n
        · rw [hin]; exact h
        · exact ih.1 h0 i (by omega)
      · rw [e, if_neg h0] at h
        exact absurd h h0
    · intro h
      have h0 : sq c n = 0 := ih.2 fun i hi => h i (by omega)
      rw [e, if_pos h0]
      exact h n (Nat.lt_succ_self _)

theorem sq_tail (c : Nat → Int) (B : Nat) (h : ∀ i, B ≤ i → c i = 0) : ∀ n, B ≤ n → sq c n = sq c B
  | 0, hn => by have : B = 0 := by omega
                rw [this]
  | n + 1, hn => by
    by_cases e : B = n + 1
    · rw [e]
    · have ih := sq_tail c B h n (by omega)
      show (if sq c n = 0 then c n else sq c n) = _
      rw [ih]
      split
      · rename_i h0; rw [h0]; exact h n (by omega)
      · rfl

theorem sq_congr (c d : Nat → Int) : ∀ n, (∀ i, i < n → c i = d i) → sq c n = sq d n
  | 0, _ => rfl
  | n + 1, h => by
    show (if sq c n = 0 then c n else sq c n) = if sq d n = 0 then d n else sq d n
    rw [sq_congr c d n fun i hi => h i (by omega), h n (Nat.lt_succ_self _)]

/-- THE COMPARISON OF THE RUNS NUMBER n. -/
def cp (a b : ByteArray) (n : Nat) : Int := if odd n = true then ordNum (runOf a n) (runOf b n) else ordWord (runOf a n) (runOf b n)
def bnd (a b : ByteArray) : Nat := 2 * (a.size + b.size)
def ordPart (a b : ByteArray) : Int := sq (cp a b) (bnd a b)

theorem runOf_end (a : ByteArray) (n : Nat) (h : ia a n = a.size) : (runOf a n).size = 0 := by
  unfold runOf
  rw [ByteArray.size_extract, h]
  omega

theorem ba_empty {s : ByteArray} (h : s.size = 0) : s = nob := by
  have : s.data.toList = [] := List.eq_nil_of_length_eq_zero (by simpa using h)
  apply ByteArray.ext
  apply Array.ext'
  rw [this]; rfl

theorem bytesLess_irrefl : ∀ l : List UInt8, Op.bytesLess l l = false
  | [] => rfl
  | a :: l => by simp [Op.bytesLess, bytesLess_irrefl l]
theorem ci_refl (x : Int) : ci x x = 0 := by unfold ci; rw [if_neg (Int.lt_irrefl x), if_neg (Int.lt_irrefl x)]
theorem cs_refl (x : ByteArray) : cs x x = 0 := by unfold cs; rw [bytesLess_irrefl]; simp
theorem ordNum_refl (x : ByteArray) : ordNum x x = 0 := by unfold ordNum; rw [ci_refl, if_pos rfl, cs_refl]
theorem ordWord_refl (x : ByteArray) : ordWord x x = 0 := by unfold ordWord; rw [sq_zero]; intro i _; exact ci_refl _

theorem cp_end (a b : ByteArray) (n : Nat) (ha : ia a n = a.size) (hb : ia b n = b.size) : cp a b n = 0 := by
  unfold cp
  rw [ba_empty (runOf_end a n ha), ba_empty (runOf_end b n hb)]
  split
  · exact ordNum_refl _
  · exact ordWord_refl _

theorem ia_stays (s : ByteArray) (N : Nat) (h : ia s N = s.size) : ∀ n, N ≤ n → ia s n = s.size
  | 0, hn => by have : N = 0 := by omega
                rw [← this]; exact h
  | n + 1, hn => by
    by_cases e : N = n + 1
    · rw [← e]; exact h
    · have := ia_stays s N h n (by omega)
      have h1 := ia_mono s n
      have h2 := ia_le s (n + 1)
      omega

theorem cp_bnd (a b : ByteArray) (n : Nat) (h : bnd a b ≤ n) : cp a b n = 0 := by
  unfold bnd at h
  exact cp_end a b n (ia_done a n (by omega)) (ia_done b n (by omega))

theorem ordPart_done (a b : ByteArray) (N : Nat) (ha : ia a N = a.size) (hb : ia b N = b.size) (h : sq (cp a b) N = 0) : ordPart a b = 0 := by
  unfold ordPart
  rw [sq_zero]
  intro i _
  by_cases e : i < N
  · exact (sq_zero _ N).1 h i e
  · exact cp_end a b i (ia_stays a N ha i (by omega)) (ia_stays b N hb i (by omega))

theorem ordPart_stop (a b : ByteArray) (N : Nat) (h : sq (cp a b) N ≠ 0) : ordPart a b = sq (cp a b) N := by
  unfold ordPart
  by_cases e : N ≤ bnd a b
  · exact sq_stays _ N h _ e
  · exact (sq_tail _ (bnd a b) (fun i hi => cp_bnd a b i hi) N (by omega)).symm

def cr (dg : Bool) (x : Run2) : Int := if dg = true then ordNum x.1.1 x.1.2 else ordWord x.1.1 x.1.2
def clStep (s : Int × Bool) (x : Run2) : Int × Bool := (if s.1 = 0 then cr s.2 x else s.1, !s.2)
def cl (xs : List Run2) : Int × Bool := xs.foldl clStep (0, false)

theorem cl_snoc (pre : List Run2) (x : Run2) : cl (pre ++ [x]) = clStep (cl pre) x := by
  unfold cl; rw [List.foldl_append]; rfl

theorem cl_upto (a b : ByteArray) (ha : a.size ≤ maxLen) (hb : b.size ≤ maxLen) : ∀ N, cl (upto a b ha hb N) = (sq (cp a b) N, odd N)
  | 0 => rfl
  | N + 1 => by
    rw [upto_succ, cl_snoc, cl_upto a b ha hb N]
    rfl

end Go.Proofs.YtcebpdcijpgkjaaGreatDoor

namespace Go.Proofs.YtcebpdcijpgkjaaGreatDoor
open Go.RowKit Go.Shelf
attribute [local go_sem] Oper.semAt_some

theorem wide_fn (f : FuncId) : Fence.wide.fn f = True := rfl
attribute [local simp] wide_fn
attribute [local go_sem] wide_fn

theorem grown_drewN (w : World) (n : Nat) (row : Option Nat) : w.grownBy (w.drewN n) row := ⟨rfl, rfl, rfl, Nat.le_refl _, fun _ _ _ => rfl⟩

/-- WHAT A ROUND MUST KEEP OF THE TWO CAPTURED TEXTS. -/
def Kc (Ba Bb : Nat) (W W' : World) : Prop := W'.heap[Ba]? = W.heap[Ba]? ∧ W'.heap[Bb]? = W.heap[Bb]?

def bOf : Value → Nat
  | .bool true => 0
  | _ => 1

theorem meas_dec (a b : ByteArray) (N : Nat) (h : ia a N < a.size ∨ ia b N < b.size) :
    2 * (a.size - (intOf (.int .i64 (ia a (N + 1)))).toNat) + 2 * (b.size - (intOf (.int .i64 (ia b (N + 1)))).toNat) + bOf (.bool (odd (N + 1))) <
    2 * (a.size - (intOf (.int .i64 (ia a N))).toNat) + 2 * (b.size - (intOf (.int .i64 (ia b N))).toNat) + bOf (.bool (odd N)) := by
  have a1 := ia_mono a N
  have b1 := ia_mono b N
  have a2 := ia_le a (N + 1)
  have b2 := ia_le b (N + 1)
  have a3 := ia_le a N
  have b3 := ia_le b N
  simp only [intOf, Int.toNat_natCast]
  cases ho : odd N
  · have e1 : odd (N + 1) = true := by show (!odd N) = true; rw [ho]; rfl
    rw [e1]
    show _ + 0 < _ + 1
    omega
  · have e1 : odd (N + 1) = false := by show (!odd N) = false; rw [ho]; rfl
    rw [e1]
    show _ + 1 < _ + 0
    rcases h with h | h
    · have := ia_odd a N ho h
      omega
    · have := ia_odd b N ho h
      omega

abbrev encR (x : Run2) : Array Value := #[.string x.1.1, .string x.1.2]

set_option maxHeartbeats 1000000 in
theorem runs_in (a b : ByteArray) (n : Nat) (w : World) :
    CallsIn Fence.wide n Tryz.prog 157 #[.string a, .string b] w fun e w' => e = .returned (.func (.func 167) #[] #[.pointer (some ⟨w.heap.size, 0, none⟩), .pointer (some ⟨w.heap.size + 1, 0, none⟩)]) ∧ w' = (w.alloc (.cells #[.string a] 9)).alloc (.cells #[.string b] 9) := by
  refine callsIn_of_wp Tryz.func157 rfl trivial ?_ rfl
  simp only [Tryz.ntmps157, List.size_toArray, List.length_cons, List.length_nil, Nat.reduceAdd, Nat.reduceSub, Array.replicate_succ, Array.replicate_zero, List.push_toArray, List.append_toArray, List.nil_append, List.cons_append]
  gi_wp2
  go_ret
  exact ⟨rfl, rfl⟩

set_option maxRecDepth 100000 in
set_option maxHeartbeats 2000000 in
theorem runs1_in (a b : ByteArray) (ha : a.size ≤ maxLen) (hb : b.size ≤ maxLen) (n : Nat) (hn : 1 ≤ n) (l Ba Bb : Nat) (J Jx : List Run2 → World → Prop)
    (hJd : ∀ s W m, J s W → J s (W.drewN m))
    (hY : ∀ pre x W, J pre W → pre.length < 2 * (a.size + b.size) + 1 → YieldAt Fence.wide (n - 1) Tryz.prog l (encR x) W fun e W' =>
      (e = .returned (.bool true) ∧ J (pre ++ [x]) W' ∧ Kc Ba Bb W W') ∨ (e = .returned (.bool false) ∧ Jx (pre ++ [x]) W'))
    (W : World) (hA : W.cell? ⟨Ba, 0, none⟩ = some (.string a)) (hB : W.cell? ⟨Bb, 0, none⟩ = some (.string b)) (h0 : J [] W) :
    CallsIn Fence.wide n Tryz.prog 167 #[.func (.yield l) #[] #[], .pointer (some ⟨Ba, 0, none⟩), .pointer (some ⟨Bb, 0, none⟩)] W fun e W' => (∃ v, e = .returned v) ∧
      ((∃ xs, (∃ N, xs = upto a b ha hb N ∧ ia a N = a.size ∧ ia b N = b.size) ∧ J xs W') ∨ (∃ pre, (∃ N, pre = upto a b ha hb N) ∧ Jx pre W')) := by
  have ha' := ha
  have hb' := hb
  unfold maxLen at ha' hb'
  have cE := hide (fun (s : ByteArray) (hs : s.size ≤ maxLen) (i : Nat) (dg : Bool) (w : World) (hi : i ≤ s.size) => runEnd_any s hs i dg w hi)
  refine callsIn_of_wp Tryz.func167 rfl trivial ?_ rfl
  simp only [Tryz.ntmps167, List.size_toArray, List.length_cons, List.length_nil, Nat.reduceAdd, Nat.reduceSub, Array.replicate_succ, Array.replicate_zero, List.push_toArray, List.append_toArray, List.nil_append, List.cons_append]
  gi_wp2
  gi_loopw [4, 5, 6, 7, 8] (fun dv iv kv _ _ wr => ∃ N : Nat, dv = .bool (odd N) ∧ iv = .int .i64 (ia a N) ∧ kv = .int .i64 (ia b N) ∧ wr.cell? ⟨Ba, 0, none⟩ = some (.string a) ∧ wr.cell? ⟨Bb, 0, none⟩ = some (.string b) ∧ J (upto a b ha hb N) wr)
    (fun dv iv kv _ _ _ => 2 * (a.size - (intOf iv).toNat) + 2 * (b.size - (intOf kv).toNat) + bOf dv)
  case atStart => exact ⟨0, rfl, rfl, rfl, hA, hB, h0⟩
  case round =>
    obtain ⟨N, rfl, rfl, rfl, hA1, hB1, hJ1⟩ := hrel
    have ja := ia_le a N
    have jb := ia_le b N
    by_cases hlt : ia a N < a.size ∨ ia b N < b.size
    · have e1 := endAt_le a _ (odd N) ja
      have e2 := endAt_le b _ (odd N) jb
      have g1 := endAt_ge a (ia a N) (odd N)
      have g2 := endAt_ge b (ia b N) (odd N)
      have hN : N < 2 * (a.size + b.size) + 1 := by
        rcases hlt with h | h
        · have : ¬ 2 * a.size ≤ N := fun h' => by have := ia_done a N h'; omega
          omega
        · have : ¬ 2 * b.size ≤ N := fun h' => by have := ia_done b N h'; omega
          omega
      have hYN : ∀ m, YieldAt Fence.wide (n - 1) Tryz.prog l #[.string (a.extract (ia a N) (endAt a (ia a N) (odd N))), .string (b.extract (ia b N) (endAt b (ia b N) (odd N)))] (wr.drewN m) fun e W' =>
          ∃ bb : Bool, e = .returned (.bool bb) ∧ Hid ((bb = true ∧ J (upto a b ha hb (N + 1)) W' ∧ Kc Ba Bb wr W') ∨ (bb = false ∧ Jx (upto a b ha hb (N + 1)) W')) := by
        intro m
        obtain ⟨fn, tmps, assign, body, hy, hR⟩ := hY (upto a b ha hb N) (pairOf a b ha hb N) (wr.drewN m) (hJd _ _ _ hJ1) (by rw [upto_length]; exact hN)
        refine ⟨fn, tmps, assign, body, hy, hR.mono ?_⟩
        rintro e W' (⟨rfl, h1, h2⟩ | ⟨rfl, h1⟩)
        · exact ⟨true, rfl, hide (.inl ⟨rfl, by rw [upto_succ]; exact h1, h2⟩)⟩
        · exact ⟨false, rfl, hide (.inr ⟨rfl, by rw [upto_succ]; exact h1⟩)⟩
      have HY := hide hYN
      have HJ := hide hJ1
      clear hYN hY hJ1 hN hJd
      by_cases h1 : ia a N < a.size
      · have HLT := hide hlt
        clear hlt
        gi_wp2
        gi_quiet ((gi_at_call 168; refine CallsIn.quiet_of_same (callsIn_wide.2 (runEnd_any _ (by assumption) _ _ _ (by omega)))))
        gi_wp2
        obtain ⟨fn, tmps, assign, body, hy, hR⟩ := unhide HY (nq + 1)
        have HR := hide hR
        clear hR HY
        gi_region_with (refine (unhide HR).mono ?_; rintro e W3 ⟨bb, rfl, hq⟩)
        all_goals
          rcases unhide hq with ⟨rfl, hJ3, hk3⟩ | ⟨rfl, hJx3⟩
          · have hA3 := (World.cell?_of_block (w := wr) (w' := W3) (a := ⟨Ba, 0, none⟩) hk3.1).trans hA1
            have hB3 := (World.cell?_of_block (w := wr) (w' := W3) (a := ⟨Bb, 0, none⟩) hk3.2).trans hB1
            have HJ3 := hide hJ3
            have hk3' := hide hk3
            clear hJ3 hk3 hq HR
            gi_wp2
            go_roundw
            case rel => exact ⟨N + 1, rfl, rfl, rfl, hA3, hB3, unhide HJ3⟩
            case measure => exact meas_dec a b N (unhide HLT)
          · have HJx := hide hJx3
            clear hJx3 hq HR
            gi_wp2
            refine bodyPost_ret (results_none rfl _ _ _) rfl ?_
            exact ⟨⟨_, rfl⟩, .inr ⟨_, ⟨N + 1, rfl⟩, unhide HJx⟩⟩
      · have HLT := hide hlt
        have h2 : ia b N < b.size := by omega
        clear hlt
        gi_wp2
        gi_quiet ((gi_at_call 168; refine CallsIn.quiet_of_same (callsIn_wide.2 (runEnd_any _ (by assumption) _ _ _ (by omega)))))
        gi_wp2
        obtain ⟨fn, tmps, assign, body, hy, hR⟩ := unhide HY (nq + 1)
        have HR := hide hR
        clear hR HY
        gi_region_with (refine (unhide HR).mono ?_; rintro e W3 ⟨bb, rfl, hq⟩)
        all_goals
          rcases unhide hq with ⟨rfl, hJ3, hk3⟩ | ⟨rfl, hJx3⟩
          · have hA3 := (World.cell?_of_block (w := wr) (w' := W3) (a := ⟨Ba, 0, none⟩) hk3.1).trans hA1
            have hB3 := (World.cell?_of_block (w := wr) (w' := W3) (a := ⟨Bb, 0, none⟩) hk3.2).trans hB1
            have HJ3 := hide hJ3
            have hk3' := hide hk3
            clear hJ3 hk3 hq HR
            gi_wp2
            go_roundw
            case rel => exact ⟨N + 1, rfl, rfl, rfl, hA3, hB3, unhide HJ3⟩
            case measure => exact meas_dec a b N (unhide HLT)
          · have HJx := hide hJx3
            clear hJx3 hq HR
            gi_wp2
            refine bodyPost_ret (results_none rfl _ _ _) rfl ?_
            exact ⟨⟨_, rfl⟩, .inr ⟨_, ⟨N + 1, rfl⟩, unhide HJx⟩⟩
    · have h1 : a.size ≤ ia a N := by omega
      have h2 : b.size ≤ ia b N := by omega
      have HJ := hide hJ1
      clear hJ1
      gi_wp2
      go_end0
      exact ⟨⟨_, rfl⟩, .inl ⟨_, ⟨N, rfl, by omega, by omega⟩, unhide HJ⟩⟩

/-- THE RUNS OF TWO PARTS, AS AN ITERATOR. -/
theorem runs_stops (a b : ByteArray) (ha : a.size ≤ maxLen) (hb : b.size ≤ maxLen) (n : Nat) (hn : 1 ≤ n) (Ba Bb : Nat) (w : World) (hBa : Ba < w.heap.size) (hBb : Bb < w.heap.size)
    (hA : w.cell? ⟨Ba, 0, none⟩ = some (.string a)) (hB : w.cell? ⟨Bb, 0, none⟩ = some (.string b)) :
    SeqStopsK Fence.wide n Tryz.prog 167 #[.pointer (some ⟨Ba, 0, none⟩), .pointer (some ⟨Bb, 0, none⟩)] encR (Kc Ba Bb) (fun xs => ∃ N, xs = upto a b ha hb N ∧ ia a N = a.size ∧ ia b N = b.size) (fun pre => ∃ N, pre = upto a b ha hb N) (2 * (a.size + b.size) + 1) w := fun l J Jx W hW hJ _ hY h0 =>
  runs1_in a b ha hb n hn l Ba Bb J Jx (fun s W1 m hs => hJ s W1 (W1.drewN m) none hs (grown_drewN W1 m none) (fun r e => by cases e)) hY W ((hW.cell (p := ⟨Ba, 0, none⟩) hBa).trans hA) ((hW.cell (p := ⟨Bb, 0, none⟩) hBb).trans hB) h0

end Go.Proofs.YtcebpdcijpgkjaaGreatDoor

namespace Go.Proofs.YtcebpdcijpgkjaaGreatDoor
open Go.RowKit Go.Shelf
attribute [local go_sem] Oper.semAt_some
attribute [local simp] wide_fn
attribute [local go_sem] wide_fn

theorem cell_of_box_l {W : World} {B : Nat} {v : Value} {t : TypeId} (h : W.heap[B]? = some (.cells #[v] t (0, 0))) : W.cell? ⟨B, 0, none⟩ = some v ∧ W.frozen? ⟨B, 0, none⟩ = false := by
  constructor <;> simp [World.cell?, World.frozen?, h]
theorem cell_new_l (W : World) (v : Value) (t : TypeId) : (W.alloc (.cells #[v] t)).cell? ⟨W.heap.size, 0, none⟩ = some v ∧ (W.alloc (.cells #[v] t)).frozen? ⟨W.heap.size, 0, none⟩ = false := by
  exact cell_of_box_l (World.alloc_heap_new W _)
theorem cell_alloc_l {W : World} {a : Addr} {v : Value} (o : Obj) (h : W.cell? a = some v) : (W.alloc o).cell? a = some v := cell_kept h (World.grownBy_alloc W o none) (fun r e => by cases e)
theorem frozen_alloc_l {W : World} {a : Addr} {v : Value} (o : Obj) (h : W.cell? a = some v) (hf : W.frozen? a = false) : (W.alloc o).frozen? a = false := (frozen_kept h (World.grownBy_alloc W o none) (fun r e => by cases e)).trans hf

theorem Kc_t {Ba Bb : Nat} {A B C : World} (h : Kc Ba Bb A B) (k : Kc Ba Bb B C) : Kc Ba Bb A C := ⟨k.1.trans h.1, k.2.trans h.2⟩
theorem Kc_b {Ba Bb : Nat} {w : World} (ha : Ba < w.heap.size) (hb : Bb < w.heap.size) (W : World) (l : Nat) (o o' : Obj) (hl : w.heap.size ≤ l) (_h : W.heap[l]? = some o) (_h2 : o.isCells = false) (_h3 : o.isWalk = false) : Kc Ba Bb W (W.putObj l o') := by
  refine ⟨?_, ?_⟩
  · show (W.heap.setIfInBounds l o')[Ba]? = _
    rw [Array.getElem?_setIfInBounds_ne (by omega)]
  · show (W.heap.setIfInBounds l o')[Bb]? = _
    rw [Array.getElem?_setIfInBounds_ne (by omega)]
theorem Kc_set {Ba Bb : Nat} (W : World) (b : Nat) (v : Value) (ha : Ba ≠ b) (hb : Bb ≠ b) : Kc Ba Bb W (W.setCell ⟨b, 0, none⟩ v) :=
  ⟨Below.heap_setCell W ⟨b, 0, none⟩ v Ba ha, Below.heap_setCell W ⟨b, 0, none⟩ v Bb hb⟩

theorem clStep_zero (s : Int × Bool) (x : Run2) (h : s.1 = 0) (hc : cr s.2 x = 0) : (clStep s x).1 = 0 ∧ (clStep s x).2 = !s.2 := by
  unfold clStep; rw [if_pos h]; exact ⟨hc, rfl⟩
theorem clStep_hit (s : Int × Bool) (x : Run2) (h : s.1 = 0) : (clStep s x).1 = cr s.2 x := by
  unfold clStep; rw [if_pos h]

set_option maxRecDepth 100000 in
set_option maxHeartbeats 2000000 in
theorem orderParts_in (a b : ByteArray) (ha : a.size ≤ maxLen) (hb : b.size ≤ maxLen) (n : Nat) (hn : 3 ≤ n) (w : World) :
    CallsIn Fence.wide n Tryz.prog 140 #[.string a, .string b] w fun e W' => e = .returned (.int .i64 (ordPart a b)) ∧ Below w.heap.size w W' := by
  have h1 : 1 ≤ n := by omega
  refine callsIn_of_wp_marks Tryz.func140 rfl trivial ?_ rfl
  simp only [Tryz.ntmps140, List.size_toArray, List.length_cons, List.length_nil, Nat.reduceAdd, Nat.reduceSub, Array.replicate_succ, Array.replicate_zero, List.push_toArray, List.append_toArray, List.nil_append, List.cons_append]
  gi_wp2_with (gi_at_call 157; refine (runs_in _ _ (n - 1) _).mono ?_; rintro e w' ⟨rfl, rfl⟩)
  have c0 := cell_new_l w (.int .i64 0) 3
  have c1 := cell_new_l (w.alloc (.cells #[.int .i64 0] 3)) (.bool false) 4
  have c2 := cell_new_l ((w.alloc (.cells #[.int .i64 0] 3)).alloc (.cells #[.bool false] 4)) (.string a) 9
  have c3 := cell_new_l (((w.alloc (.cells #[.int .i64 0] 3)).alloc (.cells #[.bool false] 4)).alloc (.cells #[.string a] 9)) (.string b) 9
  simp only [World.size_alloc] at c1 c2 c3
  have hB0 : Below w.heap.size w ((((w.alloc (.cells #[.int .i64 0] 3)).alloc (.cells #[.bool false] 4)).alloc (.cells #[.string a] 9)).alloc (.cells #[.string b] 9)) := ((((Below.refl _ w).alloc (Nat.le_refl _) _).alloc (by simp) _).alloc (by simp; omega) _).alloc (by simp; omega) _
  refine wpIn_rangeFunc_ownF rfl h1 (gf := 167) (lb := #[.pointer (some ⟨w.heap.size + 1 + 1, 0, none⟩), .pointer (some ⟨w.heap.size + 1 + 1 + 1, 0, none⟩)]) rfl trivial (enters_of Tryz.func167 (by kernel_rfl) rfl)
    (runs_stops a b ha hb (n - 1) (by omega) (w.heap.size + 1 + 1) (w.heap.size + 1 + 1 + 1) _ (by simp) (by simp) (cell_alloc_l _ c2.1) c3.1) Kc_t (Kc_b (by simp) (by simp)) (Below.refl _ _) (fun _ => rfl)
    (fun pre W => ((cl pre).1 = 0 ∧ W.cell? ⟨w.heap.size, 0, none⟩ = some (.int .i64 0) ∧ W.frozen? ⟨w.heap.size, 0, none⟩ = false ∧ W.cell? ⟨w.heap.size + 1, 0, none⟩ = some (.bool (cl pre).2) ∧ W.frozen? ⟨w.heap.size + 1, 0, none⟩ = false) ∧ Below w.heap.size w W)
    (fun c pre W => (c = .ret ∧ (cl pre).1 ≠ 0 ∧ W.cell? ⟨w.heap.size, 0, none⟩ = some (.int .i64 (cl pre).1)) ∧ Below w.heap.size w W)
    (OwnFrom.and (Own.from (fun s A B row hs hg hr => ⟨hs.1, cell_kept hs.2.1 hg hr, (frozen_kept hs.2.1 hg hr).trans hs.2.2.1, cell_kept hs.2.2.2.1 hg hr, (frozen_kept hs.2.2.2.1 hg hr).trans hs.2.2.2.2⟩) _) (ownFrom_below (Nat.le_refl _) (by simp; omega)))
    (fun c => OwnFrom.and (Own.from (fun s A B row hs hg hr => ⟨hs.1, hs.2.1, cell_kept hs.2.2 hg hr⟩) _) (ownFrom_below (Nat.le_refl _) (by simp; omega)))
    ⟨⟨rfl, cell_alloc_l _ (cell_alloc_l _ (cell_alloc_l _ c0.1)), frozen_alloc_l _ (cell_alloc_l _ (cell_alloc_l _ c0.1)) (frozen_alloc_l _ (cell_alloc_l _ c0.1) (frozen_alloc_l _ c0.1 c0.2)), cell_alloc_l _ (cell_alloc_l _ c1.1), frozen_alloc_l _ (cell_alloc_l _ c1.1) (frozen_alloc_l _ c1.1 c1.2)⟩, hB0⟩
    (fun x => { tmps := #[.string a, .string b, undef, undef, .pointer (some ⟨w.heap.size, 0, none⟩), .pointer (some ⟨w.heap.size + 1, 0, none⟩), .string x.1.1, .string x.1.2, undef, undef, .string a, .string b,
      .func (.func 167) #[] #[.pointer (some ⟨w.heap.size + 1 + 1, 0, none⟩), .pointer (some ⟨w.heap.size + 1 + 1 + 1, 0, none⟩)], .string x.1.1, .string x.1.2, undef, undef, undef, undef, undef, undef, undef, undef, undef, undef], defers := [] }) ?assign ?body ?done ?stop
  case assign =>
    intro l x W K hK
    gi_wp2
    exact hK
  case body =>
    rintro l pre x W ⟨⟨hz, hr0, hf0, hd0, hf1⟩, hB⟩ _
    have hzz := hide (clStep_hit (cl pre) x hz)
    have hzs := hide (clStep_zero (cl pre) x hz)
    have hsn := hide (cl_snoc pre x)
    have cW := hide (fun w => orderWords_any x.1.1 x.1.2 x.2.1 x.2.2 w)
    have cN := hide (fun w => orderNumbers_any x.1.1 x.1.2 x.2.1 x.2.2 w)
    clear hz
    cases hdg : (cl pre).2
    · rw [hdg] at hd0
      have hdH := hide hdg
      clear hdg
      by_cases hc : ordWord x.1.1 x.1.2 = 0
      · have h2 : (ordWord x.1.1 x.1.2 != 0) = false := by simp [hc]
        have HC := hide hc
        clear hc
        gi_wp2_with (refine ⟨fun _ => (by omega), ?_⟩; gi_at_call 158; refine (CallsIn.inRound l (callsIn_wide.2 (unhide cW _))).mono ?_; rintro e w' ⟨rfl, rfl⟩)
        have hq := unhide hzs (by rw [unhide hdH]; exact unhide HC)
        exact ⟨KeepsOthers.setCell _ _ _, Kc_set _ _ _ (by omega) (by omega), ⟨by rw [unhide hsn]; exact hq.1, (World.cell?_setCell_other _ _ _ _ (by simp)).trans hr0, by rw [World.frozen?_setCell]; exact hf0, by rw [unhide hsn, hq.2, unhide hdH]; exact World.cell?_setCell_same' _ _ _ (by rw [hd0]; rfl), by rw [World.frozen?_setCell]; exact hf1⟩, hB.setCell (p := ⟨w.heap.size + 1, 0, none⟩) (by simp) _⟩
      · have h2 : (ordWord x.1.1 x.1.2 != 0) = true := by simpa using hc
        have HC := hide hc
        clear hc
        gi_wp2_with (refine ⟨fun _ => (by omega), ?_⟩; gi_at_call 158; refine (CallsIn.inRound l (callsIn_wide.2 (unhide cW _))).mono ?_; rintro e w' ⟨rfl, rfl⟩)
        have hq : (cl (pre ++ [x])).1 = ordWord x.1.1 x.1.2 := by rw [unhide hsn, unhide hzz, unhide hdH]; rfl
        exact ⟨KeepsOthers.setCell _ _ _, ⟨rfl, by rw [hq]; exact unhide HC, by rw [hq]; exact World.cell?_setCell_same' _ _ _ (by rw [hr0]; rfl)⟩, hB.setCell (p := ⟨w.heap.size, 0, none⟩) (Nat.le_refl _) _⟩
    · rw [hdg] at hd0
      have hdH := hide hdg
      clear hdg
      by_cases hc : ordNum x.1.1 x.1.2 = 0
      · have h2 : (ordNum x.1.1 x.1.2 != 0) = false := by simp [hc]
        have HC := hide hc
        clear hc
        gi_wp2_with (refine ⟨fun _ => (by omega), ?_⟩; gi_at_call 138; refine (CallsIn.inRound l (callsIn_wide.2 (unhide cN _))).mono ?_; rintro e w' ⟨rfl, rfl⟩)
        have hq := unhide hzs (by rw [unhide hdH]; exact unhide HC)
        exact ⟨KeepsOthers.setCell _ _ _, Kc_set _ _ _ (by omega) (by omega), ⟨by rw [unhide hsn]; exact hq.1, (World.cell?_setCell_other _ _ _ _ (by simp)).trans hr0, by rw [World.frozen?_setCell]; exact hf0, by rw [unhide hsn, hq.2, unhide hdH]; exact World.cell?_setCell_same' _ _ _ (by rw [hd0]; rfl), by rw [World.frozen?_setCell]; exact hf1⟩, hB.setCell (p := ⟨w.heap.size + 1, 0, none⟩) (by simp) _⟩
      · have h2 : (ordNum x.1.1 x.1.2 != 0) = true := by simpa using hc
        have HC := hide hc
        clear hc
        gi_wp2_with (refine ⟨fun _ => (by omega), ?_⟩; gi_at_call 138; refine (CallsIn.inRound l (callsIn_wide.2 (unhide cN _))).mono ?_; rintro e w' ⟨rfl, rfl⟩)
        have hq : (cl (pre ++ [x])).1 = ordNum x.1.1 x.1.2 := by rw [unhide hsn, unhide hzz, unhide hdH]; rfl
        exact ⟨KeepsOthers.setCell _ _ _, ⟨rfl, by rw [hq]; exact unhide HC, by rw [hq]; exact World.cell?_setCell_same' _ _ _ (by rw [hr0]; rfl)⟩, hB.setCell (p := ⟨w.heap.size, 0, none⟩) (Nat.le_refl _) _⟩
  case done =>
    rintro D ys W hD ⟨N, rfl, hNa, hNb⟩ ⟨⟨hz, hr0, hf0, _, _⟩, hB⟩ hK
    have hfin := hide (ordPart_done a b N hNa hNb (by rw [cl_upto] at hz; exact hz))
    clear hz hNa hNb
    gi_wp2
    have hK' := (KeepsOthers.setCell W ⟨w.heap.size, 0, none⟩ (.int .i64 0)).same D _ hK rfl
    refine ⟨by simp, .inl ⟨_, _, rfl, run_takeDeferred hK', ?_⟩⟩
    have hc5 := cell_kept (World.cell?_setCell_same' W ⟨w.heap.size, 0, none⟩ (.int .i64 0) (by rw [hr0]; rfl)) (grownBy_putObj' _ D (.deferred none)) (fun r e => by cases e; exact ⟨_, hK', rfl⟩)
    refine ⟨.int .i64 0, ?_, by rw [unhide hfin], (hB.setCell (p := ⟨w.heap.size, 0, none⟩) (Nat.le_refl _) _).trans (belowK_b (w := w) (Nat.le_refl _) _ D _ _ (by simp at hD; omega) hK' rfl rfl)⟩
    simp [results, Tryz.f140, go_sem, hc5]
  case stop =>
    rintro D c pre W hD ⟨N, rfl⟩ ⟨⟨rfl, hne, hr0⟩, hB⟩ hK
    rw [cl_upto] at hne hr0
    have hfin := hide (ordPart_stop a b N hne)
    gi_wp2
    refine ⟨by simp, .inl ⟨_, _, rfl, run_takeDeferred hK, ?_⟩⟩
    have hc5 := cell_kept hr0 (grownBy_putObj' _ D (.deferred none)) (fun r e => by cases e; exact ⟨_, hK, rfl⟩)
    refine ⟨.int .i64 (sq (cp a b) N), ?_, by rw [unhide hfin], hB.trans (belowK_b (w := w) (Nat.le_refl _) W D _ _ (by simp at hD; omega) hK rfl rfl)⟩
    simp [results, Tryz.f140, go_sem, hc5]

theorem orderParts_any (a b : ByteArray) (ha : a.size ≤ maxLen) (hb : b.size ≤ maxLen) (w : World) :
    Calls Tryz.prog 140 #[.string a, .string b] w fun e W' => e = .returned (.int .i64 (ordPart a b)) ∧ Below w.heap.size w W' :=
  (callsIn_wide (n := 3)).1 (orderParts_in a b ha hb 3 (Nat.le_refl _) w)

end Go.Proofs.YtcebpdcijpgkjaaGreatDoor

namespace Go.Proofs.YtcebpdcijpgkjaaGreatDoor
open Go.RowKit

theorem ret_i64 {a b : Int} (h : a = b) : Ending.returned (.int .i64 a) = .returned (.int .i64 b) := by rw [h]
set_option maxHeartbeats 1000000 in
theorem checkParts_any (e u r : ByteArray) (c d : Bool) (w : World) (he : e.size ≤ maxLen) (hu : u.size ≤ maxLen) (hr : r.size ≤ maxLen) :
    Calls Tryz.prog 137 #[.agg #[.string e, .string u, .string r, .bool c, .bool d]] w fun x w' => x = .returned (.int .i64 (chk e u r c d)) ∧ Below w.heap.size w w' := by
  have hsz : u.toList.isEmpty = false → 0 < u.size := by
    intro h
    have : u.toList ≠ [] := by intro h'; simp [h'] at h
    rw [Lib.toList_data] at this
    have := List.length_pos_iff.2 this
    simpa using this
  cases h1 : u.toList.isEmpty
  · have h0 := hsz h1
    have hb0 := b0_eq u h0
    clear hsz
    cases hd : isDig (b0 u)
    all_goals
      have HD := hide hd
      rw [hb0] at hd
      clear hb0
    all_goals cases h2 : e.toList.isEmpty <;> cases h3 : allB (kind 152) e <;> cases c <;> cases d
    all_goals
      go_enter Tryz.func137, Tryz.ntmps137
      go_wp2_with (first | (go_at_call 152; refine (isDigit_any _ _).mono ?_; rintro e w' ⟨rfl, rfl⟩) | (go_at_call 151; refine (consists_any _ _ (by decide) _ (by assumption)).mono ?_; rintro e w' ⟨rfl, rfl⟩))
    all_goals go_ret
    all_goals exact ⟨ret_i64 (by simp [chk, unhide HD, *]), (Below.refl _ _).alloc (Nat.le_refl _) _⟩
  · go_enter Tryz.func137, Tryz.ntmps137
    go_wp2
    go_ret
    exact ⟨ret_i64 (by simp [chk, h1]), (Below.refl _ _).alloc (Nat.le_refl _) _⟩

end Go.Proofs.YtcebpdcijpgkjaaGreatDoor

