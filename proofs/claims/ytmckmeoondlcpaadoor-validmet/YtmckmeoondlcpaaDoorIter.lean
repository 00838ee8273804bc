import Derived.Test.YtmckmeoondlcpaaDoorRuns
import Derived.RangeFuncNested
import Derived.RangeFuncBound
import Derived.RangeFuncCalls
import Derived.RangeFuncLeaves
import Derived.RangeFuncBox
import Derived.Shelf.Abstract
import Derived.Shelf.RegionOpen
import Derived.WalkKit
import Derived.OwnWalkIn
import Derived.TacticsInMore
import Derived.LoopNIn
import Derived.LoopIn
import Derived.Sort.QuietIn
namespace Go.Proofs.YtmckmeoondlcpaaDoor
open Go.RowKit Go.Shelf
attribute [local go_sem] Oper.semAt_some

theorem wide_fn (f : FuncId) : Fence.wide.fn f = True := rfl
attribute [local simp] wide_fn
attribute [local go_sem] wide_fn

theorem grown_drewN (w : World) (n : Nat) (row : Option Nat) : w.grownBy (w.drewN n) row := ⟨rfl, rfl, rfl, Nat.le_refl _, fun _ _ _ => rfl⟩

/-- WHAT A ROUND MUST KEEP OF THE TWO CAPTURED TEXTS. -/
def Kc (Ba Bb : Nat) (W W' : World) : Prop := W'.heap[Ba]? = W.heap[Ba]? ∧ W'.heap[Bb]? = W.heap[Bb]?

def bOf : Value → Nat
  | .bool true => 0
  | _ => 1

theorem meas_dec (a b : ByteArray) (N : Nat) (h : ia a N < a.size ∨ ia b N < b.size) :
    2 * (a.size - (intOf (.int .i64 (ia a (N + 1)))).toNat) + 2 * (b.size - (intOf (.int .i64 (ia b (N + 1)))).toNat) + bOf (.bool (odd (N + 1))) <
    2 * (a.size - (intOf (.int .i64 (ia a N))).toNat) + 2 * (b.size - (intOf (.int .i64 (ia b N))).toNat) + bOf (.bool (odd N)) := by
  have a1 := ia_mono a N
  have b1 := ia_mono b N
  have a2 := ia_le a (N + 1)
  have b2 := ia_le b (N + 1)
  have a3 := ia_le a N
  have b3 := ia_le b N
  simp only [intOf, Int.toNat_natCast]
  cases ho : odd N
  · have e1 : odd (N + 1) = true := by show (!odd N) = true; rw [ho]; rfl
    rw [e1]
    show _ + 0 < _ + 1
    omega
  · have e1 : odd (N + 1) = false := by show (!odd N) = false; rw [ho]; rfl
    rw [e1]
    show _ + 1 < _ + 0
    rcases h with h | h
    · have := ia_odd a N ho h
      omega
    · have := ia_odd b N ho h
      omega

abbrev encR (x : Run2) : Array Value := #[.string x.1.1, .string x.1.2]

set_option maxHeartbeats 1000000 in
theorem runs_in (a b : ByteArray) (n : Nat) (w : World) :
    CallsIn Fence.wide n Tryd.prog 47 #[.string a, .string b] w fun e w' => e = .returned (.func (.func 65) #[] #[.pointer (some ⟨w.heap.size, 0, none⟩), .pointer (some ⟨w.heap.size + 1, 0, none⟩)]) ∧ w' = (w.alloc (.cells #[.string a] 9)).alloc (.cells #[.string b] 9) := by
  refine callsIn_of_wp Tryd.func47 rfl trivial ?_ rfl
  simp only [Tryd.ntmps47, List.size_toArray, List.length_cons, List.length_nil, Nat.reduceAdd, Nat.reduceSub, Array.replicate_succ, Array.replicate_zero, List.push_toArray, List.append_toArray, List.nil_append, List.cons_append]
  gi_wp2
  go_ret
  exact ⟨rfl, rfl⟩

set_option maxRecDepth 100000 in
set_option maxHeartbeats 2000000 in
theorem runs1_in (a b : ByteArray) (ha : a.size ≤ maxLen) (hb : b.size ≤ maxLen) (n : Nat) (hn : 1 ≤ n) (l Ba Bb : Nat) (J Jx : List Run2 → World → Prop)
    (hJd : ∀ s W m, J s W → J s (W.drewN m))
    (hY : ∀ pre x W, J pre W → pre.length < 2 * (a.size + b.size) + 1 → YieldAt Fence.wide (n - 1) Tryd.prog l (encR x) W fun e W' =>
      (e = .returned (.bool true) ∧ J (pre ++ [x]) W' ∧ Kc Ba Bb W W') ∨ (e = .returned (.bool false) ∧ Jx (pre ++ [x]) W'))
    (W : World) (hA : W.cell? ⟨Ba, 0, none⟩ = some (.string a)) (hB : W.cell? ⟨Bb, 0, none⟩ = some (.string b)) (h0 : J [] W) :
    CallsIn Fence.wide n Tryd.prog 65 #[.func (.yield l) #[] #[], .pointer (some ⟨Ba, 0, none⟩), .pointer (some ⟨Bb, 0, none⟩)] W fun e W' => (∃ v, e = .returned v) ∧
      ((∃ xs, (∃ N, xs = upto a b ha hb N ∧ ia a N = a.size ∧ ia b N = b.size) ∧ J xs W') ∨ (∃ pre, (∃ N, pre = upto a b ha hb N) ∧ Jx pre W')) := by
  have ha' := ha
  have hb' := hb
  unfold maxLen at ha' hb'
  have cE := hide (fun (s : ByteArray) (hs : s.size ≤ maxLen) (i : Nat) (dg : Bool) (w : World) (hi : i ≤ s.size) => runEnd_any s hs i dg w hi)
  refine callsIn_of_wp Tryd.func65 rfl trivial ?_ rfl
  simp only [Tryd.ntmps65, List.size_toArray, List.length_cons, List.length_nil, Nat.reduceAdd, Nat.reduceSub, Array.replicate_succ, Array.replicate_zero, List.push_toArray, List.append_toArray, List.nil_append, List.cons_append]
  gi_wp2
  gi_loopw [4, 5, 6, 7, 8] (fun dv iv kv _ _ wr => ∃ N : Nat, dv = .bool (odd N) ∧ iv = .int .i64 (ia a N) ∧ kv = .int .i64 (ia b N) ∧ wr.cell? ⟨Ba, 0, none⟩ = some (.string a) ∧ wr.cell? ⟨Bb, 0, none⟩ = some (.string b) ∧ J (upto a b ha hb N) wr)
    (fun dv iv kv _ _ _ => 2 * (a.size - (intOf iv).toNat) + 2 * (b.size - (intOf kv).toNat) + bOf dv)
  case atStart => exact ⟨0, rfl, rfl, rfl, hA, hB, h0⟩
  case round =>
    obtain ⟨N, rfl, rfl, rfl, hA1, hB1, hJ1⟩ := hrel
    have ja := ia_le a N
    have jb := ia_le b N
    by_cases hlt : ia a N < a.size ∨ ia b N < b.size
    · have e1 := endAt_le a _ (odd N) ja
      have e2 := endAt_le b _ (odd N) jb
      have g1 := endAt_ge a (ia a N) (odd N)
      have g2 := endAt_ge b (ia b N) (odd N)
      have hN : N < 2 * (a.size + b.size) + 1 := by
        rcases hlt with h | h
        · have : ¬ 2 * a.size ≤ N := fun h' => by have := ia_done a N h'; omega
          omega
        · have : ¬ 2 * b.size ≤ N := fun h' => by have := ia_done b N h'; omega
          omega
      have hYN : ∀ m, YieldAt Fence.wide (n - 1) Tryd.prog l #[.string (a.extract (ia a N) (endAt a (ia a N) (odd N))), .string (b.extract (ia b N) (endAt b (ia b N) (odd N)))] (wr.drewN m) fun e W' =>
          ∃ bb : Bool, e = .returned (.bool bb) ∧ Hid ((bb = true ∧ J (upto a b ha hb (N + 1)) W' ∧ Kc Ba Bb wr W') ∨ (bb = false ∧ Jx (upto a b ha hb (N + 1)) W')) := by
        intro m
        obtain ⟨fn, tmps, assign, body, hy, hR⟩ := hY (upto a b ha hb N) (pairOf a b ha hb N) (wr.drewN m) (hJd _ _ _ hJ1) (by rw [upto_length]; exact hN)
        refine ⟨fn, tmps, assign, body, hy, hR.mono ?_⟩
        rintro e W' (⟨rfl, h1, h2⟩ | ⟨rfl, h1⟩)
        · exact ⟨true, rfl, hide (.inl ⟨rfl, by rw [upto_succ]; exact h1, h2⟩)⟩
        · exact ⟨false, rfl, hide (.inr ⟨rfl, by rw [upto_succ]; exact h1⟩)⟩
      have HY := hide hYN
      have HJ := hide hJ1
      clear hYN hY hJ1 hN hJd
      by_cases h1 : ia a N < a.size
      · have HLT := hide hlt
        clear hlt
        gi_wp2
        gi_quiet ((gi_at_call 66; refine CallsIn.quiet_of_same (callsIn_wide.2 (runEnd_any _ (by assumption) _ _ _ (by omega)))))
        gi_wp2
        obtain ⟨fn, tmps, assign, body, hy, hR⟩ := unhide HY (nq + 1)
        have HR := hide hR
        clear hR HY
        gi_region_with (refine (unhide HR).mono ?_; rintro e W3 ⟨bb, rfl, hq⟩)
        all_goals
          rcases unhide hq with ⟨rfl, hJ3, hk3⟩ | ⟨rfl, hJx3⟩
          · have hA3 := (World.cell?_of_block (w := wr) (w' := W3) (a := ⟨Ba, 0, none⟩) hk3.1).trans hA1
            have hB3 := (World.cell?_of_block (w := wr) (w' := W3) (a := ⟨Bb, 0, none⟩) hk3.2).trans hB1
            have HJ3 := hide hJ3
            have hk3' := hide hk3
            clear hJ3 hk3 hq HR
            gi_wp2
            go_roundw
            case rel => exact ⟨N + 1, rfl, rfl, rfl, hA3, hB3, unhide HJ3⟩
            case measure => exact meas_dec a b N (unhide HLT)
          · have HJx := hide hJx3
            clear hJx3 hq HR
            gi_wp2
            refine bodyPost_ret (results_none rfl _ _ _) rfl ?_
            exact ⟨⟨_, rfl⟩, .inr ⟨_, ⟨N + 1, rfl⟩, unhide HJx⟩⟩
      · have HLT := hide hlt
        have h2 : ia b N < b.size := by omega
        clear hlt
        gi_wp2
        gi_quiet ((gi_at_call 66; refine CallsIn.quiet_of_same (callsIn_wide.2 (runEnd_any _ (by assumption) _ _ _ (by omega)))))
        gi_wp2
        obtain ⟨fn, tmps, assign, body, hy, hR⟩ := unhide HY (nq + 1)
        have HR := hide hR
        clear hR HY
        gi_region_with (refine (unhide HR).mono ?_; rintro e W3 ⟨bb, rfl, hq⟩)
        all_goals
          rcases unhide hq with ⟨rfl, hJ3, hk3⟩ | ⟨rfl, hJx3⟩
          · have hA3 := (World.cell?_of_block (w := wr) (w' := W3) (a := ⟨Ba, 0, none⟩) hk3.1).trans hA1
            have hB3 := (World.cell?_of_block (w := wr) (w' := W3) (a := ⟨Bb, 0, none⟩) hk3.2).trans hB1
            have HJ3 := hide hJ3
            have hk3' := hide hk3
            clear hJ3 hk3 hq HR
            gi_wp2
            go_roundw
            case rel => exact ⟨N + 1, rfl, rfl, rfl, hA3, hB3, unhide HJ3⟩
            case measure => exact meas_dec a b N (unhide HLT)
          · have HJx := hide hJx3
            clear hJx3 hq HR
            gi_wp2
            refine bodyPost_ret (results_none rfl _ _ _) rfl ?_
            exact ⟨⟨_, rfl⟩, .inr ⟨_, ⟨N + 1, rfl⟩, unhide HJx⟩⟩
    · have h1 : a.size ≤ ia a N := by omega
      have h2 : b.size ≤ ia b N := by omega
      have HJ := hide hJ1
      clear hJ1
      gi_wp2
      go_end0
      exact ⟨⟨_, rfl⟩, .inl ⟨_, ⟨N, rfl, by omega, by omega⟩, unhide HJ⟩⟩

/-- THE RUNS OF TWO PARTS, AS AN ITERATOR. -/
theorem runs_stops (a b : ByteArray) (ha : a.size ≤ maxLen) (hb : b.size ≤ maxLen) (n : Nat) (hn : 1 ≤ n) (Ba Bb : Nat) (w : World) (hBa : Ba < w.heap.size) (hBb : Bb < w.heap.size)
    (hA : w.cell? ⟨Ba, 0, none⟩ = some (.string a)) (hB : w.cell? ⟨Bb, 0, none⟩ = some (.string b)) :
    SeqStopsK Fence.wide n Tryd.prog 65 #[.pointer (some ⟨Ba, 0, none⟩), .pointer (some ⟨Bb, 0, none⟩)] encR (Kc Ba Bb) (fun xs => ∃ N, xs = upto a b ha hb N ∧ ia a N = a.size ∧ ia b N = b.size) (fun pre => ∃ N, pre = upto a b ha hb N) (2 * (a.size + b.size) + 1) w := fun l J Jx W hW hJ _ hY h0 =>
  runs1_in a b ha hb n hn l Ba Bb J Jx (fun s W1 m hs => hJ s W1 (W1.drewN m) none hs (grown_drewN W1 m none) (fun r e => by cases e)) hY W ((hW.cell (p := ⟨Ba, 0, none⟩) hBa).trans hA) ((hW.cell (p := ⟨Bb, 0, none⟩) hBb).trans hB) h0

end Go.Proofs.YtmckmeoondlcpaaDoor
