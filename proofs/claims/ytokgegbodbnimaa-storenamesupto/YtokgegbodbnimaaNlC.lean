import Derived.Test.YtokgegbodbnimaaNlB
import Derived.RangeFuncNested
import Derived.RangeFuncBound
import Derived.RangeFuncCalls
import Derived.RangeFuncLeaves
import Derived.Shelf.Abstract
import Derived.Shelf.RegionOpen
import Derived.OwnWalkIn
import Derived.TacticsInMore
import Derived.LoopNIn
import Derived.LoopIn
import Derived.Sort.QuietIn
namespace Go.Proofs.Ytokgegbodbnimaa
open Go.RowKit Go.Shelf
attribute [local go_sem] Oper.semAt_some

theorem wide_fn (f : FuncId) : Fence.wide.fn f = True := rfl
attribute [local simp] wide_fn
attribute [local go_sem] wide_fn

set_option maxRecDepth 100000 in
set_option maxHeartbeats 1000000 in
theorem Names1_stops (n : Nat) (B : Nat) (w : World) (hB : B < w.heap.size) (hc : w.cell? ⟨B, 0, none⟩ = some (.slice none 0 0)) :
    SeqStopsK Fence.wide n Try.prog 48 #[.pointer (some ⟨B, 0, none⟩)] (fun (_ : Empty) => #[.int .i64 0]) (fun _ _ => True) (fun xs => xs = []) (fun _ => False) 0 w := by
  intro l J Jx W hW hJ _ hY h0
  have hc1 : W.cell? ⟨B, 0, none⟩ = some (.slice none 0 0) := (hW.cell (p := ⟨B, 0, none⟩) hB).trans hc
  have HJ := hide h0
  clear hY h0 hJ hc
  refine callsIn_of_wp Try.func48 rfl trivial ?_ rfl
  simp only [Try.ntmps48, List.size_toArray, List.length_cons, List.length_nil, Nat.reduceAdd, Nat.reduceSub, Array.replicate_succ, Array.replicate_zero, List.push_toArray, List.append_toArray, List.nil_append, List.cons_append]
  gi_wp2
  gi_loop [7] (fun i => i = .int .i64 0) (fun _ => 0)
  case atStart => rfl
  case round =>
    obtain rfl := hrel
    gi_wp2
    go_end0
    exact ⟨⟨_, rfl⟩, unhide HJ⟩
theorem eqf (lb : Array Value) (w : World) : (binOp .eql 52 (.func (.func 48) #[] lb) .nilFunc).run Try.prog w = .ok (.bool false) w := by
  have h : (Op.equalIn (9999 + 1) 52 (.func (.func 48) #[] lb) .nilFunc).run Try.prog w = .ok false w := by
    unfold Op.equalIn
    simp [run_underlying Try.underlying52]
  simp only [binOp]
  simp [Op.equal, Op.maxDepth, h]
/-- WHAT THE LAW'S OWN CELL HOLDS. -/
structure Kn (b0 : Nat) (W : World) : Prop where
  c0 : W.cell? ⟨b0, 0, none⟩ = some (.bool false)
  f0 : W.frozen? ⟨b0, 0, none⟩ = false
  l0 : b0 < W.heap.size
theorem Kn.later {b0 : Nat} {W W' : World} (h : Kn b0 W) (hb : Below W.heap.size W W') : Kn b0 W' :=
  ⟨(hb.cell (p := ⟨b0, 0, none⟩) h.l0).trans h.c0, (hb.frozen (p := ⟨b0, 0, none⟩) h.l0).trans h.f0, Nat.lt_of_lt_of_le h.l0 hb.size⟩
theorem results_cell1 {fn : Func} {a : Tmp} {t : TypeId} (h : fn.results = #[.cell a t]) (tmps : Array Value) (P : Program) (w : World) (ad : Addr) (v : Value) (ha : tmps.getD a undef = .pointer (some ad)) (hl : (loadVar t ad).run P w = .ok v w) :
    (results fn tmps).run P w = .ok v w := by
  have ha2 : tmps[a]?.getD undef = .pointer (some ad) := by simpa using ha
  simp [results, h, asAddr, ha2, hl]
theorem Kn.own {β : Type} (b0 B : Nat) : OwnFrom B (fun (_ : β) W => Kn b0 W) := fun _ _ _ _ h hg hr =>
  ⟨cell_kept h.c0 hg (fun r e => (hr r e).2), (frozen_kept h.c0 hg (fun r e => (hr r e).2)).trans h.f0, Nat.lt_of_lt_of_le h.l0 hg.size⟩
set_option maxRecDepth 100000 in
theorem Capacity_at {B : Nat} {c : Int} {w : World} (h : w.cell? ⟨B, 5, none⟩ = some (.int .i64 c)) : Calls Try.prog 35 #[.pointer (some ⟨B, 0, none⟩)] w fun x w' => x = .returned (.int .i64 c) ∧ w' = w := by
  go_enter Try.func35, Try.ntmps35
  go_wp2_with fail
  go_ret
  exact ⟨rfl, rfl⟩
set_option maxRecDepth 100000 in
set_option maxHeartbeats 4000000 in
theorem StoreNil_in (n : Nat) (hn : 3 ≤ n) (w : World) :
    CallsIn Fence.wide n Try.prog 8 #[] w fun e W' => e = .returned (.bool true) ∧ Below w.heap.size w W' := by
  have h1 : 1 ≤ n := by omega
  have hfn := eqf
  obtain ⟨w0, hw0⟩ : ∃ x, x = w.alloc (.cells #[.bool false] 4) := ⟨_, rfl⟩
  refine callsIn_of_wp_marks Try.func8 rfl trivial ?_ rfl
  simp only [Try.ntmps8, List.size_toArray, List.length_nil, Nat.reduceSub, Array.replicate_succ, Array.replicate_zero, List.push_toArray, List.append_toArray, List.nil_append, List.cons_append]
  gi_wp2_with (first | (gi_at_call 32; refine (callsIn_wide.2 (Fuse_nil _)).mono ?_; rintro x w0 ⟨rfl, rfl⟩) | (gi_at_call 16; refine (callsIn_wide.2 (Read_nil _)).mono ?_; rintro x w1 ⟨rfl, rfl⟩) | (gi_at_call 33; refine (callsIn_wide.2 (Size_nil _)).mono ?_; rintro x w2 ⟨rfl, rfl⟩) | (gi_at_call 12; refine (callsIn_wide.2 (Write_nil _)).mono ?_; rintro x w3 ⟨rfl, rfl⟩) | (gi_at_call 15; refine (callsIn_wide.2 (Append_nil _)).mono ?_; rintro x w4 ⟨rfl, rfl⟩) | (gi_at_call 27; refine (callsIn_wide.2 (Truncate_nil _)).mono ?_; rintro x w5 ⟨rfl, rfl⟩) | (gi_at_call 28; refine (callsIn_wide.2 (Rename_nil _)).mono ?_; rintro x w6 ⟨rfl, rfl⟩) | (gi_at_call 24; refine (callsIn_wide.2 (Remove_nil _)).mono ?_; rintro x w7 ⟨rfl, rfl⟩) | (gi_at_call 13; refine (callsIn_wide.2 (Sync_nil _)).mono ?_; rintro x w8 ⟨rfl, rfl⟩) | (gi_at_call 25; refine (callsIn_wide.2 (SetCapacity_nil _)).mono ?_; rintro x w9 ⟨rfl, rfl⟩) | (gi_at_call 34; refine (callsIn_wide.2 (Used_nil _)).mono ?_; rintro x w10 ⟨rfl, rfl⟩) | (gi_at_call 35; refine (callsIn_wide.2 (Capacity_nil _)).mono ?_; rintro x w11 ⟨rfl, rfl⟩) | (gi_at_call 31; refine (callsIn_wide.2 (Dead_nil _)).mono ?_; rintro x w12 ⟨rfl, rfl⟩) | (gi_at_call 36; refine (callsIn_wide.2 (Calls_nil _)).mono ?_; rintro x w13 ⟨rfl, rfl⟩) | (gi_at_call 26; refine (callsIn_wide.2 (Pending_nil _)).mono ?_; rintro x w14 ⟨rfl, rfl⟩) | (gi_at_call 21; refine (callsIn_wide.2 (Image_nil _)).mono ?_; rintro x w15 ⟨rfl, rfl⟩) | (gi_at_call 22; refine (callsIn_wide.2 (Durable_nil _)).mono ?_; rintro x w16 ⟨rfl, rfl⟩) | (gi_at_call 11; refine (callsIn_wide.2 (num_any _ _)).mono ?_; rintro x wn ⟨rfl, rfl⟩) | (gi_at_call 14; refine (callsIn_wide.2 (Crash_nil _)).mono ?_; rintro x wc ⟨rfl, hbc⟩; have HBC := hide hbc; clear hbc) | (gi_at_call 23; refine (callsIn_wide.2 (Names_nil _)).mono ?_; rintro x wm ⟨rfl, rfl⟩))
  have b0 : Below w.heap.size w (w.alloc (.cells #[.bool false] 4)) := (Below.refl _ _).alloc (Nat.le_refl _) _
  have k1 : Kn w.heap.size (w.alloc (.cells #[.bool false] 4)) := ⟨by go_simp, by go_simp, by simp⟩
  have hbc := unhide HBC
  have k3 := k1.later hbc
  have bb : Below wn.heap.size wn (wn.alloc (.cells #[.slice none 0 0] 48)) := (Below.refl _ _).alloc (Nat.le_refl _) _
  have k4 := k3.later bb
  have B4 : Below w.heap.size w (wn.alloc (.cells #[.slice none 0 0] 48)) := bl_t (bl_t b0 hbc) bb
  have cn : (wn.alloc (.cells #[.slice none 0 0] 48)).cell? ⟨wn.heap.size, 0, none⟩ = some (.slice none 0 0) := by go_simp
  have szn : wn.heap.size < (wn.alloc (.cells #[.slice none 0 0] 48)).heap.size := by simp
  generalize wn.alloc (.cells #[.slice none 0 0] 48) = W4 at *
  clear HBC hfn bb k3 k1 hbc b0
  have hz4 := B4.size
  refine wpIn_rangeFunc_ownF rfl h1 (gf := 48) (lb := #[.pointer (some ⟨wn.heap.size, 0, none⟩)]) rfl trivial (enters_of Try.func48 (by kernel_rfl) rfl)
    (Names1_stops (n - 1) wn.heap.size W4 szn cn) (fun _ _ => trivial) (fun _ _ _ _ _ _ _ _ => trivial) (Below.refl _ _) (fun x => x.elim)
    (fun _ W => Kn w.heap.size W ∧ Below w.heap.size w W) (fun _ _ _ => False)
    (OwnFrom.and (Kn.own _ _) (ownFrom_below (Nat.le_refl _) hz4)) (fun _ _ _ _ _ hs _ _ => hs) ⟨k4, B4⟩ (fun x => x.elim) ?assign ?body ?done ?stop
  case assign => exact fun _ x => x.elim
  case body => exact fun _ _ x => x.elim
  case stop =>
    rintro D c pre W _ _ h _
    exact h.elim
  case done =>
    rintro D ys W hD _ ⟨kk, BB⟩ hK
    have HK := hide (And.intro kk hK)
    have HBB := hide BB
    have HN := hide (show W.heap.size < (W.alloc (.cells (st0 5) 75)).heap.size from by simp)
    have cc : (W.alloc (.cells (st0 5) 75)).cell? ⟨W.heap.size, 5, none⟩ = some (.int .i64 5) := by unfold st0; go_simp
    have ff : (W.alloc (.cells (st0 5) 75)).frozen? ⟨w.heap.size, 0, none⟩ = false := (kk.later ((Below.refl _ _).alloc (Nat.le_refl _) _)).f0
    have c0 : (W.alloc (.cells (st0 5) 75)).cell? ⟨w.heap.size, 0, none⟩ = some (.bool false) := (kk.later ((Below.refl _ _).alloc (Nat.le_refl _) _)).c0
    have hl0 := kk.l0
    have hKl : (W.alloc (.cells (st0 5) 75)).heap[D]? = some (.deferred (some [])) := (((Below.refl _ W).alloc (Nat.le_refl _) _).block D (Array.getElem?_eq_some_iff.1 hK).1).trans hK
    have HB5 := hide (show Below w.heap.size w (W.alloc (.cells (st0 5) 75)) from bl_t BB ((Below.refl _ _).alloc (Nat.le_refl _) _))
    have HKL := hide hKl
    clear kk hK BB k4 B4 cn szn hKl
    gi_wp2_with (first | (gi_at_call 10; refine (callsIn_wide.2 (New_any 5 (by decide) _)).mono ?_; rintro x wq ⟨rfl, rfl⟩; generalize W.alloc (.cells (st0 5) 75) = W5 at *) | (gi_at_call 35; refine (callsIn_wide.2 (Capacity_at cc)).mono ?_; rintro x wz ⟨rfl, rfl⟩) | (gi_at_call 34; refine (callsIn_wide.2 (Used_nil _)).mono ?_; rintro x _ ⟨rfl, rfl⟩) | (gi_at_call 35; refine (callsIn_wide.2 (Capacity_nil _)).mono ?_; rintro x _ ⟨rfl, rfl⟩) | (gi_at_call 31; refine (callsIn_wide.2 (Dead_nil _)).mono ?_; rintro x _ ⟨rfl, rfl⟩) | (gi_at_call 36; refine (callsIn_wide.2 (Calls_nil _)).mono ?_; rintro x _ ⟨rfl, rfl⟩) | (gi_at_call 26; refine (callsIn_wide.2 (Pending_nil _)).mono ?_; rintro x _ ⟨rfl, rfl⟩) | (gi_at_call 21; refine (callsIn_wide.2 (Image_nil _)).mono ?_; rintro x _ ⟨rfl, rfl⟩) | (gi_at_call 22; refine (callsIn_wide.2 (Durable_nil _)).mono ?_; rintro x _ ⟨rfl, rfl⟩) | (gi_at_call 11; refine (callsIn_wide.2 (num_any _ _)).mono ?_; rintro x _ ⟨rfl, rfl⟩))
    have hKf := unhide HKL
    have B5 := unhide HB5
    have hz5 := B5.size
    have hDl : D < wz.heap.size := (Array.getElem?_eq_some_iff.1 hKf).1
    have hK6 : (wz.setCell ⟨w.heap.size, 0, none⟩ (.bool true)).heap[D]? = some (.deferred (some [])) := (KeepsOthers.setCell wz ⟨w.heap.size, 0, none⟩ (.bool true)).same D _ hKf rfl
    have c6 : (wz.setCell ⟨w.heap.size, 0, none⟩ (.bool true)).cell? ⟨w.heap.size, 0, none⟩ = some (.bool true) := World.cell?_setCell_same' _ _ _ (by rw [c0]; rfl)
    have B6 : Below w.heap.size w (wz.setCell ⟨w.heap.size, 0, none⟩ (.bool true)) := B5.setCell (p := ⟨w.heap.size, 0, none⟩) (Nat.le_refl _) _
    refine ⟨by simp, .inl ⟨_, _, rfl, run_takeDeferred hK6, ?_⟩⟩
    have c7 := cell_kept c6 (grownBy_putObj' (wz.setCell ⟨w.heap.size, 0, none⟩ (.bool true)) D (.deferred none)) (fun r e => by cases e; exact ⟨_, hK6, rfl⟩)
    have hl : (loadVar 4 ⟨w.heap.size, 0, none⟩).run Try.prog ((wz.setCell ⟨w.heap.size, 0, none⟩ (.bool true)).putObj D (.deferred none)) = .ok (.bool true) ((wz.setCell ⟨w.heap.size, 0, none⟩ (.bool true)).putObj D (.deferred none)) := by
      go_simp
    exact ⟨_, results_cell1 (show Try.f8.results = #[.cell 0 4] from Try.results8) _ _ _ _ _ rfl hl, rfl, B6.trans (belowK_b (w := w) (Nat.le_refl _) _ D _ _ (by omega) hK6 rfl rfl)⟩
theorem storeNil_walk (w : World) :
    Calls Try.prog 8 #[] w fun e W' => e = .returned (.bool true) ∧ Below w.heap.size w W' :=
  (callsIn_wide (n := 3)).1 (StoreNil_in 3 (Nat.le_refl _) w)
end Go.Proofs.Ytokgegbodbnimaa
