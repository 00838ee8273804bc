import Derived.Test.YtjflnpcpnoccjaaTmA
import Derived.Test.YtjflnpcpnoccjaaGrI
namespace Go.Proofs.Ytjflnpcpnoccjaa
open Go.RowKit

theorem infoT : (Try.prog.info? 26).map (fun i => (i.zero, i.size, i.bytes)) = some (some (.slice none 0 0), 1, 24) := by kernel_rfl
/-- Whether one node reaches another. -/
noncomputable def rq (N : Nat) (ln : Nat → Nat) (L : Nat → Nat → Int) (u v : Nat) : Bool := ds (Eg N ln L) (fun x => x = u) v != -1
theorem rq_iff (N : Nat) (ln : Nat → Nat) (L : Nat → Nat → Int) (u v : Nat) : rq N ln L u v = true ↔ Rch (Eg N ln L) u v := by
  unfold rq
  constructor
  · intro h
    have h1 : ds (Eg N ln L) (fun x => x = u) v ≠ -1 := by simpa using h
    have h2 := ds_ge (Eg N ln L) (fun x => x = u) v
    obtain ⟨k, hk⟩ : ∃ k : Nat, ds (Eg N ln L) (fun x => x = u) v = (k : Int) := ⟨(ds (Eg N ln L) (fun x => x = u) v).toNat, by omega⟩
    exact ⟨k, (ds_wk hk).1⟩
  · rintro ⟨k, hk⟩
    obtain ⟨j, _, e⟩ := ds_of hk
    rw [e]
    simp
/-- Rows of bools. -/
def Rb (W : World) (pa : Option Addr) (n m : Nat) (q : Nat → Nat → Bool) : Prop := ∃ (ra : Nat → Option Addr) (rc : Nat → Nat), Rv W pa n (fun k => .slice (ra k) m (rc k)) ∧ ∀ k, k < n → Rt W (ra k) m (q k)
theorem Rb.later {W W2 : World} {pa : Option Addr} {n m : Nat} {q : Nat → Nat → Bool} (h : Rb W pa n m q) (hb : Below W.heap.size W W2) : Rb W2 pa n m q := by
  obtain ⟨ra, rc, h1, h2⟩ := h
  exact ⟨ra, rc, h1.later hb, fun k hk => (h2 k hk).later hb⟩
/-- The rows told so far. -/
def AlR (N : Nat) (q : Nat → Nat → Bool) (w : World) (k : Nat) (va : Option Addr) (vc : Nat) (W : World) (ra : Nat → Option Addr) (rc : Nat → Nat) : Prop := W.ownsRow w.heap.size 26 1 (.slice va k vc) k (vl k fun i => .slice (ra i) N (rc i)) ∧ (∀ i, i < k → ∃ b o, ra i = some ⟨b, o, none⟩ ∧ b < W.heap.size ∧ (Value.slice va k vc).ownBlock ≠ some b ∧ ∀ j, j < N → W.cell? ⟨b, o + j, none⟩ = some (bv (q i) j)) ∧ Below w.heap.size w W
def Al (N : Nat) (q : Nat → Nat → Bool) (w : World) (k : Nat) (va : Option Addr) (vc : Nat) (W : World) : Prop := ∃ (ra : Nat → Option Addr) (rc : Nat → Nat), AlR N q w k va vc W ra rc
theorem Al.start (N : Nat) (q : Nat → Nat → Bool) (w : World) : Al N q w 0 none 0 w := ⟨fun _ => none, fun _ => 0, World.ownsRow_nil _ _ _ _, fun i hi => by omega, Below.refl _ _⟩
theorem AlR.later {N : Nat} {q : Nat → Nat → Bool} {w : World} {k : Nat} {va : Option Addr} {vc : Nat} {W W2 : World} {ra : Nat → Option Addr} {rc : Nat → Nat} (h : AlR N q w k va vc W ra rc) (hb : Below W.heap.size W W2) : AlR N q w k va vc W2 ra rc := by
  obtain ⟨h1, h2, h3⟩ := h
  exact ⟨owns_below h1 hb, fun i hi => by
    obtain ⟨b, o, e, l, ne, c⟩ := h2 i hi
    exact ⟨b, o, e, Nat.lt_of_lt_of_le l hb.size, ne, fun j hj => (hb.cell (p := ⟨b, o + j, none⟩) l).trans (c j hj)⟩, bl_t h3 hb⟩
theorem Al.rb {N : Nat} {q : Nat → Nat → Bool} {w : World} {k : Nat} {va : Option Addr} {vc : Nat} {W : World} (h : Al N q w k va vc W) : Rb W va k N q := by
  obtain ⟨ra, rc, h1, h2, _⟩ := h
  exact ⟨ra, rc, Rv.of_owns h1, fun i hi h0 => by
    obtain ⟨b, o, e, l, _, c⟩ := h2 i hi
    exact ⟨b, o, e, l, c⟩⟩
theorem AlR.next {N : Nat} {q : Nat → Nat → Bool} {w : World} {k : Nat} {va : Option Addr} {vc : Nat} {W W9 : World} {ra : Nat → Option Addr} {rc : Nat → Nat} (h : AlR N q w k va vc W ra rc) {b o rcap g cap : Nat} (hb : b < W.heap.size) (hne : (Value.slice va k vc).ownBlock ≠ some b) (hc : ∀ j, j < N → W.cell? ⟨b, o + j, none⟩ = some (bv (q k) j))
    (h4 : W9.ownsRow w.heap.size 26 1 (.slice (some ⟨g, 0, none⟩) (k + 1) cap) (k + 1) (vl k (fun i => .slice (ra i) N (rc i)) ++ [.slice (some ⟨b, o, none⟩) N rcap])) (hg : W.grownBy W9 (Value.slice va k vc).ownBlock) (hat : (Value.slice va k vc).ownBlock = some g ∨ W.heap.size ≤ g) : Al N q w (k + 1) (some ⟨g, 0, none⟩) cap W9 := by
  obtain ⟨h1, h2, h3⟩ := h
  refine ⟨fun i => if i = k then some ⟨b, o, none⟩ else ra i, fun i => if i = k then rcap else rc i, ?_, fun i hi => ?_, h3.grown hg h3.size (fun j e => (h1.lt j e).1)⟩
  · rw [vl_succ]
    dsimp only
    rw [if_pos rfl, if_pos rfl, vl_congr (G := fun i => .slice (ra i) N (rc i)) fun i hi => by rw [if_neg (by omega), if_neg (by omega)]]
    exact h4
  · have hno : ∀ b2, b2 < W.heap.size → (Value.slice va k vc).ownBlock ≠ some b2 → b2 < W9.heap.size ∧ (Value.slice (some ⟨g, 0, none⟩) (k + 1) cap).ownBlock ≠ some b2 := fun b2 l n => ⟨Nat.lt_of_lt_of_le l hg.size, fun e => by
      have e2 : g = b2 := by simpa [Value.ownBlock] using e
      rcases hat with q | q
      · exact n (by rw [q, e2])
      · omega⟩
    by_cases e : i = k
    · subst e
      obtain ⟨a1, a2⟩ := hno b hb hne
      exact ⟨b, o, by dsimp only; rw [if_pos rfl], a1, a2, fun j hj => (World.cell?_of_block (hg.block b hb (fun q => hne q.symm))).trans (hc j hj)⟩
    · obtain ⟨b2, o2, e2, l2, n2, c2⟩ := h2 i (by omega)
      obtain ⟨a1, a2⟩ := hno b2 l2 n2
      exact ⟨b2, o2, by dsimp only; rw [if_neg e]; exact e2, a1, a2, fun j hj => (World.cell?_of_block (hg.block b2 l2 (fun q => n2 q.symm))).trans (c2 j hj)⟩
set_option maxRecDepth 100000 in
set_option maxHeartbeats 4000000 in
theorem rall_any {N : Nat} {ln : Nat → Nat} {L : Nat → Nat → Int} (hr : rgt N ln L = true) {na : Option Addr} {nc : Nat} {w : World} (hN : N ≤ 1048576) (hln : ∀ k, k < N → ln k ≤ 1048576) (hR : Rr w na N ln L) :
    Calls Try.prog 57 #[.slice na N nc] w fun x w' => ∃ ga gc, x = .returned (.slice ga N gc) ∧ Rb w' ga N N (rq N ln L) ∧ Below w.heap.size w w' := by
  obtain ⟨iT, hiT, ht0, ht1, ht2⟩ := info_parts infoT
  have mk := makeT N (by omega)
  have cF := hide (fun (W : World) (hW : Below w.heap.size w W) (u g : Nat) (hu : u < N) (hm : Rt W (some ⟨g, 0, none⟩) N (fun j => j == u)) => rfrom_any (nc := nc) (pc := N) (S := fun x => x = u) hr (fun v => ⟨fun h => by subst h; exact ⟨hu, by simp⟩, fun h => by simpa using h.2⟩) hN hln (hR.later hW) hm)
  have HA0 := hide (Al.start N (rq N ln L) w)
  clear hr hln hR
  go_enter Try.func57, Try.ntmps57
  go_wp2_with fail
  go_loopg [3, 4, 5] N (fun g1 vl_ vi _ wr => ∃ (u : Nat) (va : Option Addr) (vc : Nat), vi = .int .i64 u ∧ vl_ = .slice va u vc ∧ u ≤ N ∧ N - u ≤ g1 ∧ Hid (Al N (rq N ln L) w u va vc wr))
  case atStart => exact ⟨0, none, 0, by go_num, rfl, by omega, by omega, HA0⟩
  case round =>
    clear HA0
    obtain ⟨u, va, vc, rfl, rfl, hu, hg1, ra, rc, hA⟩ := hrel
    have HA := hide hA
    clear hA
    by_cases hlt : u < N
    · obtain ⟨W1, hW1⟩ : ∃ W, W = wr.alloc (.cells ((madeCells #[.bool false] N).setIfInBounds u (.bool true)) 4) := ⟨_, rfl⟩
      have hm0 : Mv wr.heap.size N 4 (fun _ => .bool false) (wr.alloc (.cells (madeCells #[.bool false] N) 4)) := ⟨_, heap_new _ _, fun k hk => by rw [made_at _ _ _ hk]⟩
      obtain ⟨cu, fu⟩ := hm0.cell hlt
      have hm1 : Rt W1 (some ⟨wr.heap.size, 0, none⟩) N (fun j => j == u) := by
        rw [hW1]
        refine Mv.rv (e := 4) ⟨_, heap_new _ _, fun k hk => ?_⟩
        rw [Array.getElem?_setIfInBounds]
        have h0 := made_at (.bool false) N k hk
        unfold bv
        by_cases e : u = k
        · subst e
          rw [if_pos rfl, if_pos (by have := (Array.getElem?_eq_some_iff.1 h0).1; exact this)]
          simp
        · rw [if_neg e, h0]
          have : k ≠ u := fun q => e q.symm
          simp [this]
      have hb1 : Below wr.heap.size wr W1 := by rw [hW1]; exact al wr _
      have HA1 := hide ((unhide HA).later hb1)
      have HSZ := hide hb1.size
      have HOW := hide (show ∀ b, (Value.slice va u vc).ownBlock = some b → b < wr.heap.size from fun b e => by
        exact ((unhide HA).1.lt b e).2)
      have cF1 := hide (unhide cF W1 (bl_t (unhide HA).2.2 hb1) u wr.heap.size hlt hm1)
      have hlt2 : (u : Int) < (N : Int) := by omega
      have HW1 := hide hW1
      have HN2 := hide (fun (w2 : World) (ga : Option Addr) (gc : Nat) (h1 : Rn W1.heap.size w2 ga N (bv (rq N ln L u))) (h2 : Below W1.heap.size W1 w2) => show ∃ b o, ga = some ⟨b, o, none⟩ ∧ (Hid (AlR N (rq N ln L) w u va vc w2 ra rc) ∧ Hid (b < w2.heap.size ∧ (Value.slice va u vc).ownBlock ≠ some b ∧ ∀ j, j < N → w2.cell? ⟨b, o + j, none⟩ = some (bv (rq N ln L u) j))) from by
        obtain ⟨b, o, e, l1, l2, c⟩ := h1 (by omega)
        refine ⟨b, o, e, hide ((unhide HA1).later h2), l2, fun q => ?_, c⟩
        have := unhide HOW b q
        have := unhide HSZ
        omega)
      clear hW1 hm0 hm1 hb1 HA HOW
      go_wp2_with (first | (go_at_call 47; rw [← unhide HW1]; refine (unhide cF1).mono ?_; rintro x2 w2 ⟨ga, gc, rfl, q1, q2⟩; obtain ⟨b, o, rfl, HA2, HB2⟩ := unhide HN2 w2 ga gc q1 q2; clear q1 q2; have HA3 := hide ((unhide HA2).later (al w2 (.cells #[.slice (some ⟨b, o, none⟩) N gc] 26))); have HSW := hide (show w.heap.size ≤ (w2.alloc (.cells #[.slice (some ⟨b, o, none⟩) N gc] 26)).heap.size from (unhide HA3).2.2.size)) | (at_builtin; go_must (refine wpList_append_lies _ rfl _ _ 54 rfl w.heap.size 26 iT (.slice none 0 0) 1 24 Try.underlying54 hiT ht0 ht1 ht2 rfl (by decide) (.slice va u vc) u (vl u fun i => .slice (ra i) N (rc i)) rfl (unhide HA3).1 ⟨w2.heap.size, 0, none⟩ 1 1 [.slice (some ⟨b, o, none⟩) N gc] rfl rfl (cell_one_new _ _ _) (by simp [Value.oneCell']) (by decide) (by unfold maxLen; omega) (by omega) (unhide HSW) _ rfl ?_); intro gg c9 w9 hown hgrow hat _; have HA9 := hide (AlR.next (unhide HA3) (by have := (unhide HB2).1; rw [World.size_alloc]; omega) (unhide HB2).2.1 (fun j hj => ((al w2 _).cell (p := ⟨b, o + j, none⟩) (unhide HB2).1).trans ((unhide HB2).2.2 j hj)) hown hgrow (hat.imp id fun e => by rw [e]; exact Nat.le_refl _)); clear hown hgrow hat))
      go_roundg (N - (u + 1))
      case measure => omega
      case rel => exact ⟨u + 1, _, c9, by go_num, rfl, by omega, by omega, HA9⟩
    · obtain rfl : u = N := by omega
      have HX := hide (And.intro (Al.rb ⟨ra, rc, unhide HA⟩) (unhide HA).2.2)
      clear HA
      go_wp2_with fail
      go_ret
      exact ⟨va, vc, rfl, (unhide HX).1, (unhide HX).2⟩
end Go.Proofs.Ytjflnpcpnoccjaa
