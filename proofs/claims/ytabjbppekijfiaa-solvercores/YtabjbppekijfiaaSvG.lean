import Derived.Test.YtabjbppekijfiaaSvF
namespace Go.Proofs.Ytabjbppekijfiaa
open Go.RowKit

set_option maxRecDepth 100000 in
set_option maxHeartbeats 2000000 in
theorem headers_any (N : Nat) (F : Nat → Value) (h1 : ∀ k, (F k).oneCell' = true) (pa : Option Addr) (c : Nat) (w : World) (hN : N * 24 ≤ 140737488351232) (h : Rv w pa N F) :
    Calls Try.prog 21 #[.slice pa N c] w fun x w' => ∃ qa qc, x = .returned (.slice qa N qc) ∧ Rv w' qa N F ∧ Below w.heap.size w w' := by
  obtain ⟨i0, hi0, hz0, hz1, hz2⟩ := info_parts infoL
  obtain ⟨v1, W1, r1, ho, hb, _⟩ := app1 (P := Try.prog) 22 22 23 i0 (.slice none 0 0) 1 24 Try.underlying22 hi0 hz0 hz1 hz2 rfl (by decide) N (vl N F) (by simp [vl]) (vl_one _ _ h1) (by omega) (by unfold maxLen; omega) pa c w h.src
  obtain ⟨qa, qc, rfl⟩ := owns_form ho
  have HR := hide (Rv.of_owns ho)
  have HB := hide hb
  clear ho hb h hi0 hz0 hz1 hz2 h1
  go_enter Try.func21, Try.ntmps21
  go_wp2_with ((with_reducible refine wpList_append_run (o := { dst := some 5, op := Op.call { callee := Callee.builtin Builtin.append, args := #[Operand.tmp 3, Operand.tmp 4], argTypes := #[22, 22] }, type := 22, pos := "law.go:42", after := #[{ on := 0, ground := Ground.data }, { on := 1, ground := Ground.data }], guard := none }) ?m1a (.tmp 3) (.tmp 4) 22 ?m1b _ _ ?m1c ?m1d r1 ?m1e); (case m1a => rfl); (case m1b => rfl); (case m1c => rfl); (case m1d => rfl))
  go_ret
  exact ⟨qa, qc, rfl, unhide HR, unhide HB⟩
set_option maxHeartbeats 2000000 in
theorem numbers_any (n : Nat) (f : Nat → Int) (pa qa : Option Addr) (c d : Nat) (w : World) (hn : n ≤ 140737488355328) (h1 : Ri w pa n f) (h2 : Ri w qa n f) :
    Calls Try.prog 34 #[.slice pa n c, .slice qa n d] w fun e w' => e = .returned (.bool true) ∧ Below w.heap.size w w' := by
  have HV := hide h1
  have HU := hide h2
  clear h1 h2
  go_enter Try.func34, Try.ntmps34
  go_wp2_with fail
  go_loopw [5] (fun i wr => ∃ k n1 : Nat, k ≤ n ∧ i = .int .i64 k ∧ wr = w.drewN n1) (fun i _ => n - (intOf i).toNat)
  case atStart => exact ⟨0, 0, Nat.zero_le _, rfl, rfl⟩
  case round =>
    obtain ⟨k, n1, hk, rfl, rfl⟩ := hrel
    by_cases hlt : k < n
    · obtain ⟨b1, o1, rfl, _, hc⟩ := (unhide HV).at hlt
      obtain ⟨b2, o2, rfl, _, hc2⟩ := (unhide HU).at hlt
      unfold iv at hc hc2
      generalize f k = q at *
      clear HV HU
      go_wp2_with fail
      go_quiet (fail)
      go_wp2
      go_roundw
      case rel => exact ⟨k + 1, _, by omega, by go_num, rfl⟩
      case measure => simp [intOf]; omega
    · go_wp2
      go_ret
      exact ⟨rfl, bl_drewN _ _⟩
set_option maxHeartbeats 2000000 in
theorem bools_any (n : Nat) (f : Nat → Bool) (pa qa : Option Addr) (c d : Nat) (w : World) (hn : n ≤ 140737488355328) (h1 : Rt w pa n f) (h2 : Rt w qa n f) :
    Calls Try.prog 17 #[.slice pa n c, .slice qa n d] w fun e w' => e = .returned (.bool true) ∧ Below w.heap.size w w' := by
  have HV := hide h1
  have HU := hide h2
  clear h1 h2
  go_enter Try.func17, Try.ntmps17
  go_wp2_with fail
  go_loopw [5] (fun i wr => ∃ k n1 : Nat, k ≤ n ∧ i = .int .i64 k ∧ wr = w.drewN n1) (fun i _ => n - (intOf i).toNat)
  case atStart => exact ⟨0, 0, Nat.zero_le _, rfl, rfl⟩
  case round =>
    obtain ⟨k, n1, hk, rfl, rfl⟩ := hrel
    by_cases hlt : k < n
    · obtain ⟨b1, o1, rfl, _, hc⟩ := (unhide HV).at hlt
      obtain ⟨b2, o2, rfl, _, hc2⟩ := (unhide HU).at hlt
      unfold bv at hc hc2
      generalize f k = q at *
      clear HV HU
      go_wp2_with fail
      go_quiet (fail)
      go_wp2
      go_roundw
      case rel => exact ⟨k + 1, _, by omega, by go_num, rfl⟩
      case measure => simp [intOf]; omega
    · go_wp2
      go_ret
      exact ⟨rfl, bl_drewN _ _⟩
set_option maxHeartbeats 2000000 in
theorem still_any (base g n cap : Nat) (f : Nat → Int) (qa : Option Addr) (d : Nat) (w : World) (hn : n ≤ 17592186044416) (h1 : Mk base g n cap f w) (h2 : Ri w qa n f) :
    Calls Try.prog 32 #[.slice (some ⟨g, 0, none⟩) n cap, .slice qa n d] w fun e w' => e = .returned (.bool true) ∧ Below w.heap.size w w' := by
  have HV := hide h1.ri
  have HU := hide h2
  have HM := hide h1.cell
  have hcap := h1.cap
  have j1 : (n : Int) + 2 ≤ (cap : Int) := by omega
  clear h1 h2
  go_enter Try.func32, Try.ntmps32
  go_wp2_with fail
  go_loopw [6] (fun i wr => ∃ k n1 : Nat, k ≤ n ∧ i = .int .i64 k ∧ wr = w.drewN n1) (fun i _ => n - (intOf i).toNat)
  case atStart => exact ⟨0, 0, Nat.zero_le _, rfl, rfl⟩
  case round =>
    obtain ⟨k, n1, hk, rfl, rfl⟩ := hrel
    by_cases hlt : k < n
    · have hc := (unhide HM).1 k hlt
      obtain ⟨b2, o2, rfl, _, hc2⟩ := (unhide HU).at hlt
      unfold iv at hc2
      generalize f k = q at *
      clear HV HU HM
      go_wp2_with fail
      go_quiet (fail)
      go_wp2
      go_roundw
      case rel => exact ⟨k + 1, _, by omega, by go_num, rfl⟩
      case measure => simp [intOf]; omega
    · obtain ⟨_, m1, m2, _⟩ := unhide HM
      have i1 : (n : Int) + 1 < (n : Int) + 2 := by omega
      have i2 : (n : Int) < (n : Int) + 2 := by omega
      clear HV HU HM
      go_wp2
      go_ret
      exact ⟨rfl, bl_drewN _ _⟩
def Hd (g ln cp : Nat → Nat) (k : Nat) : Value := .slice (some ⟨g k, 0, none⟩) (ln k) (cp k)
theorem Tw.hd {base B N cB : Nat} {ln g cp : Nat → Nat} {L : Nat → Nat → Int} {W : World} (h : Tw base B N cB ln g cp L W) : Rv W (some ⟨B, 0, none⟩) N (Hd g ln cp) := by
  obtain ⟨cur, h1, h2, _⟩ := h.blk
  exact fun _ => ⟨B, 0, rfl, blk_lt h1, fun i hi => by rw [Nat.zero_add, (cell_blk h1 i).1]; exact h2 i hi⟩
theorem ri_one {W : World} {x : Nat} {z : Int} (h : W.heap[x]? = some (.cells #[.int .i64 z] 3 (0, 0))) : Ri W (some ⟨x, 0, none⟩) 1 (fun _ => z) := fun _ => ⟨x, 0, rfl, blk_lt h, fun i hi => by
  obtain rfl : i = 0 := by omega
  rw [Nat.zero_add, (cell_blk h 0).1]
  rfl⟩
set_option maxRecDepth 100000 in
set_option maxHeartbeats 2000000 in
theorem untouched_any (base B N cB : Nat) (ln g cp : Nat → Nat) (L : Nat → Nat → Int) (qa la : Option Addr) (qc lc : Nat) (w : World) (hN : N ≤ 17592186044416) (hm : ∀ k, k < N → ln k ≤ 17592186044416) (h1 : Tw base B N cB ln g cp L w) (h2 : Rv w qa N (Hd g ln cp)) (h3 : Rr w la N ln L) :
    Calls Try.prog 26 #[.slice (some ⟨B, 0, none⟩) N cB, .slice qa N qc, .slice la N lc] w fun e w' => e = .returned (.bool true) ∧ Below w.heap.size w w' := by
  have HT := hide h1
  have HQ := hide h2
  have HL := hide h3
  have HM := hide hm
  have hcap := h1.cap
  have j1 : (N : Int) + 2 ≤ (cB : Int) := by omega
  clear h1 h2 h3 hm
  go_enter Try.func26, Try.ntmps26
  go_wp2_with fail
  go_loopw [8] (fun i wr => ∃ k : Nat, k ≤ N ∧ i = .int .i64 k ∧ Hid (Below w.heap.size w wr)) (fun i _ => N - (intOf i).toNat)
  case atStart => exact ⟨0, Nat.zero_le _, rfl, hide (Below.refl _ _)⟩
  case round =>
    obtain ⟨k, hk, rfl, HB⟩ := hrel
    by_cases hlt : k < N
    · obtain ⟨b1, o1, e1, _, hc1⟩ := ((unhide HT).later (unhide HB)).hd.at hlt
      cases e1
      obtain ⟨b2, o2, rfl, hb2, hc2⟩ := ((unhide HQ).later (unhide HB)).at hlt
      obtain ⟨b3, o3, ca, cc, rfl, hc3, hri⟩ := ((unhide HL).later (unhide HB)).at hlt
      unfold Hd at hc1 hc2
      rw [Nat.zero_add] at hc1
      have hmk := ((unhide HT).later (unhide HB)).row k hlt
      have hml := unhide HM k hlt
      have c1 := hide (fun w2 (hb : Below wr.heap.size wr w2) => numbers_any (ln k) (L k) (some ⟨g k, 0, none⟩) ca (cp k) cc w2 (by omega) (hmk.later hb).ri (Ri.later hri hb))
      have c2 := hide (fun w2 (hb : Below wr.heap.size wr w2) => still_any base (g k) (ln k) (cp k) (L k) ca cc w2 hml (hmk.later hb) (Ri.later hri hb))
      have hB := ((unhide HT).later (unhide HB)).lt
      have hb3 := World.block_lt_of_cell? _ _ hc3
      have HP := hide (fun w2 (hb : Below wr.heap.size wr w2) => show w2.cell? ⟨B, k, none⟩ = some (.slice (some ⟨g k, 0, none⟩) (ln k) (cp k)) ∧ w2.cell? ⟨b2, o2 + k, none⟩ = some (.slice (some ⟨g k, 0, none⟩) (ln k) (cp k)) ∧ w2.cell? ⟨b3, o3 + k, none⟩ = some (.slice ca (ln k) cc) from ⟨(hb.cell (p := ⟨B, k, none⟩) hB).trans hc1, (hb.cell (p := ⟨b2, o2 + k, none⟩) hb2).trans hc2, (hb.cell (p := ⟨b3, o3 + k, none⟩) hb3).trans hc3⟩)
      have B0 := hide ((Below.refl wr.heap.size wr).drew)
      clear hmk hri hB hb3 hb2
      generalize g k = gk1 at *
      generalize ln k = l1 at *
      generalize cp k = p1 at *
      go_wp2_with fail
      go_region_held3 (fun w2 => w2.cell? ⟨B, k, none⟩ = some (.slice (some ⟨gk1, 0, none⟩) l1 p1) ∧ w2.cell? ⟨b2, o2 + k, none⟩ = some (.slice (some ⟨gk1, 0, none⟩) l1 p1) ∧ w2.cell? ⟨b3, o3 + k, none⟩ = some (.slice ca l1 cc)) (first | exact unhide HP _ (unhide B0) | exact unhide HP _ (unhide B1) | exact unhide HP _ (unhide B2)) (first | (go_at_call 34; refine (unhide c1 _ (unhide B0)).mono ?_; rintro x w1 ⟨rfl, hb1⟩; have B1 := hide ((unhide B0).trans (hb1.mono (unhide B0).size)); clear hb1) | (go_at_call 32; refine (unhide c2 _ (unhide B1)).mono ?_; rintro x w2 ⟨rfl, hb1⟩; have B2 := hide ((unhide B1).trans (hb1.mono (unhide B1).size)); clear hb1))
      go_wp2
      go_roundw
      case rel => exact ⟨k + 1, by omega, by go_num, hide (bl_t (unhide HB) (unhide B2))⟩
      case measure => simp [intOf]; omega
    · obtain ⟨cur, h1, _, x, y, h3, h4, h5, h6⟩ := ((unhide HT).later (unhide HB)).blk
      have m1 := (cell_blk h1 N).1.trans h3
      have m2 := (cell_blk h1 (N + 1)).1.trans h4
      have i1 : (N : Int) + 1 < (N : Int) + 2 := by omega
      have i2 : (N : Int) < (N : Int) + 2 := by omega
      have c1 := hide (fun w2 b2 (hx : w2.heap[x]? = some (.cells #[.int .i64 7003] 3 (0, 0))) (hy : w2.heap[b2]? = some (.cells #[.int .i64 7003] 3 (0, 0))) => numbers_any 1 (fun _ => 7003) (some ⟨x, 0, none⟩) (some ⟨b2, 0, none⟩) 1 1 w2 (by omega) (ri_one hx) (ri_one hy))
      have c2 := hide (fun w2 b2 (hx : w2.heap[y]? = some (.cells #[.int .i64 7004] 3 (0, 0))) (hy : w2.heap[b2]? = some (.cells #[.int .i64 7004] 3 (0, 0))) => numbers_any 1 (fun _ => 7004) (some ⟨y, 0, none⟩) (some ⟨b2, 0, none⟩) 1 1 w2 (by omega) (ri_one hx) (ri_one hy))
      have HH := hide (And.intro h1 (And.intro h5 h6))
      clear h1 h3 h4 h5 h6
      have hx1 := hide (show (wr.alloc (.cells #[.int .i64 7003] 3)).heap[x]? = some (.cells #[.int .i64 7003] 3 (0, 0)) from (heap_old _ _ _ (blk_lt (unhide HH).2.1)).trans (unhide HH).2.1)
      have hbA := hide ((Below.refl wr.heap.size wr).alloc (Nat.le_refl _) (.cells #[.int .i64 7003] 3))
      have G1 := hide trivial
      go_wp2_with (first | (go_at_call 34; have _u := G1; clear _u G1; refine (unhide c1 _ _ (unhide hx1) (heap_new _ _)).mono ?_; rintro x5 w1 ⟨rfl, hb1⟩; have HB1 := hide ((unhide hbA).trans (hb1.mono (by simp))); have m3 : w1.cell? ⟨B, N + 1, none⟩ = some (.slice (some ⟨y, 0, none⟩) 1 1) := ((unhide HB1).cell (p := ⟨B, N + 1, none⟩) (blk_lt (unhide HH).1)).trans m2; have hy1 := hide (show (w1.alloc (.cells #[.int .i64 7004] 3)).heap[y]? = some (.cells #[.int .i64 7004] 3 (0, 0)) from by have hyl := blk_lt (unhide HH).2.2; rw [heap_old _ _ _ (Nat.lt_of_lt_of_le hyl (unhide HB1).size), (unhide HB1).block _ hyl]; exact (unhide HH).2.2); clear hb1) | (go_at_call 34; refine (unhide c2 _ _ (unhide hy1) (heap_new _ _)).mono ?_; rintro x6 w2 ⟨rfl, hb1⟩; have HB2 := hide (bl_t (bl_t (unhide HB1) ((Below.refl w1.heap.size w1).alloc (Nat.le_refl _) (.cells #[.int .i64 7004] 3))) hb1); clear hb1))
      go_ret
      exact ⟨rfl, bl_t (unhide HB) (unhide HB2)⟩
set_option maxHeartbeats 2000000 in
theorem stand_any (base g n cap : Nat) (f : Nat → Bool) (qa : Option Addr) (d : Nat) (w : World) (hn : n ≤ 140737488355328) (h1 : Mt base g n cap f w) (h2 : Rt w qa n f) :
    Calls Try.prog 27 #[.slice (some ⟨g, 0, none⟩) n cap, .slice qa n d] w fun e w' => e = .returned (.bool true) ∧ Below w.heap.size w w' := by
  have hcap := h1.cap
  have j1 : (n : Int) + 3 ≤ (cap : Int) := by omega
  have j2 : (n : Int) ≤ (cap : Int) := by omega
  have i1 : (n : Int) < (n : Int) + 3 := by omega
  have i2 : (n : Int) + 1 < (n : Int) + 3 := by omega
  have i3 : (n : Int) + 2 < (n : Int) + 3 := by omega
  have i4 : n ≤ n + 3 := by omega
  have c1 := hide (fun w2 (hb : Below w.heap.size w w2) => bools_any n f (some ⟨g, 0, none⟩) qa cap d w2 hn ((h1.later hb).rt) (Rt.later h2 hb))
  have HT := hide (fun w2 (hb : Below w.heap.size w w2) => show w2.cell? ⟨g, n, none⟩ = some (.bool true) ∧ w2.cell? ⟨g, n + 1, none⟩ = some (.bool false) ∧ w2.cell? ⟨g, n + 2, none⟩ = some (.bool true) from ⟨(h1.later hb).cell.2.1, (h1.later hb).cell.2.2.1, (h1.later hb).cell.2.2.2.1⟩)
  clear h1 h2
  go_enter Try.func27, Try.ntmps27
  go_wp2_with (go_at_call 17; refine (unhide c1 _ (Below.refl _ _)).mono ?_; rintro x w1 ⟨rfl, hb1⟩; obtain ⟨k1, k2, k3⟩ := unhide HT _ hb1; have HB1 := hide hb1; clear hb1)
  go_ret
  exact ⟨rfl, unhide HB1⟩
end Go.Proofs.Ytabjbppekijfiaa
