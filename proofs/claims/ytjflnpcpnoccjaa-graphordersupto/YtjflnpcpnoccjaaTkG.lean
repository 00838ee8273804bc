import Derived.Test.YtjflnpcpnoccjaaTkF
namespace Go.Proofs.Ytjflnpcpnoccjaa
open Go.RowKit Go.Shelf
attribute [local go_sem] Oper.semAt_some
attribute [local simp] wide_fn
attribute [local go_sem] wide_fn

set_option maxRecDepth 100000 in
set_option maxHeartbeats 4000000 in
theorem condensed_any {N : Nat} {ln : Nat → Nat} {L : Nat → Nat → Int} (hr : rgt N ln L = true) (hN : N ≤ 1048576) (hln : ∀ k, k < N → ln k ≤ 1048576) {na : Option Addr} {nc g : Nat} {w : World} (hR : Rr w na N ln L) (hM : Mv g N 3 (iv fun j => (pn N ln L j : Int)) w) :
    Calls Try.prog 56 #[.agg #[.slice (some ⟨g, 0, none⟩) N N, .int .i64 (pc N ln L : Int)], .slice na N nc] w fun x w' => ∃ R ga gc, x = .returned (.slice (some ⟨R, 0, none⟩) (pc N ln L) (pc N ln L)) ∧ w.heap.size ≤ R ∧ Gs (R + 2) (pc N ln L) R (cdL N ln L) ga gc w' ∧ Below w.heap.size w w' := by
  have hpc := pc_le N ln L
  have c3 := hide (fun (W : World) (R : Nat) (ga : Nat → Option Addr) (gc : Nat → Nat) (h : Gs (R + 2) (pc N ln L) R (gw N ln L) ga gc W) => show Calls Try.prog 48 #[.slice (some ⟨R, 0, none⟩) (pc N ln L) (pc N ln L)] W fun x w' => ∃ R2 ga2 gc2, x = .returned (.slice (some ⟨R2, 0, none⟩) (pc N ln L) (pc N ln L)) ∧ W.heap.size ≤ R2 ∧ Gs (R2 + 2) (pc N ln L) R2 (cdL N ln L) ga2 gc2 w' ∧ Below W.heap.size W w' from by
    have h1 := turned_any (nc := pc N ln L) (gw_rgt hr hN) (Nat.le_trans hpc hN) (fun k _ => Nat.le_trans (gwN_le N ln L k) hN) h.rr
    rw [show tw (pc N ln L) (gwN N ln L) (gwL N ln L) = cdL N ln L from funext fun p => tw_gw hr hN p] at h1
    exact h1)
  have c2' := hide (fun (W : World) (Bn Bd : Nat) (h1 : W.cell? ⟨Bn, 0, none⟩ = some (.slice na N nc)) (h2 : W.cell? ⟨Bd, 0, none⟩ = some (.slice (some ⟨g, 0, none⟩) N N)) (h3 : Rr W na N ln L) (h4 : Ri W (some ⟨g, 0, none⟩) N (fun j => (pn N ln L j : Int))) => (callsIn_wide (n := 6)).1 (gathered_net (Nat.le_trans hpc hN) (bwE N ln L (uptE N ln L N 0)) (Nb := 1099511627776) (Nat.le_refl _) 6 (by omega) 75 #[.pointer (some ⟨Bn, 0, none⟩), .pointer (some ⟨Bd, 0, none⟩)] (enters_of Try.func75 (by kernel_rfl) rfl) W (between1_net hr hN hln 5 (by omega) Bn Bd g h1 h2 h3 h4)))
  change Hid (∀ (W : World) (Bn Bd : Nat), _ → _ → _ → _ → Calls Try.prog _ _ W fun e W' => ∃ R ga gc, e = .returned (.slice (some ⟨R, 0, none⟩) (pc N ln L) (pc N ln L)) ∧ W.heap.size ≤ R ∧ Gs (R + 2) (pc N ln L) R (gw N ln L) ga gc W' ∧ Below W.heap.size W W') at c2'
  generalize pc N ln L = c at *
  obtain ⟨W0, hW0⟩ : ∃ W, W = w.alloc (.cells #[.slice (some ⟨g, 0, none⟩) N N, .int .i64 (c : Int)] 62) := ⟨_, rfl⟩
  obtain ⟨B, hB⟩ : ∃ B, B = w.heap.size := ⟨_, rfl⟩
  have hblk : W0.heap[B]? = some (.cells #[.slice (some ⟨g, 0, none⟩) N N, .int .i64 (c : Int)] 62 (0, 0)) := by rw [hW0, hB]; exact heap_new _ _
  have hs0 : W0.heap.size = w.heap.size + 1 := by rw [hW0]; exact World.size_alloc _ _
  have hb0 : Below w.heap.size w W0 := by rw [hW0]; exact al w _
  obtain ⟨W1, hW1⟩ : ∃ W, W = (W0.drew.alloc (.cells #[.slice (some ⟨g, 0, none⟩) N N, .int .i64 (c : Int)] 62)).alloc (.cells #[.slice na N nc] 22) := ⟨_, rfl⟩
  have hb1 : Below W0.heap.size W0 W1 := by rw [hW1]; exact (((Below.refl _ _).drew).alloc (Nat.le_refl _) _).alloc (by rw [World.size_alloc]; exact Nat.le_succ _) _
  have hq0 : W1.cell? ⟨W0.drew.heap.size, 0, none⟩ = some (.slice (some ⟨g, 0, none⟩) N N) := by
    rw [hW1]
    refine (cell_blk (t := 62) ((al (W0.drew.alloc _) _).block _ (by rw [World.size_alloc]; omega) |>.trans (heap_new _ _)) 0).1
  have hq1 : W1.cell? ⟨W0.drew.heap.size + 1, 0, none⟩ = some (.slice na N nc) := by
    rw [hW1]
    have := heap_new (W0.drew.alloc (.cells #[.slice (some ⟨g, 0, none⟩) N N, .int .i64 (c : Int)] 62)) (.cells #[.slice na N nc] 22)
    rw [World.size_alloc] at this
    exact (cell_blk this 0).1
  have hsb : ∀ W2, Below W0.heap.size W0 W2 → W2.cell? ⟨B, 0, none⟩ = some (.slice (some ⟨g, 0, none⟩) N N) ∧ W2.cell? ⟨B, 1, none⟩ = some (.int .i64 (c : Int)) := fun W2 h2 => by
    have h3 := (h2.block B (by omega)).trans hblk
    exact ⟨(cell_blk h3 0).1, (cell_blk h3 1).1⟩
  have HS0 := hide (hsb W0.drew ((Below.refl _ _).drew))
  have HS1 := hide (hsb W1 hb1)
  have HSB := hide (show ∀ W2, Below W1.heap.size W1 W2 → _ from fun W2 h2 => hsb W2 (bl_t hb1 h2))
  have HSZ := hide (show w.heap.size ≤ W1.heap.size from Nat.le_trans hb0.size hb1.size)
  have HB1 := hide (bl_t hb0 hb1)
  have c1 := hide ((callsIn_wide (n := 3)).1 (between_in N c g na nc 3 W0.drew))
  have c2 := hide (unhide c2' W1 _ _ hq1 hq0 (hR.later (bl_t hb0 hb1)) (hM.later (bl_t hb0 hb1)).rv)
  have HW1 := hide hW1
  clear hM hR hq0 hq1 hsb hblk hb0 hb1 hs0 hW1 c2' hln hr
  go_enter Try.func56, Try.ntmps56
  go_upto_region 1 with fail
  rw [← hW0, ← hB]
  clear hW0 hB
  refine wp_region_held_drew (S := fun w' => w'.cell? ⟨B, 0, none⟩ = some (.slice (some ⟨g, 0, none⟩) N N) ∧ w'.cell? ⟨B, 1, none⟩ = some (.int .i64 (c : Int))) (by kernel_rfl) (unhide HS0) (fun hHeld => ?_)
  refine wpAnyH_take (i := 0) (oi := { dst := some 5, op := Op.fieldAddr 62 (Operand.tmp 2) 1, type := 0, pos := "parts.go:22", after := #[], guard := none }) (v := ?_) rfl (by kernel_rfl) (by kernel_rfl) (by kernel_rfl) (fun _ _ _ h => h) (Or.inl ⟨by rfl, ?_⟩) (by assumption) ?_
  rotate_left
  · intro w hSw; obtain ⟨k0, k1⟩ := hSw; go_simp; (try with_reducible rfl)
  try simp only [Act.put, List.setIfInBounds_toArray, List.set_cons_zero, List.set_cons_succ]
  refine wpAnyH_take (i := 1) (oi := { dst := some 6, op := Op.load 3 (Operand.tmp 5), type := 3, pos := "parts.go:22", after := #[{ on := 0, ground := Ground.data }], guard := none }) (v := ?_) rfl (by kernel_rfl) (by kernel_rfl) (by kernel_rfl) (fun _ _ _ h => h) (Or.inl ⟨by rfl, ?_⟩) (by assumption) ?_
  rotate_left
  · intro w hSw; obtain ⟨k0, k1⟩ := hSw; go_simp; (try with_reducible rfl)
  try simp only [Act.put, List.setIfInBounds_toArray, List.set_cons_zero, List.set_cons_succ]
  refine wpAnyH_take (i := 2) (oi := { dst := some 7, op := Op.load 62 (Operand.tmp 2), type := 62, pos := "parts.go:22", after := #[], guard := none }) (v := ?_) rfl (by kernel_rfl) (by kernel_rfl) (by kernel_rfl) (fun _ _ _ h => h) (Or.inl ⟨by rfl, ?_⟩) (by assumption) ?_
  rotate_left
  · intro w hSw; obtain ⟨k0, k1⟩ := hSw; go_simp; (try with_reducible rfl)
  try simp only [Act.put, List.setIfInBounds_toArray, List.set_cons_zero, List.set_cons_succ]
  refine wpAnyH_take (i := 3) (oi := { dst := some 8, op := Op.move (Operand.tmp 1), type := 22, pos := "parts.go:22", after := #[], guard := none }) (v := ?_) rfl (by kernel_rfl) (by kernel_rfl) (by kernel_rfl) (fun _ _ _ h => h) (Or.inl ⟨by rfl, ?_⟩) (by assumption) ?_
  rotate_left
  · intro w hSw; obtain ⟨k0, k1⟩ := hSw; go_simp; (try with_reducible rfl)
  try simp only [Act.put, List.setIfInBounds_toArray, List.set_cons_zero, List.set_cons_succ]
  refine wpAnyH_ready (rs := [4]) (by kernel_rfl) (by simp) ?_
  refine AllReadyH.cons (o := { dst := some 9, op := Op.call { callee := Callee.value (Operand.func 69), args := #[Operand.tmp 7, Operand.tmp 8], argTypes := #[62, 22] }, type := 70, pos := "parts.go:22", after := #[{ on := 2, ground := Ground.data }, { on := 3, ground := Ground.data }], guard := none }) rfl (fun K hK => ?_) AllReadyH.nil
  go_simp
  refine (unhide c1).mono ?_
  rintro x1 w1 ⟨rfl, hw1⟩
  rw [← unhide HW1] at hw1
  rw [hw1]
  clear hw1 w1
  go_wp2_with fail
  refine hK.out _ _ (unhide HS1) (fun hHeld1 => ?_)
  clear hK K
  try simp only [Act.put, List.setIfInBounds_toArray, List.set_cons_zero, List.set_cons_succ]
  refine wpAnyH_ready (rs := [5]) (by kernel_rfl) (by simp) ?_
  refine AllReadyH.cons (o := { dst := some 10, op := Op.call { callee := Callee.value (Operand.func 60), args := #[Operand.tmp 6, Operand.tmp 9], argTypes := #[3, 70] }, type := 22, pos := "parts.go:22", after := #[{ on := 1, ground := Ground.data }, { on := 4, ground := Ground.data }, { on := 4, ground := Ground.chain }], guard := none }) rfl (fun K hK => ?_) AllReadyH.nil
  go_simp
  refine (unhide c2).mono ?_
  rintro x2 w2 ⟨R, ga, gc, rfl, hR2, hg2, hb2⟩
  have HS2 := hide (unhide HSB w2 hb2)
  have HX := hide (And.intro hg2 hb2)
  clear hR2 hg2 hb2
  go_wp2_with fail
  refine hK.out _ _ (unhide HS2) (fun hHeld2 => ?_)
  clear hK K
  try simp only [Act.put, List.setIfInBounds_toArray, List.set_cons_zero, List.set_cons_succ]
  refine wpAnyH_ready (rs := [6]) (by kernel_rfl) (by simp) ?_
  refine AllReadyH.cons (o := { dst := some 11, op := Op.call { callee := Callee.value (Operand.func 48), args := #[Operand.tmp 10], argTypes := #[22] }, type := 22, pos := "parts.go:22", after := #[{ on := 5, ground := Ground.data }, { on := 5, ground := Ground.chain }], guard := none }) rfl (fun K hK => ?_) AllReadyH.nil
  go_simp
  refine (unhide c3 w2 R ga gc (unhide HX).1).mono ?_
  rintro x3 w3 ⟨R3, ga3, gc3, rfl, hR3, hg3, hb3⟩
  have HS3 := hide (unhide HSB w3 (bl_t (unhide HX).2 hb3))
  have HX3 := hide (And.intro (Nat.le_trans (Nat.le_trans (unhide HSZ) (unhide HX).2.size) hR3) (And.intro hg3 (bl_t (unhide HB1) (bl_t (unhide HX).2 hb3))))
  clear hR3 hg3 hb3
  go_wp2_with fail
  refine hK.out _ _ (unhide HS3) (fun hHeld3 => ?_)
  clear hK K
  try simp only [Act.put, List.setIfInBounds_toArray, List.set_cons_zero, List.set_cons_succ]
  refine wpAnyH_take (i := 7) (oi := { dst := some 4, op := Op.assign (Operand.tmp 11), type := 22, pos := "parts.go:22", after := #[{ on := 6, ground := Ground.data }, { on := 6, ground := Ground.chain }, { on := 0, ground := Ground.phase }, { on := 1, ground := Ground.phase }, { on := 2, ground := Ground.phase }, { on := 3, ground := Ground.phase }, { on := 4, ground := Ground.phase }, { on := 5, ground := Ground.phase }, { on := 6, ground := Ground.phase }], guard := none }) (v := ?_) rfl (by kernel_rfl) (by kernel_rfl) (by kernel_rfl) (fun _ _ _ h => h) (Or.inl ⟨by rfl, ?_⟩) (by assumption) ?_
  rotate_left
  · intro w hSw; obtain ⟨k0, k1⟩ := hSw; go_simp; (try with_reducible rfl)
  try simp only [Act.put, List.setIfInBounds_toArray, List.set_cons_zero, List.set_cons_succ]
  refine wpAnyH_done (by kernel_rfl) ?_ _
  go_wp2_with fail
  go_ret
  exact ⟨R3, ga3, gc3, rfl, (unhide HX3).1, (unhide HX3).2.1, (unhide HX3).2.2⟩
set_option maxRecDepth 100000 in
set_option maxHeartbeats 4000000 in
theorem Condense_any {N : Nat} {ln : Nat → Nat} {L : Nat → Nat → Int} {na : Option Addr} {nc : Nat} {w : World} (hN : N ≤ 1048576) (hln : ∀ k, k < N → ln k ≤ 1048576) (hR : Rr w na N ln L) :
    Calls Try.prog 27 #[.slice na N nc] w fun x w' => ∃ ga R ra rc, x = .returned (.tuple #[.slice ga (ptN N ln L) (ptN N ln L), .int .i64 (ptE N ln L)]) ∧ AnG w.heap.size ga R (ptN N ln L) (cdL N ln L) ra rc w' ∧ Below w.heap.size w w' := by
  have c1 := hide (isRight_any N ln L na nc w (by omega) (fun k hk => by have := hln k hk; omega) hR)
  unfold ptN ptE
  cases hr : rgt N ln L with
  | false =>
    rw [hr] at c1
    rw [if_neg (by simp), if_neg (by simp)]
    clear hR hln
    go_enter Try.func27, Try.ntmps27
    go_wp2_with (go_at_call 43; refine (unhide c1).mono ?_; rintro x1 w1 ⟨rfl, hw1⟩; rw [hw1]; clear hw1 w1)
    go_ret2
    exact ⟨none, 0, fun _ => none, fun _ => 0, rfl, .inl ⟨rfl, rfl⟩, Below.refl _ _⟩
  | true =>
    rw [hr] at c1
    rw [if_pos rfl, if_pos rfl]
    have c2 := hide (divide_any (nc := nc) hr hN hln hR)
    have c3 := hide (fun (W : World) (hW : Below w.heap.size w W) (g : Nat) (h : Mv g N 3 (iv fun j => (pn N ln L j : Int)) W) => condensed_any (nc := nc) hr hN hln (hR.later hW) h)
    clear hR hln hr
    generalize pc N ln L = pcn at *
    go_enter Try.func27, Try.ntmps27
    go_wp2_with (first | (go_at_call 43; refine (unhide c1).mono ?_; rintro x1 w1 ⟨rfl, hw1⟩; rw [hw1]; clear hw1 w1) | (go_at_call 53; refine (unhide c2).mono ?_; rintro x2 w2 ⟨g2, rfl, q1, q2, q3⟩; have H2 := hide (And.intro q1 (And.intro q2 q3)); clear q1 q2 q3) | (go_at_call 56; refine (unhide c3 _ (unhide H2).2.2 _ (unhide H2).2.1.mv).mono ?_; rintro x3 w3 ⟨R, ra, rc, rfl, q1, q2, q3⟩; have H3 := hide (And.intro (Nat.le_trans (unhide H2).2.2.size q1) (And.intro q2 (bl_t (unhide H2).2.2 q3))); clear q1 q2 q3))
    go_ret2
    exact ⟨_, R, ra, rc, rfl, .inr ⟨rfl, (unhide H3).1, (unhide H3).2.1⟩, (unhide H3).2.2⟩
end Go.Proofs.Ytjflnpcpnoccjaa
