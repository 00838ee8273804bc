import Derived.Test.YtjflnpcpnoccjaaTjX
import Derived.Test.YtjflnpcpnoccjaaTmD
import Derived.Deep.RegionHeld3
namespace Go.Proofs.Ytjflnpcpnoccjaa
open Go.RowKit Go.Shelf
attribute [local go_sem] Oper.semAt_some
attribute [local simp] wide_fn
attribute [local go_sem] wide_fn

set_option maxHeartbeats 1000000 in
theorem between_in (N c g : Nat) (na : Option Addr) (nc : Nat) (n : Nat) (w : World) :
    CallsIn Fence.wide n Try.prog 69 #[.agg #[.slice (some ⟨g, 0, none⟩) N N, .int .i64 (c : Int)], .slice na N nc] w fun e w' => e = .returned (.func (.func 75) #[] #[.pointer (some ⟨w.heap.size + 1, 0, none⟩), .pointer (some ⟨w.heap.size, 0, none⟩)]) ∧ w' = (w.alloc (.cells #[.slice (some ⟨g, 0, none⟩) N N, .int .i64 (c : Int)] 62)).alloc (.cells #[.slice na N nc] 22) := by
  refine callsIn_of_wp Try.func69 rfl trivial ?_ rfl
  simp only [Try.ntmps69, List.size_toArray, List.length_cons, List.length_nil, Nat.reduceAdd, Nat.reduceSub, Array.replicate_succ, Array.replicate_zero, List.push_toArray, List.append_toArray, List.nil_append, List.cons_append]
  gi_wp2
  go_ret
  exact ⟨rfl, rfl⟩
/-- WHAT IS STILL WANTED OF between's ITERATOR. -/
def BwOk (N : Nat) (ln : Nat → Nat) (L : Nat → Nat → Int) : Prop := ∀ (n : Nat), 4 ≤ n → ∀ (l Bn Bd g : Nat) (na : Option Addr) (nc : Nat) (w : World), w.cell? ⟨Bn, 0, none⟩ = some (.slice na N nc) → w.cell? ⟨Bd, 0, none⟩ = some (.slice (some ⟨g, 0, none⟩) N N) → Rr w na N ln L → Ri w (some ⟨g, 0, none⟩) N (fun j => (pn N ln L j : Int)) → ∀ (J Jx : List (Ky (pc N ln L)) → World → Prop),
    (∀ pre x W, J pre W → pre.length < 1099511627776 → YieldAt Fence.wide (n - 1) Try.prog l (encK x) W fun e W' =>
      (e = .returned (.bool true) ∧ J (pre ++ [x]) W' ∧ Below w.heap.size W W') ∨ (e = .returned (.bool false) ∧ Jx (pre ++ [x]) W')) →
    ∀ W, Below w.heap.size w W → J [] W →
    CallsIn Fence.wide n Try.prog 75 #[.func (.yield l) #[] #[], .pointer (some ⟨Bn, 0, none⟩), .pointer (some ⟨Bd, 0, none⟩)] W fun e W' => (∃ v, e = .returned v) ∧ ((∃ xs, xs = bwE N ln L (uptE N ln L N 0) ∧ J xs W') ∨ (∃ pre, True ∧ Jx pre W'))
set_option maxRecDepth 100000 in
set_option maxHeartbeats 4000000 in
theorem condensed_of {N : Nat} {ln : Nat → Nat} {L : Nat → Nat → Int} (hbw : BwOk N ln L) (hr : rgt N ln L = true) (hN : N ≤ 1048576) {na : Option Addr} {nc g : Nat} {w : World} (hR : Rr w na N ln L) (hM : Mv g N 3 (iv fun j => (pn N ln L j : Int)) w) :
    Calls Try.prog 56 #[.agg #[.slice (some ⟨g, 0, none⟩) N N, .int .i64 (pc N ln L : Int)], .slice na N nc] w fun x w' => ∃ R ga gc, x = .returned (.slice (some ⟨R, 0, none⟩) (pc N ln L) (pc N ln L)) ∧ w.heap.size ≤ R ∧ Gs (R + 2) (pc N ln L) R (cdL N ln L) ga gc w' ∧ Below w.heap.size w w' := by
  have hpc := pc_le N ln L
  have c3 := hide (fun (W : World) (R : Nat) (ga : Nat → Option Addr) (gc : Nat → Nat) (h : Gs (R + 2) (pc N ln L) R (gw N ln L) ga gc W) => show Calls Try.prog 48 #[.slice (some ⟨R, 0, none⟩) (pc N ln L) (pc N ln L)] W fun x w' => ∃ R2 ga2 gc2, x = .returned (.slice (some ⟨R2, 0, none⟩) (pc N ln L) (pc N ln L)) ∧ W.heap.size ≤ R2 ∧ Gs (R2 + 2) (pc N ln L) R2 (cdL N ln L) ga2 gc2 w' ∧ Below W.heap.size W w' from by
    have h1 := turned_any (nc := pc N ln L) (gw_rgt hr hN) (Nat.le_trans hpc hN) (fun k _ => Nat.le_trans (gwN_le N ln L k) hN) h.rr
    rw [show tw (pc N ln L) (gwN N ln L) (gwL N ln L) = cdL N ln L from funext fun p => tw_gw hr hN p] at h1
    exact h1)
  have c2' := hide (fun (W : World) (Bn Bd : Nat) (h1 : W.cell? ⟨Bn, 0, none⟩ = some (.slice na N nc)) (h2 : W.cell? ⟨Bd, 0, none⟩ = some (.slice (some ⟨g, 0, none⟩) N N)) (h3 : Rr W na N ln L) (h4 : Ri W (some ⟨g, 0, none⟩) N (fun j => (pn N ln L j : Int))) => (callsIn_wide (n := 6)).1 (gathered_in (Nat.le_trans hpc hN) (bwE N ln L (uptE N ln L N 0)) (Nb := 1099511627776) (Nat.le_refl _) 6 (by omega) 75 #[.pointer (some ⟨Bn, 0, none⟩), .pointer (some ⟨Bd, 0, none⟩)] (enters_of Try.func75 (by kernel_rfl) rfl) W
    (fun l J Jx W2 hW _ _ hY h0 => hbw 5 (by omega) l Bn Bd g na nc W h1 h2 h3 h4 J Jx hY W2 hW h0)))
  change Hid (∀ (W : World) (Bn Bd : Nat), _ → _ → _ → _ → Calls Try.prog _ _ W fun e W' => ∃ R ga gc, e = .returned (.slice (some ⟨R, 0, none⟩) (pc N ln L) (pc N ln L)) ∧ W.heap.size ≤ R ∧ Gs (R + 2) (pc N ln L) R (gw N ln L) ga gc W' ∧ Below W.heap.size W W') at c2'
  generalize pc N ln L = c at *
  obtain ⟨W0, hW0⟩ : ∃ W, W = w.alloc (.cells #[.slice (some ⟨g, 0, none⟩) N N, .int .i64 (c : Int)] 62) := ⟨_, rfl⟩
  obtain ⟨B, hB⟩ : ∃ B, B = w.heap.size := ⟨_, rfl⟩
  have hblk : W0.heap[B]? = some (.cells #[.slice (some ⟨g, 0, none⟩) N N, .int .i64 (c : Int)] 62 (0, 0)) := by rw [hW0, hB]; exact heap_new _ _
  have hs0 : W0.heap.size = w.heap.size + 1 := by rw [hW0]; exact World.size_alloc _ _
  have hb0 : Below w.heap.size w W0 := by rw [hW0]; exact al w _
  obtain ⟨W1, hW1⟩ : ∃ W, W = (W0.drew.alloc (.cells #[.slice (some ⟨g, 0, none⟩) N N, .int .i64 (c : Int)] 62)).alloc (.cells #[.slice na N nc] 22) := ⟨_, rfl⟩
  have hb1 : Below W0.heap.size W0 W1 := by rw [hW1]; exact (((Below.refl _ _).drew).alloc (Nat.le_refl _) _).alloc (by rw [World.size_alloc]; exact Nat.le_succ _) _
  have hq0 : W1.cell? ⟨W0.drew.heap.size, 0, none⟩ = some (.slice (some ⟨g, 0, none⟩) N N) := by
    rw [hW1]
    refine (cell_blk (t := 62) ((al (W0.drew.alloc _) _).block _ (by rw [World.size_alloc]; omega) |>.trans (heap_new _ _)) 0).1
  have hq1 : W1.cell? ⟨W0.drew.heap.size + 1, 0, none⟩ = some (.slice na N nc) := by
    rw [hW1]
    have := heap_new (W0.drew.alloc (.cells #[.slice (some ⟨g, 0, none⟩) N N, .int .i64 (c : Int)] 62)) (.cells #[.slice na N nc] 22)
    rw [World.size_alloc] at this
    exact (cell_blk this 0).1
  have hsb : ∀ W2, Below W0.heap.size W0 W2 → W2.cell? ⟨B, 0, none⟩ = some (.slice (some ⟨g, 0, none⟩) N N) ∧ W2.cell? ⟨B, 1, none⟩ = some (.int .i64 (c : Int)) := fun W2 h2 => by
    have h3 := (h2.block B (by omega)).trans hblk
    exact ⟨(cell_blk h3 0).1, (cell_blk h3 1).1⟩
  have HS0 := hide (hsb W0.drew ((Below.refl _ _).drew))
  have HS1 := hide (hsb W1 hb1)
  have HSB := hide (show ∀ W2, Below W1.heap.size W1 W2 → _ from fun W2 h2 => hsb W2 (bl_t hb1 h2))
  have HSZ := hide (show w.heap.size ≤ W1.heap.size from Nat.le_trans hb0.size hb1.size)
  have HB1 := hide (bl_t hb0 hb1)
  have c1 := hide ((callsIn_wide (n := 3)).1 (between_in N c g na nc 3 W0.drew))
  have c2 := hide (unhide c2' W1 _ _ hq1 hq0 (hR.later (bl_t hb0 hb1)) (hM.later (bl_t hb0 hb1)).rv)
  have HW1 := hide hW1
  clear hM hR hq0 hq1 hsb hblk hb0 hb1 hs0 hW1 c2' hbw hr
  go_enter Try.func56, Try.ntmps56
  go_upto_region 1 with fail
  rw [← hW0, ← hB]
  clear hW0 hB
  refine wp_region_held_drew (S := fun w' => w'.cell? ⟨B, 0, none⟩ = some (.slice (some ⟨g, 0, none⟩) N N) ∧ w'.cell? ⟨B, 1, none⟩ = some (.int .i64 (c : Int))) (by kernel_rfl) (unhide HS0) (fun hHeld => ?_)
  refine wpAnyH_take (i := 0) (oi := { dst := some 5, op := Op.fieldAddr 62 (Operand.tmp 2) 1, type := 0, pos := "parts.go:22", after := #[], guard := none }) (v := ?_) rfl (by kernel_rfl) (by kernel_rfl) (by kernel_rfl) (fun _ _ _ h => h) (Or.inl ⟨by rfl, ?_⟩) (by assumption) ?_
  rotate_left
  · intro w hSw; obtain ⟨k0, k1⟩ := hSw; go_simp; (try with_reducible rfl)
  try simp only [Act.put, List.setIfInBounds_toArray, List.set_cons_zero, List.set_cons_succ]
  refine wpAnyH_take (i := 1) (oi := { dst := some 6, op := Op.load 3 (Operand.tmp 5), type := 3, pos := "parts.go:22", after := #[{ on := 0, ground := Ground.data }], guard := none }) (v := ?_) rfl (by kernel_rfl) (by kernel_rfl) (by kernel_rfl) (fun _ _ _ h => h) (Or.inl ⟨by rfl, ?_⟩) (by assumption) ?_
  rotate_left
  · intro w hSw; obtain ⟨k0, k1⟩ := hSw; go_simp; (try with_reducible rfl)
  try simp only [Act.put, List.setIfInBounds_toArray, List.set_cons_zero, List.set_cons_succ]
  refine wpAnyH_take (i := 2) (oi := { dst := some 7, op := Op.load 62 (Operand.tmp 2), type := 62, pos := "parts.go:22", after := #[], guard := none }) (v := ?_) rfl (by kernel_rfl) (by kernel_rfl) (by kernel_rfl) (fun _ _ _ h => h) (Or.inl ⟨by rfl, ?_⟩) (by assumption) ?_
  rotate_left
  · intro w hSw; obtain ⟨k0, k1⟩ := hSw; go_simp; (try with_reducible rfl)
  try simp only [Act.put, List.setIfInBounds_toArray, List.set_cons_zero, List.set_cons_succ]
  refine wpAnyH_take (i := 3) (oi := { dst := some 8, op := Op.move (Operand.tmp 1), type := 22, pos := "parts.go:22", after := #[], guard := none }) (v := ?_) rfl (by kernel_rfl) (by kernel_rfl) (by kernel_rfl) (fun _ _ _ h => h) (Or.inl ⟨by rfl, ?_⟩) (by assumption) ?_
  rotate_left
  · intro w hSw; obtain ⟨k0, k1⟩ := hSw; go_simp; (try with_reducible rfl)
  try simp only [Act.put, List.setIfInBounds_toArray, List.set_cons_zero, List.set_cons_succ]
  refine wpAnyH_ready (rs := [4]) (by kernel_rfl) (by simp) ?_
  refine AllReadyH.cons (o := { dst := some 9, op := Op.call { callee := Callee.value (Operand.func 69), args := #[Operand.tmp 7, Operand.tmp 8], argTypes := #[62, 22] }, type := 70, pos := "parts.go:22", after := #[{ on := 2, ground := Ground.data }, { on := 3, ground := Ground.data }], guard := none }) rfl (fun K hK => ?_) AllReadyH.nil
  go_simp
  refine (unhide c1).mono ?_
  rintro x1 w1 ⟨rfl, hw1⟩
  rw [← unhide HW1] at hw1
  rw [hw1]
  clear hw1 w1
  go_wp2_with fail
  refine hK.out _ _ (unhide HS1) (fun hHeld1 => ?_)
  clear hK K
  try simp only [Act.put, List.setIfInBounds_toArray, List.set_cons_zero, List.set_cons_succ]
  refine wpAnyH_ready (rs := [5]) (by kernel_rfl) (by simp) ?_
  refine AllReadyH.cons (o := { dst := some 10, op := Op.call { callee := Callee.value (Operand.func 60), args := #[Operand.tmp 6, Operand.tmp 9], argTypes := #[3, 70] }, type := 22, pos := "parts.go:22", after := #[{ on := 1, ground := Ground.data }, { on := 4, ground := Ground.data }, { on := 4, ground := Ground.chain }], guard := none }) rfl (fun K hK => ?_) AllReadyH.nil
  go_simp
  refine (unhide c2).mono ?_
  rintro x2 w2 ⟨R, ga, gc, rfl, hR2, hg2, hb2⟩
  have HS2 := hide (unhide HSB w2 hb2)
  have HX := hide (And.intro hg2 hb2)
  clear hR2 hg2 hb2
  go_wp2_with fail
  refine hK.out _ _ (unhide HS2) (fun hHeld2 => ?_)
  clear hK K
  try simp only [Act.put, List.setIfInBounds_toArray, List.set_cons_zero, List.set_cons_succ]
  refine wpAnyH_ready (rs := [6]) (by kernel_rfl) (by simp) ?_
  refine AllReadyH.cons (o := { dst := some 11, op := Op.call { callee := Callee.value (Operand.func 48), args := #[Operand.tmp 10], argTypes := #[22] }, type := 22, pos := "parts.go:22", after := #[{ on := 5, ground := Ground.data }, { on := 5, ground := Ground.chain }], guard := none }) rfl (fun K hK => ?_) AllReadyH.nil
  go_simp
  refine (unhide c3 w2 R ga gc (unhide HX).1).mono ?_
  rintro x3 w3 ⟨R3, ga3, gc3, rfl, hR3, hg3, hb3⟩
  have HS3 := hide (unhide HSB w3 (bl_t (unhide HX).2 hb3))
  have HX3 := hide (And.intro (Nat.le_trans (Nat.le_trans (unhide HSZ) (unhide HX).2.size) hR3) (And.intro hg3 (bl_t (unhide HB1) (bl_t (unhide HX).2 hb3))))
  clear hR3 hg3 hb3
  go_wp2_with fail
  refine hK.out _ _ (unhide HS3) (fun hHeld3 => ?_)
  clear hK K
  try simp only [Act.put, List.setIfInBounds_toArray, List.set_cons_zero, List.set_cons_succ]
  refine wpAnyH_take (i := 7) (oi := { dst := some 4, op := Op.assign (Operand.tmp 11), type := 22, pos := "parts.go:22", after := #[{ on := 6, ground := Ground.data }, { on := 6, ground := Ground.chain }, { on := 0, ground := Ground.phase }, { on := 1, ground := Ground.phase }, { on := 2, ground := Ground.phase }, { on := 3, ground := Ground.phase }, { on := 4, ground := Ground.phase }, { on := 5, ground := Ground.phase }, { on := 6, ground := Ground.phase }], guard := none }) (v := ?_) rfl (by kernel_rfl) (by kernel_rfl) (by kernel_rfl) (fun _ _ _ h => h) (Or.inl ⟨by rfl, ?_⟩) (by assumption) ?_
  rotate_left
  · intro w hSw; obtain ⟨k0, k1⟩ := hSw; go_simp; (try with_reducible rfl)
  try simp only [Act.put, List.setIfInBounds_toArray, List.set_cons_zero, List.set_cons_succ]
  refine wpAnyH_done (by kernel_rfl) ?_ _
  go_wp2_with fail
  go_ret
  exact ⟨R3, ga3, gc3, rfl, (unhide HX3).1, (unhide HX3).2.1, (unhide HX3).2.2⟩
end Go.Proofs.Ytjflnpcpnoccjaa
