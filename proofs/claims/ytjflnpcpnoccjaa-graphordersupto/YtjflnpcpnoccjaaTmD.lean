import Derived.Test.YtjflnpcpnoccjaaTmC
import Derived.Deep.RegionHeld3
import Derived.Test.YtjflnpcpnoccjaaGrG
namespace Go.Proofs.Ytjflnpcpnoccjaa
open Go.RowKit Go.Shelf
attribute [local go_sem] Oper.semAt_some
attribute [local simp] wide_fn
attribute [local go_sem] wide_fn

/-- THE NODES WITH THEIR PARTS' PLACES, AS THEY COME. -/
def ak (c : Nat) (f : Nat → Nat) (i : Nat) : Option (Ky c) := if h : i < 9007199254740992 ∧ f i < c then some ⟨(i, f i), h⟩ else none
def allE (c : Nat) (f : Nat → Nat) (k : Nat) : List (Ky c) := (List.range k).filterMap (ak c f)
theorem ak_some {c : Nat} {f : Nat → Nat} {i : Nat} (h1 : i < 9007199254740992) (h2 : f i < c) : ak c f i = some ⟨(i, f i), ⟨h1, h2⟩⟩ := by
  unfold ak
  rw [dif_pos ⟨h1, h2⟩]
theorem allE_next {c : Nat} {f : Nat → Nat} {k : Nat} (h1 : k < 9007199254740992) (h2 : f k < c) : allE c f (k + 1) = allE c f k ++ [⟨(k, f k), ⟨h1, h2⟩⟩] := by
  unfold allE
  rw [List.range_succ, List.filterMap_append]
  simp [ak_some h1 h2]
theorem allE_len (c : Nat) (f : Nat → Nat) (k : Nat) : (allE c f k).length ≤ k := by
  have := List.length_filterMap_le (ak c f) (List.range k)
  rw [List.length_range] at this
  exact this
/-- The nodes of a part, rising. -/
def ptL (f : Nat → Nat) (k p : Nat) : List Nat := (List.range k).filter fun i => f i == p
theorem ptL_succ (f : Nat → Nat) (k p : Nat) : ptL f (k + 1) p = if f k = p then ptL f k p ++ [k] else ptL f k p := by
  unfold ptL
  rw [List.range_succ, List.filter_append]
  by_cases e : f k = p
  · rw [if_pos e]; simp [e]
  · rw [if_neg e]; simp [e]
theorem ptL_lt {f : Nat → Nat} {k p x : Nat} (h : x ∈ ptL f k p) : x < k ∧ f x = p := by
  unfold ptL at h
  simpa using h
theorem gth_allE {c : Nat} {f : Nat → Nat} : ∀ k, k < 9007199254740992 → (∀ i, i < k → f i < c) → gth (allE c f k) = ptL f k
  | 0, _, _ => by funext p; rfl
  | k + 1, hk, h => by
    rw [allE_next (by omega) (h k (by omega)), gth_snoc, gth_allE k (by omega) fun i hi => h i (by omega)]
    funext p
    unfold gst
    rw [ptL_succ]
    dsimp only
    by_cases e : p = f k
    · subst e
      rw [if_pos rfl, if_pos rfl, if_neg]
      intro q
      have := (ptL_lt (List.mem_of_getLast? q)).1
      omega
    · rw [if_neg e, if_neg (fun q => e q.symm)]
set_option maxHeartbeats 1000000 in
theorem all_in (N : Nat) (na : Option Addr) (nc : Nat) (n : Nat) (w : World) :
    CallsIn Fence.wide n Try.prog 65 #[.slice na N nc] w fun e w' => e = .returned (.func (.func 72) #[] #[.pointer (some ⟨w.heap.size, 0, none⟩)]) ∧ w' = w.alloc (.cells #[.slice na N nc] 23) := by
  refine callsIn_of_wp Try.func65 rfl trivial ?_ rfl
  simp only [Try.ntmps65, List.size_toArray, List.length_cons, List.length_nil, Nat.reduceAdd, Nat.reduceSub, Array.replicate_succ, Array.replicate_zero, List.push_toArray, List.append_toArray, List.nil_append, List.cons_append]
  gi_wp2
  go_ret
  exact ⟨rfl, rfl⟩
set_option maxRecDepth 100000 in
set_option maxHeartbeats 4000000 in
theorem all1_in {N c : Nat} {f : Nat → Nat} (hN : N ≤ 1048576) (hf : ∀ i, i < N → f i < c) (n : Nat) (hn : 1 ≤ n) (l Bn : Nat) {na : Option Addr} {nc : Nat} {w : World} (hc : w.cell? ⟨Bn, 0, none⟩ = some (.slice na N nc)) (hR : Ri w na N (fun j => (f j : Int))) (J Jx : List (Ky c) → World → Prop)
    (hY : ∀ pre x W, J pre W → pre.length < 1099511627776 → YieldAt Fence.wide (n - 1) Try.prog l (encK x) W fun e W' =>
      (e = .returned (.bool true) ∧ J (pre ++ [x]) W' ∧ Below w.heap.size W W') ∨ (e = .returned (.bool false) ∧ Jx (pre ++ [x]) W'))
    (W : World) (hW : Below w.heap.size w W) (h0 : J [] W) :
    CallsIn Fence.wide n Try.prog 72 #[.func (.yield l) #[] #[], .pointer (some ⟨Bn, 0, none⟩)] W fun e W' => (∃ v, e = .returned v) ∧ ((∃ xs, xs = allE c f N ∧ J xs W') ∨ (∃ pre, True ∧ Jx pre W')) := by
  have hBn := World.block_lt_of_cell? _ _ hc
  have hcW : W.cell? ⟨Bn, 0, none⟩ = some (.slice na N nc) := (hW.cell (p := ⟨Bn, 0, none⟩) hBn).trans hc
  have HF := hide hf
  have HR := hide hR
  have HY := hide hY
  have HW := hide hW
  have HJ := hide (show J (allE c f 0) W from h0)
  clear hf hR hY hW h0 hc hBn
  refine callsIn_of_wp Try.func72 rfl trivial ?_ rfl
  simp only [Try.ntmps72, List.size_toArray, List.length_cons, List.length_nil, Nat.reduceAdd, Nat.reduceSub, Array.replicate_succ, Array.replicate_zero, List.push_toArray, List.append_toArray, List.nil_append, List.cons_append]
  gi_wp2
  gi_loopg [3, 4, 7] N (fun g1 _ _ vi wr => ∃ u : Nat, vi = .int .i64 u ∧ u ≤ N ∧ N - u ≤ g1 ∧ Hid (Below w.heap.size w wr) ∧ Hid (J (allE c f u) wr))
  case atStart => exact ⟨0, by go_num, by omega, by omega, HW, HJ⟩
  case round =>
    clear HW HJ
    obtain ⟨u, rfl, hu, hg1, HW, HJ⟩ := hrel
    by_cases hlt : u < N
    · obtain ⟨b2, o2, rfl, _, hc2⟩ := ((unhide HR).later (unhide HW)).at hlt
      unfold iv at hc2
      have HEX := hide (allE_next (c := c) (f := f) (k := u) (by omega) (unhide HF u hlt))
      have hlen : (allE c f u).length < 1099511627776 := by
        have := allE_len c f u
        omega
      have HYY := hide (unhide HY (allE c f u) ⟨(u, f u), ⟨by omega, unhide HF u hlt⟩⟩ wr (unhide HJ) hlen)
      obtain ⟨fn, tmps, assign, body, hy, hR2⟩ := unhide HYY
      have HR2 := hide hR2
      have hc3 : wr.cell? ⟨b2, o2 + u, none⟩ = some (.int .i64 (f u : Int)) := hc2
      clear hR2 HYY hlen hc2
      gi_wp2
      refine (unhide HR2).mono ?_
      rintro e W3 (⟨rfl, hJ3, hk3⟩ | ⟨rfl, hJx3⟩)
      · have HW3 := hide ((unhide HW).trans hk3)
        have HJ3 := hide hJ3
        rw [← unhide HEX] at HJ3
        clear hJ3 hk3
        gi_wp2
        gi_roundg (N - (u + 1))
        case measure => omega
        case rel => exact ⟨u + 1, by go_num, by omega, by omega, HW3, HJ3⟩
      · gi_wp2
        refine bodyPost_ret (results_none rfl _ _ _) rfl ?_
        exact ⟨⟨_, rfl⟩, .inr ⟨_, trivial, hJx3⟩⟩
    · obtain rfl : u = N := by omega
      gi_wp2
      go_end0
      exact ⟨⟨_, rfl⟩, .inl ⟨_, rfl, unhide HJ⟩⟩
end Go.Proofs.Ytjflnpcpnoccjaa

namespace Go.Proofs.Ytjflnpcpnoccjaa
open Go.RowKit Go.Shelf

set_option maxRecDepth 100000 in
set_option maxHeartbeats 4000000 in
theorem parts_any {N c : Nat} {f : Nat → Nat} (hN : N ≤ 1048576) (hc : c ≤ 1048576) (hf : ∀ i, i < N → f i < c) {g : Nat} {w : World} (hM : Mv g N 3 (iv fun j => (f j : Int)) w) :
    Calls Try.prog 54 #[.agg #[.slice (some ⟨g, 0, none⟩) N N, .int .i64 (c : Int)]] w fun x w' => ∃ R ga gc, x = .returned (.slice (some ⟨R, 0, none⟩) c c) ∧ w.heap.size ≤ R ∧ Gs (R + 2) c R (ptL f N) ga gc w' ∧ Below w.heap.size w w' := by
  obtain ⟨W0, hW0⟩ : ∃ W, W = w.alloc (.cells #[.slice (some ⟨g, 0, none⟩) N N, .int .i64 (c : Int)] 62) := ⟨_, rfl⟩
  obtain ⟨B, hB⟩ : ∃ B, B = w.heap.size := ⟨_, rfl⟩
  have hblk : W0.heap[B]? = some (.cells #[.slice (some ⟨g, 0, none⟩) N N, .int .i64 (c : Int)] 62 (0, 0)) := by rw [hW0, hB]; exact heap_new _ _
  have hs0 : W0.heap.size = w.heap.size + 1 := by rw [hW0]; exact World.size_alloc _ _
  have hb0 : Below w.heap.size w W0 := by rw [hW0]; exact al w _
  obtain ⟨W1, hW1⟩ : ∃ W, W = W0.drew.alloc (.cells #[.slice (some ⟨g, 0, none⟩) N N] 23) := ⟨_, rfl⟩
  have hb1 : Below W0.heap.size W0 W1 := by rw [hW1]; exact ((Below.refl _ _).drew).alloc (Nat.le_refl _) _
  have hc1 : W1.cell? ⟨W0.drew.heap.size, 0, none⟩ = some (.slice (some ⟨g, 0, none⟩) N N) := by rw [hW1]; exact (cell_blk (heap_new _ _) 0).1
  have hri : Ri W1 (some ⟨g, 0, none⟩) N (fun j => (f j : Int)) := (hM.later (bl_t hb0 hb1)).rv
  have hsb : ∀ W2, Below W0.heap.size W0 W2 → W2.cell? ⟨B, 0, none⟩ = some (.slice (some ⟨g, 0, none⟩) N N) ∧ W2.cell? ⟨B, 1, none⟩ = some (.int .i64 (c : Int)) := fun W2 h2 => by
    have h3 := (h2.block B (by omega)).trans hblk
    exact ⟨(cell_blk h3 0).1, (cell_blk h3 1).1⟩
  have HS0 := hide (hsb W0.drew ((Below.refl _ _).drew))
  have HS1 := hide (hsb W1 hb1)
  have HSB := hide (show ∀ W2, Below W1.heap.size W1 W2 → _ from fun W2 h2 => hsb W2 (bl_t hb1 h2))
  have HSZ := hide (show w.heap.size ≤ W1.heap.size from Nat.le_trans hb0.size hb1.size)
  have HB1 := hide (bl_t hb0 hb1)
  have c1 := hide ((callsIn_wide (n := 3)).1 (all_in N (some ⟨g, 0, none⟩) N 3 W0.drew))
  have c2 := hide ((callsIn_wide (n := 4)).1 (gathered_in hc (allE c f N) (Nb := 1099511627776) (Nat.le_refl _) 4 (by omega) 72 #[.pointer (some ⟨W0.drew.heap.size, 0, none⟩)] (enters_of Try.func72 (by kernel_rfl) rfl) W1
    (fun l J Jx W hW _ _ hY h0 => all1_in hN hf 3 (by omega) l W0.drew.heap.size hc1 hri J Jx hY W hW h0)))
  rw [gth_allE N (by omega) hf] at c2
  have HW1 := hide hW1
  clear hM hc1 hri hsb hblk hb0 hb1 hs0 hf hW1
  go_enter Try.func54, Try.ntmps54
  go_upto_region 1 with fail
  rw [← hW0, ← hB]
  clear hW0 hB
  refine wp_region_held_drew (S := fun w' => w'.cell? ⟨B, 0, none⟩ = some (.slice (some ⟨g, 0, none⟩) N N) ∧ w'.cell? ⟨B, 1, none⟩ = some (.int .i64 (c : Int))) (by kernel_rfl) (unhide HS0) (fun hHeld => ?_)
  refine wpAnyH_take (i := 0) (oi := { dst := some 3, op := Op.fieldAddr 62 (Operand.tmp 1) 1, type := 0, pos := "parts.go:19", after := #[], guard := none }) (v := ?_) rfl (by kernel_rfl) (by kernel_rfl) (by kernel_rfl) (fun _ _ _ h => h) (Or.inl ⟨by rfl, ?_⟩) (by assumption) ?_
  rotate_left
  · intro w hSw; obtain ⟨k0, k1⟩ := hSw; go_simp; (try with_reducible rfl)
  try simp only [Act.put, List.setIfInBounds_toArray, List.set_cons_zero, List.set_cons_succ]
  refine wpAnyH_take (i := 1) (oi := { dst := some 4, op := Op.load 3 (Operand.tmp 3), type := 3, pos := "parts.go:19", after := #[{ on := 0, ground := Ground.data }], guard := none }) (v := ?_) rfl (by kernel_rfl) (by kernel_rfl) (by kernel_rfl) (fun _ _ _ h => h) (Or.inl ⟨by rfl, ?_⟩) (by assumption) ?_
  rotate_left
  · intro w hSw; obtain ⟨k0, k1⟩ := hSw; go_simp; (try with_reducible rfl)
  try simp only [Act.put, List.setIfInBounds_toArray, List.set_cons_zero, List.set_cons_succ]
  refine wpAnyH_take (i := 2) (oi := { dst := some 5, op := Op.fieldAddr 62 (Operand.tmp 1) 0, type := 0, pos := "parts.go:19", after := #[], guard := none }) (v := ?_) rfl (by kernel_rfl) (by kernel_rfl) (by kernel_rfl) (fun _ _ _ h => h) (Or.inl ⟨by rfl, ?_⟩) (by assumption) ?_
  rotate_left
  · intro w hSw; obtain ⟨k0, k1⟩ := hSw; go_simp; (try with_reducible rfl)
  try simp only [Act.put, List.setIfInBounds_toArray, List.set_cons_zero, List.set_cons_succ]
  refine wpAnyH_take (i := 3) (oi := { dst := some 6, op := Op.load 23 (Operand.tmp 5), type := 23, pos := "parts.go:19", after := #[{ on := 2, ground := Ground.data }], guard := none }) (v := ?_) rfl (by kernel_rfl) (by kernel_rfl) (by kernel_rfl) (fun _ _ _ h => h) (Or.inl ⟨by rfl, ?_⟩) (by assumption) ?_
  rotate_left
  · intro w hSw; obtain ⟨k0, k1⟩ := hSw; go_simp; (try with_reducible rfl)
  try simp only [Act.put, List.setIfInBounds_toArray, List.set_cons_zero, List.set_cons_succ]
  refine wpAnyH_ready (rs := [4]) (by kernel_rfl) (by simp) ?_
  refine AllReadyH.cons (o := { dst := some 7, op := Op.call { callee := Callee.value (Operand.func 65), args := #[Operand.tmp 6], argTypes := #[23] }, type := 70, pos := "parts.go:19", after := #[{ on := 3, ground := Ground.data }], guard := none }) rfl (fun K hK => ?_) AllReadyH.nil
  go_simp
  refine (unhide c1).mono ?_
  rintro x1 w1 ⟨rfl, hw1⟩
  rw [← unhide HW1] at hw1
  rw [hw1]
  clear hw1 w1
  go_wp2_with fail
  refine hK.out _ _ (unhide HS1) (fun hHeld1 => ?_)
  clear hK K
  try simp only [Act.put, List.setIfInBounds_toArray, List.set_cons_zero, List.set_cons_succ]
  refine wpAnyH_ready (rs := [5]) (by kernel_rfl) (by simp) ?_
  refine AllReadyH.cons (o := { dst := some 8, op := Op.call { callee := Callee.value (Operand.func 60), args := #[Operand.tmp 4, Operand.tmp 7], argTypes := #[3, 70] }, type := 22, pos := "parts.go:19", after := #[{ on := 1, ground := Ground.data }, { on := 4, ground := Ground.data }, { on := 4, ground := Ground.chain }], guard := none }) rfl (fun K hK => ?_) AllReadyH.nil
  go_simp
  refine (unhide c2).mono ?_
  rintro x2 w2 ⟨R, ga, gc, rfl, hR2, hg2, hb2⟩
  have HS2 := hide (unhide HSB w2 hb2)
  have HX := hide (And.intro (Nat.le_trans (unhide HSZ) hR2) (And.intro hg2 (bl_t (unhide HB1) hb2)))
  clear hR2 hg2 hb2
  go_wp2_with fail
  refine hK.out _ _ (unhide HS2) (fun hHeld2 => ?_)
  clear hK K
  try simp only [Act.put, List.setIfInBounds_toArray, List.set_cons_zero, List.set_cons_succ]
  refine wpAnyH_take (i := 6) (oi := { dst := some 2, op := Op.assign (Operand.tmp 8), type := 22, pos := "parts.go:19", after := #[{ on := 5, ground := Ground.data }, { on := 5, ground := Ground.chain }, { on := 0, ground := Ground.phase }, { on := 1, ground := Ground.phase }, { on := 2, ground := Ground.phase }, { on := 3, ground := Ground.phase }, { on := 4, ground := Ground.phase }, { on := 5, ground := Ground.phase }], guard := none }) (v := ?_) rfl (by kernel_rfl) (by kernel_rfl) (by kernel_rfl) (fun _ _ _ h => h) (Or.inl ⟨by rfl, ?_⟩) (by assumption) ?_
  rotate_left
  · intro w hSw; obtain ⟨k0, k1⟩ := hSw; go_simp; (try with_reducible rfl)
  try simp only [Act.put, List.setIfInBounds_toArray, List.set_cons_zero, List.set_cons_succ]
  refine wpAnyH_done (by kernel_rfl) ?_ _
  go_wp2_with fail
  go_ret
  exact ⟨R, ga, gc, rfl, (unhide HX).1, (unhide HX).2.1, (unhide HX).2.2⟩
end Go.Proofs.Ytjflnpcpnoccjaa

namespace Go.Proofs.Ytjflnpcpnoccjaa
open Go.RowKit Go.Shelf

/-- Lists that are an answer: none, or lists of their own. -/
def AnG (lo : Nat) (ga : Option Addr) (R n : Nat) (ls : Nat → List Nat) (ra : Nat → Option Addr) (rc : Nat → Nat) (W : World) : Prop := (ga = none ∧ n = 0) ∨ (ga = some ⟨R, 0, none⟩ ∧ lo ≤ R ∧ Gs (R + 2) n R ls ra rc W)
/-- A list that is an answer: none, or numbers that fill a block. -/
def AnY (lo : Nat) (ga : Option Addr) (g n : Nat) (f : Nat → Int) (W : World) : Prop := (ga = none ∧ n = 0) ∨ (ga = some ⟨g, 0, none⟩ ∧ lo ≤ g ∧ My g n 3 (iv f) W)
noncomputable def ptN (N : Nat) (ln : Nat → Nat) (L : Nat → Nat → Int) : Nat := if rgt N ln L = true then pc N ln L else 0
def ptE (N : Nat) (ln : Nat → Nat) (L : Nat → Nat → Int) : Int := if rgt N ln L = true then 0 else 120
def poN (N : Nat) (ln : Nat → Nat) (L : Nat → Nat → Int) : Nat := if rgt N ln L = true then N else 0
theorem ptN_le (N : Nat) (ln : Nat → Nat) (L : Nat → Nat → Int) : ptN N ln L ≤ N := by
  unfold ptN
  split
  · exact pc_le N ln L
  · omega
set_option maxRecDepth 100000 in
theorem fieldD (v y : Value) (u : World) : (Instr.field 62 (.agg #[v, y]) 0).run Try.prog u = .ok v u := by
  kernel_rfl
set_option maxRecDepth 100000 in
set_option maxHeartbeats 4000000 in
theorem PartOf_any {N : Nat} {ln : Nat → Nat} {L : Nat → Nat → Int} {na : Option Addr} {nc : Nat} {w : World} (hN : N ≤ 1048576) (hln : ∀ k, k < N → ln k ≤ 1048576) (hR : Rr w na N ln L) :
    Calls Try.prog 32 #[.slice na N nc] w fun x w' => ∃ ga g, x = .returned (.tuple #[.slice ga (poN N ln L) (poN N ln L), .int .i64 (ptE N ln L)]) ∧ AnY w.heap.size ga g (poN N ln L) (fun j => (pn N ln L j : Int)) w' ∧ Below w.heap.size w w' := by
  have c1 := hide (isRight_any N ln L na nc w (by omega) (fun k hk => by have := hln k hk; omega) hR)
  unfold poN ptE
  cases hr : rgt N ln L with
  | false =>
    rw [hr] at c1
    rw [if_neg (by simp), if_neg (by simp)]
    clear hR hln
    go_enter Try.func32, Try.ntmps32
    go_wp2_with (go_at_call 43; refine (unhide c1).mono ?_; rintro x1 w1 ⟨rfl, hw1⟩; rw [hw1]; clear hw1 w1)
    go_ret2
    exact ⟨none, 0, rfl, .inl ⟨rfl, rfl⟩, Below.refl _ _⟩
  | true =>
    rw [hr] at c1
    rw [if_pos rfl, if_pos rfl]
    have c2 := hide (divide_any (nc := nc) hr hN hln hR)
    have hfd := fieldD
    clear hR hln
    generalize pc N ln L = pcn at *
    go_enter Try.func32, Try.ntmps32
    go_wp2_with (first | (go_at_call 43; refine (unhide c1).mono ?_; rintro x1 w1 ⟨rfl, hw1⟩; rw [hw1]; clear hw1 w1) | (go_at_call 53; refine (unhide c2).mono ?_; rintro x2 w2 ⟨g2, rfl, q1, q2, q3⟩; have H2 := hide (And.intro q1 (And.intro q2 q3)); clear q1 q2 q3))
    go_ret2
    exact ⟨_, g2, rfl, .inr ⟨rfl, (unhide H2).1, (unhide H2).2.1⟩, (unhide H2).2.2⟩
set_option maxRecDepth 100000 in
set_option maxHeartbeats 4000000 in
theorem Parts_any {N : Nat} {ln : Nat → Nat} {L : Nat → Nat → Int} {na : Option Addr} {nc : Nat} {w : World} (hN : N ≤ 1048576) (hln : ∀ k, k < N → ln k ≤ 1048576) (hR : Rr w na N ln L) :
    Calls Try.prog 30 #[.slice na N nc] w fun x w' => ∃ ga R ra rc, x = .returned (.tuple #[.slice ga (ptN N ln L) (ptN N ln L), .int .i64 (ptE N ln L)]) ∧ AnG w.heap.size ga R (ptN N ln L) (ptL (pn N ln L) N) ra rc w' ∧ Below w.heap.size w w' := by
  have c1 := hide (isRight_any N ln L na nc w (by omega) (fun k hk => by have := hln k hk; omega) hR)
  unfold ptN ptE
  cases hr : rgt N ln L with
  | false =>
    rw [hr] at c1
    rw [if_neg (by simp), if_neg (by simp)]
    clear hR hln
    go_enter Try.func30, Try.ntmps30
    go_wp2_with (go_at_call 43; refine (unhide c1).mono ?_; rintro x1 w1 ⟨rfl, hw1⟩; rw [hw1]; clear hw1 w1)
    go_ret2
    exact ⟨none, 0, fun _ => none, fun _ => 0, rfl, .inl ⟨rfl, rfl⟩, Below.refl _ _⟩
  | true =>
    rw [hr] at c1
    rw [if_pos rfl, if_pos rfl]
    have c2 := hide (divide_any (nc := nc) hr hN hln hR)
    have hple := pc_le N ln L
    have c3 := hide (fun (W : World) (g : Nat) (h : Mv g N 3 (iv fun j => (pn N ln L j : Int)) W) => parts_any hN (Nat.le_trans hple hN) (fun i hi => pn_lt N ln L hi) h)
    clear hR hln
    generalize pc N ln L = pcn at *
    go_enter Try.func30, Try.ntmps30
    go_wp2_with (first | (go_at_call 43; refine (unhide c1).mono ?_; rintro x1 w1 ⟨rfl, hw1⟩; rw [hw1]; clear hw1 w1) | (go_at_call 53; refine (unhide c2).mono ?_; rintro x2 w2 ⟨g2, rfl, q1, q2, q3⟩; have H2 := hide (And.intro q1 (And.intro q2 q3)); clear q1 q2 q3) | (go_at_call 54; refine (unhide c3 _ _ (unhide H2).2.1.mv).mono ?_; rintro x3 w3 ⟨R, ra, rc, rfl, q1, q2, q3⟩; have H3 := hide (And.intro (Nat.le_trans (unhide H2).2.2.size q1) (And.intro q2 (bl_t (unhide H2).2.2 q3))); clear q1 q2 q3))
    go_ret2
    exact ⟨_, R, ra, rc, rfl, .inr ⟨rfl, (unhide H3).1, (unhide H3).2.1⟩, (unhide H3).2.2⟩
end Go.Proofs.Ytjflnpcpnoccjaa

