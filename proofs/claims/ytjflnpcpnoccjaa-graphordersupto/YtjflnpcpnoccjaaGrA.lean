import Derived.Test.YtjflnpcpnoccjaaSvA
namespace Go.Proofs.Ytjflnpcpnoccjaa
open Go.RowKit

theorem ret_b {a b : Bool} (h : a = b) : Ending.returned (.bool a) = .returned (.bool b) := by rw [h]
theorem ret_i {a b : Int} (h : a = b) : Ending.returned (.int .i64 a) = .returned (.int .i64 b) := by rw [h]
theorem num_any (n : Int) (w : World) : Calls Try.prog 19 #[.int .i64 n] w fun x w' => x = .returned (.int .i64 n) ∧ w' = w := by
  go_enter Try.func19, Try.ntmps19
  go_wp2
  go_ret
  exact ⟨rfl, rfl⟩
theorem b_eq {a b : Bool} (h : a = true ↔ b = true) : a = b := by cases a <;> cases b <;> simp_all
/-- ALL OF SOME. -/
def bAll (m : Nat) (p : Nat → Bool) : Bool := (List.range m).all p
theorem bAll_iff (m : Nat) (p : Nat → Bool) : bAll m p = true ↔ ∀ k, k < m → p k = true := by simp [bAll]
theorem bAll_no {m : Nat} {p : Nat → Bool} {k : Nat} (hk : k < m) (h : p k = false) : bAll m p = false := by
  cases e : bAll m p with
  | false => rfl
  | true => rw [(bAll_iff m p).1 e k hk] at h; cases h
theorem bAll_congr {m : Nat} {p q : Nat → Bool} (h : ∀ k, k < m → p k = q k) : bAll m p = bAll m q := b_eq (by
  rw [bAll_iff, bAll_iff]
  exact ⟨fun a k hk => by rw [← h k hk]; exact a k hk, fun a k hk => by rw [h k hk]; exact a k hk⟩)
theorem Ri.nil (W : World) (f : Nat → Int) : Ri W none 0 f := fun h => absurd h (Nat.not_lt_zero _)
theorem cell_blk {W : World} {g : Nat} {cur : Array Value} {t : TypeId} (h : W.heap[g]? = some (.cells cur t (0, 0))) (j : Nat) : W.cell? ⟨g, j, none⟩ = cur[j]? ∧ W.frozen? ⟨g, j, none⟩ = false := by
  constructor
  · simp [World.cell?, h]
  · simp [World.frozen?, h]
theorem blk_lt {W : World} {g : Nat} {o : Obj} (h : W.heap[g]? = some o) : g < W.heap.size := (Array.getElem?_eq_some_iff.1 h).1
theorem owns_blk {W : World} {base e size g n cap m : Nat} {xs : List Value} (h : W.ownsRow base e size (.slice (some ⟨g, 0, none⟩) n cap) m xs) : ∃ cur : Array Value, W.heap[g]? = some (.cells cur e (0, 0)) ∧ ∀ (k : Nat) u, xs[k]? = some u → cur[k]? = some u := by
  rcases h.2 with ⟨e, _⟩ | ⟨g', c, cur, e, _, hg, _⟩
  · cases e
  · cases e
    exact ⟨cur, hg, fun k u hk => by rw [← (cell_blk hg k).1]; exact owns_at h k u hk⟩
/-- NUMBERS IN NEW MEMORY, MARKS BEHIND THEM. -/
structure Mk (base g n cap : Nat) (f : Nat → Int) (W : World) : Prop where
  blk : ∃ cur, W.heap[g]? = some (.cells cur 3 (0, 0)) ∧ (∀ k, k < n → cur[k]? = some (.int .i64 (f k))) ∧ cur[n]? = some (.int .i64 7001) ∧ cur[n + 1]? = some (.int .i64 7002)
  ge : base ≤ g
  cap : n + 2 ≤ cap
theorem Mk.same {base g n cap : Nat} {f : Nat → Int} {W W2 : World} (h : Mk base g n cap f W) (e : W2.heap[g]? = W.heap[g]?) : Mk base g n cap f W2 := by
  obtain ⟨cur, h1, h2⟩ := h.blk
  exact ⟨⟨cur, e.trans h1, h2⟩, h.ge, h.cap⟩
theorem Mk.lt {base g n cap : Nat} {f : Nat → Int} {W : World} (h : Mk base g n cap f W) : g < W.heap.size := by
  obtain ⟨cur, h1, _⟩ := h.blk
  exact blk_lt h1
theorem Mk.later {base g n cap : Nat} {f : Nat → Int} {W W2 : World} (h : Mk base g n cap f W) (hb : Below W.heap.size W W2) : Mk base g n cap f W2 := h.same (hb.block g h.lt)
theorem Mk.cell {base g n cap : Nat} {f : Nat → Int} {W : World} (h : Mk base g n cap f W) : (∀ k, k < n → W.cell? ⟨g, k, none⟩ = some (.int .i64 (f k))) ∧ W.cell? ⟨g, n, none⟩ = some (.int .i64 7001) ∧ W.cell? ⟨g, n + 1, none⟩ = some (.int .i64 7002) ∧ ∀ k, W.frozen? ⟨g, k, none⟩ = false := by
  obtain ⟨cur, h1, h2, h3, h4⟩ := h.blk
  exact ⟨fun k hk => (cell_blk h1 k).1.trans (h2 k hk), (cell_blk h1 n).1.trans h3, (cell_blk h1 (n + 1)).1.trans h4, fun k => (cell_blk h1 k).2⟩
theorem Mk.ri {base g n cap : Nat} {f : Nat → Int} {W : World} (h : Mk base g n cap f W) : Ri W (some ⟨g, 0, none⟩) n f := fun _ => ⟨g, 0, rfl, h.lt, fun i hi => by rw [Nat.zero_add]; exact h.cell.1 i hi⟩
set_option maxRecDepth 100000 in
set_option maxHeartbeats 2000000 in
theorem lent_any (n : Nat) (f : Nat → Int) (pa : Option Addr) (c : Nat) (w : World) (hn : n * 8 ≤ 140737488351232) (h : Ri w pa n f) :
    Calls Try.prog 12 #[.slice pa n c] w fun x w' => ∃ g cap, x = .returned (.slice (some ⟨g, 0, none⟩) n cap) ∧ Mk w.heap.size g n cap f w' ∧ Below w.heap.size w w' := by
  obtain ⟨i0, hi0, hz0, hz1, hz2⟩ := info_parts infoI
  obtain ⟨v1, W1, g, cap, W2, r1, r2, ho, hb2⟩ := app2 (P := Try.prog) 23 23 3 i0 (.int .i64 0) 1 8 Try.underlying23 hi0 hz0 hz1 hz2 rfl (by decide) n 2 (by decide) (vl n (iv f)) [.int .i64 7001, .int .i64 7002] (by simp [vl]) (vl_one _ _ fun _ => rfl) rfl (by simp [Value.oneCell']) (by omega) (by unfold maxLen; omega) pa c w (Rv.src h)
  have hcap := owns_cap ho
  have hgl := ho.lt g rfl
  have hl := vl_len n (iv f)
  obtain ⟨cur, q1, q2⟩ := owns_blk ho
  have HM := hide (show Mk w.heap.size g n cap f W2 from ⟨⟨cur, q1, fun k hk => q2 k _ (by rw [List.getElem?_append_left (by omega)]; exact vl_at n _ k hk), q2 n _ (by rw [List.getElem?_append_right (by omega), hl]; simp), q2 (n + 1) _ (by rw [List.getElem?_append_right (by omega), hl]; simp)⟩, hgl.1, hcap⟩)
  clear q1 q2
  have HB := hide hb2
  have j1 : (n : Int) ≤ (cap : Int) := by omega
  have j2 : n ≤ cap := by omega
  clear ho hi0 hz0 hz1 hz2 hb2 hgl hl h
  go_enter Try.func12, Try.ntmps12
  go_wp2_with (first | ((with_reducible refine wpList_append_run (o := { dst := some 6, op := Op.call { callee := Callee.builtin Builtin.append, args := #[Operand.tmp 4, Operand.tmp 5], argTypes := #[23, 23] }, type := 23, pos := "law.go:15", after := #[{ on := 0, ground := Ground.data }, { on := 1, ground := Ground.data }], guard := none }) ?m1a (.tmp 4) (.tmp 5) 23 ?m1b _ _ ?m1c ?m1d r1 ?m1e); (case m1a => rfl); (case m1b => rfl); (case m1c => rfl); (case m1d => rfl)) | ((with_reducible refine wpList_append_run (o := { dst := some 9, op := Op.call { callee := Callee.builtin Builtin.append, args := #[Operand.tmp 7, Operand.tmp 8], argTypes := #[23, 23] }, type := 23, pos := "law.go:16", after := #[{ on := 0, ground := Ground.data }, { on := 1, ground := Ground.data }], guard := none }) ?m2a (.tmp 7) (.tmp 8) 23 ?m2b _ _ ?m2c ?m2d r2 ?m2e); (case m2a => rfl); (case m2b => rfl); (case m2c => rfl); (case m2d => rfl)))
  go_ret
  exact ⟨g, cap, rfl, unhide HM, unhide HB⟩
set_option maxHeartbeats 2000000 in
theorem numbers_any (n : Nat) (f : Nat → Int) (pa qa : Option Addr) (c d : Nat) (w : World) (hn : n ≤ 140737488355328) (h1 : Ri w pa n f) (h2 : Ri w qa n f) :
    Calls Try.prog 20 #[.slice pa n c, .slice qa n d] w fun e w' => e = .returned (.bool true) ∧ Below w.heap.size w w' := by
  have HV := hide h1
  have HU := hide h2
  clear h1 h2
  go_enter Try.func20, Try.ntmps20
  go_wp2_with fail
  go_loopw [5] (fun i wr => ∃ k n1 : Nat, k ≤ n ∧ i = .int .i64 k ∧ wr = w.drewN n1) (fun i _ => n - (intOf i).toNat)
  case atStart => exact ⟨0, 0, Nat.zero_le _, rfl, rfl⟩
  case round =>
    obtain ⟨k, n1, hk, rfl, rfl⟩ := hrel
    by_cases hlt : k < n
    · obtain ⟨b1, o1, rfl, _, hc⟩ := (unhide HV).at hlt
      obtain ⟨b2, o2, rfl, _, hc2⟩ := (unhide HU).at hlt
      unfold iv at hc hc2
      generalize f k = q at *
      clear HV HU
      go_wp2_with fail
      go_quiet (fail)
      go_wp2
      go_roundw
      case rel => exact ⟨k + 1, _, by omega, by go_num, rfl⟩
      case measure => simp [intOf]; omega
    · go_wp2
      go_ret
      exact ⟨rfl, bl_drewN _ _⟩
set_option maxHeartbeats 2000000 in
theorem bools_any (n : Nat) (f : Nat → Bool) (pa qa : Option Addr) (c d : Nat) (w : World) (hn : n ≤ 140737488355328) (h1 : Rt w pa n f) (h2 : Rt w qa n f) :
    Calls Try.prog 18 #[.slice pa n c, .slice qa n d] w fun e w' => e = .returned (.bool true) ∧ Below w.heap.size w w' := by
  have HV := hide h1
  have HU := hide h2
  clear h1 h2
  go_enter Try.func18, Try.ntmps18
  go_wp2_with fail
  go_loopw [5] (fun i wr => ∃ k n1 : Nat, k ≤ n ∧ i = .int .i64 k ∧ wr = w.drewN n1) (fun i _ => n - (intOf i).toNat)
  case atStart => exact ⟨0, 0, Nat.zero_le _, rfl, rfl⟩
  case round =>
    obtain ⟨k, n1, hk, rfl, rfl⟩ := hrel
    by_cases hlt : k < n
    · obtain ⟨b1, o1, rfl, _, hc⟩ := (unhide HV).at hlt
      obtain ⟨b2, o2, rfl, _, hc2⟩ := (unhide HU).at hlt
      unfold bv at hc hc2
      generalize f k = q at *
      clear HV HU
      go_wp2_with fail
      go_quiet (fail)
      go_wp2
      go_roundw
      case rel => exact ⟨k + 1, _, by omega, by go_num, rfl⟩
      case measure => simp [intOf]; omega
    · go_wp2
      go_ret
      exact ⟨rfl, bl_drewN _ _⟩
end Go.Proofs.Ytjflnpcpnoccjaa
