import Derived.Test.YtabjbppekijfiaaSvD
namespace Go.Proofs.Ytabjbppekijfiaa
open Go.RowKit

theorem ret_t {a b c : Int} (h : a = b) : Ending.returned (.tuple #[.int .i64 a, .int .i64 c]) = .returned (.tuple #[.int .i64 b, .int .i64 c]) := by rw [h]
theorem Ri.nil (W : World) (f : Nat → Int) : Ri W none 0 f := fun h => absurd h (Nat.not_lt_zero _)
set_option maxHeartbeats 2000000 in
theorem rHolds_any (n : Int) (vn N : Nat) (ln : Nat → Nat) (L : Nat → Nat → Int) (v : Nat → Bool) (pa va : Option Addr) (c vc : Nat) (w : World) (hvn : vn ≤ 140737488355328) (hN : N ≤ 140737488355328) (hm : ∀ k, k < N → ln k ≤ 140737488355328) (h : Rr w pa N ln L) (hv : Rt w va vn v) :
    Calls Try.prog 24 #[.int .i64 n, .slice pa N c, .slice va vn vc] w fun x w' => x = .returned (.tuple #[.int .i64 (hdA n vn N ln L v), .int .i64 (hdE n vn N ln L)]) ∧ Below w.heap.size w w' := by
  by_cases h2 : (vn : Int) = n
  · subst h2
    have c1 := hide (refused_any vn N ln L 0 (fun _ => 0) 0 (by omega) pa none c 0 w hN hm (by omega) h (Ri.nil w _))
    by_cases h1 : okN vn = true
    · rw [if_pos h1] at c1
      have h3 := (okN_iff _).1 h1
      cases hl : lits vn N ln L with
      | true =>
        rw [if_pos ⟨hl, rfl⟩] at c1
        have eA : hdA vn vn N ln L v = firstN N (fun k => clT v (ln k) (L k)) := if_pos ⟨h1, rfl, hl⟩
        have eE : hdE vn vn N ln L = 0 := by unfold hdE; rw [if_pos ⟨h1, rfl⟩, if_pos hl]
        rw [eA, eE]
        have HL := hide (lits_at hl)
        have c2 := hide (fun k (hk : k < N) pa c w (h : Ri w pa (ln k) (L k)) (hv : Rt w va vn v) => rholds_any vn (by omega) (ln k) (L k) v pa va c vc w (hm k hk) h hv (unhide HL k hk))
        have HR := hide h
        have HV := hide hv
        clear eA eE hl h hv hm h1 h3
        go_enter Try.func24, Try.ntmps24
        go_wp2_with (go_at_call 41; refine (unhide c1).mono ?_; rintro x w2 ⟨rfl, hw2⟩; rw [hw2]; clear hw2 w2)
        go_loopw [9, 10] (fun i _ wr => ∃ k : Nat, k ≤ N ∧ i = .int .i64 k ∧ Hid (Below w.heap.size w wr) ∧ Hid (∀ j, j < k → clT v (ln j) (L j) = true)) (fun i _ _ => N - (intOf i).toNat)
        case atStart => exact ⟨0, Nat.zero_le _, rfl, hide (Below.refl _ _), hide fun j h => absurd h (Nat.not_lt_zero _)⟩
        case round =>
          obtain ⟨k, hk, rfl, HB, HA⟩ := hrel
          by_cases hlt : k < N
          · obtain ⟨b, o, ca, cc, rfl, hc, hri⟩ := ((unhide HR).later (unhide HB)).at hlt
            have c3 := hide (unhide c2 k hlt ca cc wr hri ((unhide HV).later (unhide HB)))
            clear hri
            cases hy : clT v (ln k) (L k) with
            | true =>
              have HA2 := hide (show ∀ j, j < k + 1 → clT v (ln j) (L j) = true from fun j hj => by
                by_cases e : j = k
                · subst e; exact hy
                · exact unhide HA j (by omega))
              rw [hy] at c3
              clear hy
              generalize ln k = l at *
              go_wp2_with (go_at_call 42; refine (unhide c3).mono ?_; rintro x w3 ⟨rfl, hb3⟩; have HB3 := hide (bl_t (unhide HB) hb3); clear hb3)
              go_roundw
              case rel => exact ⟨k + 1, by omega, by go_num, HB3, HA2⟩
              case measure => simp [intOf]; omega
            | false =>
              have HE := hide (firstN_at (p := fun k => clT v (ln k) (L k)) hlt hy (unhide HA))
              rw [hy] at c3
              clear hy
              generalize ln k = l at *
              go_wp2_with (go_at_call 42; refine (unhide c3).mono ?_; rintro x w3 ⟨rfl, hb3⟩; have HB3 := hide (bl_t (unhide HB) hb3); clear hb3)
              go_ret2
              exact ⟨ret_t (unhide HE).symm, unhide HB3⟩
          · have HE := hide (firstN_all (N := N) (p := fun k => clT v (ln k) (L k)) fun j hj => unhide HA j (by omega))
            go_wp2
            go_ret2
            exact ⟨ret_t (unhide HE).symm, unhide HB⟩
      | false =>
        rw [if_neg (fun e => by rw [hl] at e; simp at e)] at c1
        have eA : hdA vn vn N ln L v = 0 := if_neg (by rw [hl]; simp)
        have eE : hdE vn vn N ln L = 90 := by unfold hdE; rw [if_pos ⟨h1, rfl⟩, if_neg (by rw [hl]; simp)]
        rw [eA, eE]
        clear eA eE hl h hv hm h1 h3
        go_enter Try.func24, Try.ntmps24
        go_wp2_with (go_at_call 41; refine (unhide c1).mono ?_; rintro x w2 ⟨rfl, hw2⟩; rw [hw2]; clear hw2 w2)
        go_ret2
        exact ⟨rfl, Below.refl _ _⟩
    · rw [if_neg h1] at c1
      have eA : hdA vn vn N ln L v = 0 := if_neg fun e => h1 e.1
      have eE : hdE vn vn N ln L = 1 := if_neg fun e => h1 e.1
      rw [eA, eE]
      clear eA eE h hv hm h1
      go_enter Try.func24, Try.ntmps24
      go_wp2_with (go_at_call 41; refine (unhide c1).mono ?_; rintro x w2 ⟨rfl, hw2⟩; rw [hw2]; clear hw2 w2)
      go_ret2
      exact ⟨rfl, Below.refl _ _⟩
  · have eA : hdA n vn N ln L v = 0 := if_neg fun e => h2 e.2.1
    have eE : hdE n vn N ln L = 1 := if_neg fun e => h2 e.2
    rw [eA, eE]
    clear eA eE h hv hm
    have h3 : ((vn : Int) != n) = true := by simp [h2]
    go_enter Try.func24, Try.ntmps24
    go_wp2
    go_ret2
    exact ⟨rfl, Below.refl _ _⟩

theorem cell_blk {W : World} {g : Nat} {cur : Array Value} {t : TypeId} (h : W.heap[g]? = some (.cells cur t (0, 0))) (j : Nat) : W.cell? ⟨g, j, none⟩ = cur[j]? ∧ W.frozen? ⟨g, j, none⟩ = false := by
  constructor
  · simp [World.cell?, h]
  · simp [World.frozen?, h]
theorem blk_lt {W : World} {g : Nat} {o : Obj} (h : W.heap[g]? = some o) : g < W.heap.size := (Array.getElem?_eq_some_iff.1 h).1
theorem owns_blk {W : World} {base e size g n cap m : Nat} {xs : List Value} (h : W.ownsRow base e size (.slice (some ⟨g, 0, none⟩) n cap) m xs) : ∃ cur : Array Value, W.heap[g]? = some (.cells cur e (0, 0)) ∧ ∀ (k : Nat) u, xs[k]? = some u → cur[k]? = some u := by
  rcases h.2 with ⟨e, _⟩ | ⟨g', c, cur, e, _, hg, _⟩
  · cases e
  · cases e
    exact ⟨cur, hg, fun k u hk => by rw [← (cell_blk hg k).1]; exact owns_at h k u hk⟩
/-- NUMBERS IN NEW MEMORY, MARKS BEHIND THEM. -/
structure Mk (base g n cap : Nat) (f : Nat → Int) (W : World) : Prop where
  blk : ∃ cur, W.heap[g]? = some (.cells cur 3 (0, 0)) ∧ (∀ k, k < n → cur[k]? = some (.int .i64 (f k))) ∧ cur[n]? = some (.int .i64 7001) ∧ cur[n + 1]? = some (.int .i64 7002)
  ge : base ≤ g
  cap : n + 2 ≤ cap
theorem Mk.same {base g n cap : Nat} {f : Nat → Int} {W W2 : World} (h : Mk base g n cap f W) (e : W2.heap[g]? = W.heap[g]?) : Mk base g n cap f W2 := by
  obtain ⟨cur, h1, h2⟩ := h.blk
  exact ⟨⟨cur, e.trans h1, h2⟩, h.ge, h.cap⟩
theorem Mk.lt {base g n cap : Nat} {f : Nat → Int} {W : World} (h : Mk base g n cap f W) : g < W.heap.size := by
  obtain ⟨cur, h1, _⟩ := h.blk
  exact blk_lt h1
theorem Mk.later {base g n cap : Nat} {f : Nat → Int} {W W2 : World} (h : Mk base g n cap f W) (hb : Below W.heap.size W W2) : Mk base g n cap f W2 := h.same (hb.block g h.lt)
theorem Mk.cell {base g n cap : Nat} {f : Nat → Int} {W : World} (h : Mk base g n cap f W) : (∀ k, k < n → W.cell? ⟨g, k, none⟩ = some (.int .i64 (f k))) ∧ W.cell? ⟨g, n, none⟩ = some (.int .i64 7001) ∧ W.cell? ⟨g, n + 1, none⟩ = some (.int .i64 7002) ∧ ∀ k, W.frozen? ⟨g, k, none⟩ = false := by
  obtain ⟨cur, h1, h2, h3, h4⟩ := h.blk
  exact ⟨fun k hk => (cell_blk h1 k).1.trans (h2 k hk), (cell_blk h1 n).1.trans h3, (cell_blk h1 (n + 1)).1.trans h4, fun k => (cell_blk h1 k).2⟩
theorem Mk.ri {base g n cap : Nat} {f : Nat → Int} {W : World} (h : Mk base g n cap f W) : Ri W (some ⟨g, 0, none⟩) n f := fun _ => ⟨g, 0, rfl, h.lt, fun i hi => by rw [Nat.zero_add]; exact h.cell.1 i hi⟩
set_option maxRecDepth 100000 in
set_option maxHeartbeats 2000000 in
theorem lent_any (n : Nat) (f : Nat → Int) (pa : Option Addr) (c : Nat) (w : World) (hn : n * 8 ≤ 140737488351232) (h : Ri w pa n f) :
    Calls Try.prog 15 #[.slice pa n c] w fun x w' => ∃ g cap, x = .returned (.slice (some ⟨g, 0, none⟩) n cap) ∧ Mk w.heap.size g n cap f w' ∧ Below w.heap.size w w' := by
  obtain ⟨i0, hi0, hz0, hz1, hz2⟩ := info_parts infoI
  obtain ⟨v1, W1, g, cap, W2, r1, r2, ho, hb2⟩ := app2 (P := Try.prog) 23 23 3 i0 (.int .i64 0) 1 8 Try.underlying23 hi0 hz0 hz1 hz2 rfl (by decide) n 2 (by decide) (vl n (iv f)) [.int .i64 7001, .int .i64 7002] (by simp [vl]) (vl_one _ _ fun _ => rfl) rfl (by simp [Value.oneCell']) (by omega) (by unfold maxLen; omega) pa c w (Rv.src h)
  have hcap := owns_cap ho
  have hgl := ho.lt g rfl
  have hl := vl_len n (iv f)
  obtain ⟨cur, q1, q2⟩ := owns_blk ho
  have HM := hide (show Mk w.heap.size g n cap f W2 from ⟨⟨cur, q1, fun k hk => q2 k _ (by rw [List.getElem?_append_left (by omega)]; exact vl_at n _ k hk), q2 n _ (by rw [List.getElem?_append_right (by omega), hl]; simp), q2 (n + 1) _ (by rw [List.getElem?_append_right (by omega), hl]; simp)⟩, hgl.1, hcap⟩)
  clear q1 q2
  have HB := hide hb2
  have j1 : (n : Int) ≤ (cap : Int) := by omega
  have j2 : n ≤ cap := by omega
  clear ho hi0 hz0 hz1 hz2 hb2 hgl hl h
  go_enter Try.func15, Try.ntmps15
  go_wp2_with (first | ((with_reducible refine wpList_append_run (o := { dst := some 6, op := Op.call { callee := Callee.builtin Builtin.append, args := #[Operand.tmp 4, Operand.tmp 5], argTypes := #[23, 23] }, type := 23, pos := "law.go:15", after := #[{ on := 0, ground := Ground.data }, { on := 1, ground := Ground.data }], guard := none }) ?m1a (.tmp 4) (.tmp 5) 23 ?m1b _ _ ?m1c ?m1d r1 ?m1e); (case m1a => rfl); (case m1b => rfl); (case m1c => rfl); (case m1d => rfl)) | ((with_reducible refine wpList_append_run (o := { dst := some 9, op := Op.call { callee := Callee.builtin Builtin.append, args := #[Operand.tmp 7, Operand.tmp 8], argTypes := #[23, 23] }, type := 23, pos := "law.go:16", after := #[{ on := 0, ground := Ground.data }, { on := 1, ground := Ground.data }], guard := none }) ?m2a (.tmp 7) (.tmp 8) 23 ?m2b _ _ ?m2c ?m2d r2 ?m2e); (case m2a => rfl); (case m2b => rfl); (case m2c => rfl); (case m2d => rfl)))
  go_ret
  exact ⟨g, cap, rfl, unhide HM, unhide HB⟩
/-- VALUES IN NEW MEMORY, MARKS BEHIND THEM. -/
structure Mt (base g n cap : Nat) (f : Nat → Bool) (W : World) : Prop where
  blk : ∃ cur, W.heap[g]? = some (.cells cur 4 (0, 0)) ∧ (∀ k, k < n → cur[k]? = some (.bool (f k))) ∧ cur[n]? = some (.bool true) ∧ cur[n + 1]? = some (.bool false) ∧ cur[n + 2]? = some (.bool true)
  ge : base ≤ g
  cap : n + 3 ≤ cap
theorem Mt.same {base g n cap : Nat} {f : Nat → Bool} {W W2 : World} (h : Mt base g n cap f W) (e : W2.heap[g]? = W.heap[g]?) : Mt base g n cap f W2 := by
  obtain ⟨cur, h1, h2⟩ := h.blk
  exact ⟨⟨cur, e.trans h1, h2⟩, h.ge, h.cap⟩
theorem Mt.lt {base g n cap : Nat} {f : Nat → Bool} {W : World} (h : Mt base g n cap f W) : g < W.heap.size := by
  obtain ⟨cur, h1, _⟩ := h.blk
  exact blk_lt h1
theorem Mt.later {base g n cap : Nat} {f : Nat → Bool} {W W2 : World} (h : Mt base g n cap f W) (hb : Below W.heap.size W W2) : Mt base g n cap f W2 := h.same (hb.block g h.lt)
theorem Mt.cell {base g n cap : Nat} {f : Nat → Bool} {W : World} (h : Mt base g n cap f W) : (∀ k, k < n → W.cell? ⟨g, k, none⟩ = some (.bool (f k))) ∧ W.cell? ⟨g, n, none⟩ = some (.bool true) ∧ W.cell? ⟨g, n + 1, none⟩ = some (.bool false) ∧ W.cell? ⟨g, n + 2, none⟩ = some (.bool true) ∧ ∀ k, W.frozen? ⟨g, k, none⟩ = false := by
  obtain ⟨cur, h1, h2, h3, h4, h5⟩ := h.blk
  exact ⟨fun k hk => (cell_blk h1 k).1.trans (h2 k hk), (cell_blk h1 n).1.trans h3, (cell_blk h1 (n + 1)).1.trans h4, (cell_blk h1 (n + 2)).1.trans h5, fun k => (cell_blk h1 k).2⟩
theorem Mt.rt {base g n cap : Nat} {f : Nat → Bool} {W : World} (h : Mt base g n cap f W) : Rt W (some ⟨g, 0, none⟩) n f := fun _ => ⟨g, 0, rfl, h.lt, fun i hi => by rw [Nat.zero_add]; exact h.cell.1 i hi⟩
set_option maxRecDepth 100000 in
set_option maxHeartbeats 2000000 in
theorem truths_any (n : Nat) (f : Nat → Bool) (pa : Option Addr) (c : Nat) (w : World) (hn : n ≤ 140737488351232) (h : Rt w pa n f) :
    Calls Try.prog 22 #[.slice pa n c] w fun x w' => ∃ g cap, x = .returned (.slice (some ⟨g, 0, none⟩) n cap) ∧ Mt w.heap.size g n cap f w' ∧ Below w.heap.size w w' := by
  obtain ⟨i0, hi0, hz0, hz1, hz2⟩ := info_parts infoB
  obtain ⟨v1, W1, g, cap, W2, r1, r2, ho, hb2⟩ := app2 (P := Try.prog) 27 27 4 i0 (.bool false) 1 1 Try.underlying27 hi0 hz0 hz1 hz2 rfl (by decide) n 3 (by decide) (vl n (bv f)) [.bool true, .bool false, .bool true] (by simp [vl]) (vl_one _ _ fun _ => rfl) rfl (by simp [Value.oneCell']) (by omega) (by unfold maxLen; omega) pa c w (Rv.src h)
  have hcap := owns_cap ho
  have hgl := ho.lt g rfl
  have hl := vl_len n (bv f)
  obtain ⟨cur, q1, q2⟩ := owns_blk ho
  have HM := hide (show Mt w.heap.size g n cap f W2 from ⟨⟨cur, q1, fun k hk => q2 k _ (by rw [List.getElem?_append_left (by omega)]; exact vl_at n _ k hk), q2 n _ (by rw [List.getElem?_append_right (by omega), hl]; simp), q2 (n + 1) _ (by rw [List.getElem?_append_right (by omega), hl]; simp), q2 (n + 2) _ (by rw [List.getElem?_append_right (by omega), hl]; simp)⟩, hgl.1, hcap⟩)
  clear q1 q2
  have HB := hide hb2
  have j1 : (n : Int) ≤ (cap : Int) := by omega
  have j2 : n ≤ cap := by omega
  clear ho hi0 hz0 hz1 hz2 hb2 hgl hl h
  go_enter Try.func22, Try.ntmps22
  go_wp2_with (first | ((with_reducible refine wpList_append_run (o := { dst := some 6, op := Op.call { callee := Callee.builtin Builtin.append, args := #[Operand.tmp 4, Operand.tmp 5], argTypes := #[27, 27] }, type := 27, pos := "law.go:60", after := #[{ on := 0, ground := Ground.data }, { on := 1, ground := Ground.data }], guard := none }) ?m1a (.tmp 4) (.tmp 5) 27 ?m1b _ _ ?m1c ?m1d r1 ?m1e); (case m1a => rfl); (case m1b => rfl); (case m1c => rfl); (case m1d => rfl)) | ((with_reducible refine wpList_append_run (o := { dst := some 9, op := Op.call { callee := Callee.builtin Builtin.append, args := #[Operand.tmp 7, Operand.tmp 8], argTypes := #[27, 27] }, type := 27, pos := "law.go:61", after := #[{ on := 0, ground := Ground.data }, { on := 1, ground := Ground.data }], guard := none }) ?m2a (.tmp 7) (.tmp 8) 27 ?m2b _ _ ?m2c ?m2d r2 ?m2e); (case m2a => rfl); (case m2b => rfl); (case m2c => rfl); (case m2d => rfl)))
  go_ret
  exact ⟨g, cap, rfl, unhide HM, unhide HB⟩
end Go.Proofs.Ytabjbppekijfiaa
