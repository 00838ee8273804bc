import Derived.Test.YtabjbppekijfiaaVsG
namespace Go.Proofs.Ytabjbppekijfiaa
open Go.RowKit

theorem append_zero {P : Program} (w : World) (t ty e : TypeId) (i : TypeInfo) (ht : P.underlying t = some (.slice e)) (hi : P.info? e = some i) (sa : Option Addr) (n c : Nat) (hnc : n ≤ c) (a : Option Addr) (c2 : Nat) :
    (Builtin.append_ #[t, t] ty #[.slice sa n c, .slice a 0 c2]).run P w = .ok (.slice sa n c) w := by
  have hl : ∀ (x : Addr), (loadCells x 0).run P w = .ok #[] w := fun x => by simpa using run_loadCells_list (P := P) w x [] (by simp)
  cases a <;> cases sa <;> simp [Builtin.append_, run_underlying ht, sizeOf, typeInfo, hi, Builtin.lenOf, Builtin.firstCells, storeCells, hl, hnc]
/-- One, and a list behind it, in new memory. -/
theorem app3 {P : Program} (t ty e : TypeId) (i : TypeInfo) (z : Value) (bytes : Nat) (ht : P.underlying t = some (.slice e)) (hi : P.info? e = some i) (hz : i.zero = some z) (hsize : i.size = 1) (hby : i.bytes = bytes) (hzs : z.cells.size = 1)
    (n : Nat) (x : Value) (xs : List Value) (hx : xs.length = n) (h1 : ∀ u ∈ xs, u.oneCell' = true) (hn : (1 + n) * bytes ≤ 140737488355328) (h63 : 1 + n ≤ maxLen)
    (xa : Option Addr) (xc : Nat) (wr : World) (hsrc : n = 0 ∨ ∃ b o, xa = some ⟨b, o, none⟩ ∧ b < wr.heap.size ∧ ∀ j u, xs[j]? = some u → wr.cell? ⟨b, o + j, none⟩ = some u) :
    ∃ v1 W1, (Builtin.append_ #[t, t] ty #[.slice (some ⟨wr.heap.size, 0, none⟩) 1 1, .slice xa n xc]).run P (wr.alloc (.cells #[x] e)) = .ok v1 W1 ∧ W1.ownsRow wr.heap.size e 1 v1 (1 + n) (x :: xs) ∧ Below wr.heap.size wr W1 := by
  have hb0 : Below wr.heap.size wr (wr.alloc (.cells #[x] e)) := (Below.refl _ wr).alloc (Nat.le_refl _) _
  have ho0 : (wr.alloc (.cells #[x] e)).ownsRow wr.heap.size e 1 (.slice (some ⟨wr.heap.size, 0, none⟩) 1 1) 1 [x] := World.ownsRow_lit wr #[x] 1 (Nat.le_refl _) (by decide) (by simp)
  rcases hsrc with rfl | ⟨b, o, rfl, hbl, hc⟩
  · have : xs = [] := List.length_eq_zero_iff.1 hx
    subst this
    exact ⟨_, _, append_zero _ t ty e i ht hi _ 1 1 (Nat.le_refl _) xa xc, ho0, hb0⟩
  · obtain ⟨v1, W1, hr, h2, h3, _, h5⟩ := run_append_own_at (P := P) (wr.alloc (.cells #[x] e)) wr.heap.size t ty e i z 1 bytes ht hi hz hsize hby hzs (by decide) _ 1 [x] ho0 ⟨b, o, none⟩ n xc xs (by omega)
      (fun j u hj => by rw [Addr.add_mid]; exact (hb0.cell (p := ⟨b, o + j, none⟩) hbl).trans (hc j u hj)) h1 h63 hn hb0.size
    exact ⟨v1, W1, hr, h2, hb0.grown h3 hb0.size (fun k hk => by cases hk; exact Nat.le_refl _)⟩
def ln1 (m : Nat) (ln : Nat → Nat) (k : Nat) : Nat := if k = 0 then m else ln (k - 1)
def L1 (f : Nat → Int) (L : Nat → Nat → Int) (k j : Nat) : Int := if k = 0 then f j else L (k - 1) j
theorem all_prob {n B : Int} {N : Nat} {ln : Nat → Nat} {L : Nat → Nat → Int} {m : Nat} {f : Nat → Int} (h1 : okN n = true) (h2 : 0 ≤ B) (h3 : B ≤ 1152921504606846976) : (bAll (1 + N) fun k => bAll (ln1 m ln k) fun j => okL n (L1 f L k j)) = prob n B N ln L m f := by
  apply b_eq
  rw [prob_iff, bAll_iff]
  constructor
  · intro h
    refine ⟨h1, h2, h3, (bAll_iff _ _).2 fun k hk => ?_, ?_⟩
    · have := h (k + 1) (by omega)
      simpa [ln1, L1] using this
    · have := h 0 (by omega)
      simpa [ln1, L1] using this
  · rintro ⟨_, _, _, h4, h5⟩ k hk
    by_cases e : k = 0
    · subst e
      simpa [ln1, L1] using h5
    · have := (bAll_iff _ _).1 h4 (k - 1) (by omega)
      simpa [ln1, L1, e] using this
set_option maxRecDepth 100000 in
set_option maxHeartbeats 2000000 in
theorem problem_any (n B : Int) (N : Nat) (ln : Nat → Nat) (L : Nat → Nat → Int) (m : Nat) (f : Nat → Int) (ca qa : Option Addr) (cc qc : Nat) (w : World) (hN : N * 24 ≤ 140737488351232) (hm : m ≤ 140737488355328) (hln : ∀ k, k < N → ln k ≤ 140737488355328) (hR : Rr w ca N ln L) (hQ : Ri w qa m f) :
    Calls Try.prog 12 #[.int .i64 n, .slice ca N cc, .slice qa m qc, .int .i64 B] w fun x w' => x = .returned (.bool (prob n B N ln L m f)) ∧ Below w.heap.size w w' := by
  by_cases h0 : okN n = true ∧ 0 ≤ B ∧ B ≤ 1152921504606846976
  · obtain ⟨h1, h2, h3⟩ := h0
    have HPR := hide (all_prob (ln := ln) (L := L) (m := m) (f := f) (N := N) h1 h2 h3)
    obtain ⟨g1, g2⟩ := (okN_iff _).1 h1
    obtain ⟨i0, hi0, hz0, hz1, hz2⟩ := info_parts infoL
    obtain ⟨ka, kc, hrv, hri⟩ := hR
    obtain ⟨v1, W1, r1, ho, hb⟩ := app3 (P := Try.prog) 22 22 23 i0 (.slice none 0 0) 24 Try.underlying22 hi0 hz0 hz1 hz2 rfl N (.slice qa m qc) (vl N fun k => .slice (ka k) (ln k) (kc k)) (by simp [vl]) (vl_one _ _ fun _ => rfl) (by omega) (by unfold maxLen; omega) ca cc w hrv.src
    obtain ⟨aa, ac, rfl⟩ := owns_form ho
    have HRA := hide (show Rr W1 aa (1 + N) (ln1 m ln) (L1 f L) from ⟨fun k => if k = 0 then qa else ka (k - 1), fun k => if k = 0 then qc else kc (k - 1), by
      refine Rv.of_owns (base := w.heap.size) (e := 23) (c := ac) ?_
      rw [show vl (1 + N) (fun k => Value.slice (if k = 0 then qa else ka (k - 1)) (ln1 m ln k) (if k = 0 then qc else kc (k - 1))) = Value.slice qa m qc :: vl N fun k => .slice (ka k) (ln k) (kc k) from by
        rw [Nat.add_comm]
        unfold vl
        rw [List.range_succ_eq_map]
        simp [ln1]]
      exact ho, fun k hk => by
      by_cases e : k = 0
      · subst e
        rw [show L1 f L 0 = f from by funext j; simp [L1]]
        simpa [ln1] using Ri.later hQ hb
      · have := Ri.later (hri (k - 1) (by omega)) hb
        rw [show L1 f L k = L (k - 1) from by funext j; simp [L1, e]]
        simpa [ln1, e] using this⟩)
    have HLN := hide (show ∀ k, k < 1 + N → ln1 m ln k ≤ 140737488355328 from fun k hk => by
      unfold ln1
      split
      · exact hm
      · exact hln _ (by omega))
    have HB := hide hb
    have h2' : ¬ B < 0 := by omega
    have h3' : ¬ B > 1152921504606846976 := by omega
    have g1' : ¬ n < 0 := by omega
    have g2' : ¬ n > 131071 := by omega
    clear ho hb hi0 hz0 hz1 hz2 hrv hri hQ h1 hm hln
    generalize ln1 m ln = ln' at *
    generalize L1 f L = L' at *
    generalize hN1 : 1 + N = N1 at *
    have hNN : N1 ≤ 140737488355328 := by omega
    rw [← unhide HPR]
    go_enter Try.func12, Try.ntmps12
    go_wp2_with ((with_reducible refine wpList_append_run (o := { dst := some 29, op := Op.call { callee := Callee.builtin Builtin.append, args := #[Operand.tmp 27, Operand.tmp 28], argTypes := #[22, 22] }, type := 22, pos := "outright.go:25", after := #[{ on := 1, ground := Ground.data }, { on := 2, ground := Ground.data }], guard := none }) ?m1a (.tmp 27) (.tmp 28) 22 ?m1b _ _ ?m1c ?m1d r1 ?m1e); (case m1a => rfl); (case m1b => rfl); (case m1c => rfl); (case m1d => rfl))
    clear r1
    go_loopg [10, 11] N1 (fun g3 vi _ wr => ∃ (i : Nat), vi = .int .i64 i ∧ i ≤ N1 ∧ N1 - i ≤ g3 ∧ Hid (∀ j, j < i → (bAll (ln' j) fun k => okL n (L' j k)) = true) ∧ Hid (Below W1.heap.size W1 wr))
    case atStart => exact ⟨0, by go_num, by omega, by omega, hide fun j h => absurd h (Nat.not_lt_zero _), hide (Below.refl _ _)⟩
    case round =>
      obtain ⟨i, rfl, hi, hg, HA, HBW⟩ := hrel
      obtain ⟨w8, h8⟩ : ∃ x, x = wr := ⟨_, rfl⟩
      subst h8
      by_cases hlt : i < N1
      · obtain ⟨b, o, la, lc, haa, hcl, hri⟩ := ((unhide HRA).later (unhide HBW)).at hlt
        subst haa
        have hml := unhide HLN i hlt
        have HRI := hide (fun (W : World) (h : Below w8.heap.size w8 W) => Ri.later hri h)
        have HCL := hide (fun (W : World) (h : Below w8.heap.size w8 W) => (h.cell (p := ⟨b, o + i, none⟩) (World.block_lt_of_cell? _ _ hcl)).trans hcl)
        have HNO := hide (fun (k : Nat) (hk : k < ln' i) (h : okL n (L' i k) = false) => bAll_no (p := fun k => bAll (ln' k) fun j => okL n (L' k j)) hlt (bAll_no (p := fun j => okL n (L' i j)) hk h))
        have HYES := hide (fun (h : ∀ k, k < ln' i → okL n (L' i k) = true) => show ∀ j, j < i + 1 → (bAll (ln' j) fun k => okL n (L' j k)) = true from fun j hj => by
          by_cases e : j = i
          · subst e; exact (bAll_iff _ _).2 h
          · exact unhide HA j (by omega))
        clear hri
        generalize hlm : ln' i = lm at *
        generalize hfi : L' i = fi at *
        go_wp2_with fail
        go_loopg [11] lm (fun g4 vk wr2 => ∃ (k : Nat), vk = .int .i64 k ∧ k ≤ lm ∧ lm - k ≤ g4 ∧ Hid (∀ j, j < k → okL n (fi j) = true) ∧ Hid (Below w8.heap.size w8 wr2))
        case atStart => exact ⟨0, by go_num, by omega, by omega, hide fun j h => absurd h (Nat.not_lt_zero _), hide (Below.refl _ _)⟩
        case round =>
          obtain ⟨k, rfl, hk, hg2, HA2, HB2⟩ := hrel
          have hcl2 := unhide HCL wr (unhide HB2)
          by_cases hlk : k < lm
          · obtain ⟨b2, o2, hla, _, hck⟩ := (unhide HRI wr (unhide HB2)).at hlk
            subst hla
            unfold iv at hck
            cases hy : okL n (fi k) with
            | true =>
              have HA3 := hide (show ∀ j, j < k + 1 → okL n (fi j) = true from fun j hj => by
                by_cases e : j = k
                · subst e; exact hy
                · exact unhide HA2 j (by omega))
              obtain ⟨z0, z2, z3⟩ := (okL_iff _ _).1 hy
              clear hy
              generalize fi k = l at *
              have z1 : (l == 0) = false := by simpa using z0
              have z2' : ¬ l > n := by omega
              have z3' : ¬ l < -n := by omega
              go_wp2
              all_goals first | (exfalso; simp_all; done) | skip
              go_roundg (lm - (k + 1))
              case measure => omega
              case rel => exact ⟨k + 1, by go_num, by omega, by omega, HA3, HB2⟩
            | false =>
              have HE := hide (unhide HNO k hlk hy)
              have HZ : ¬ (fi k ≠ 0 ∧ fi k ≤ n ∧ -n ≤ fi k) := fun e => by rw [(okL_iff _ _).2 e] at hy; cases hy
              clear hy
              generalize fi k = l at *
              go_wp2
              all_goals first | (exfalso; omega) | skip
              all_goals go_ret
              all_goals exact ⟨ret_b (unhide HE).symm, bl_t (unhide HB) (bl_t (unhide HBW) (unhide HB2))⟩
          · have HA3 := hide (unhide HYES fun j hj => unhide HA2 j (by omega))
            go_wp2
            go_roundg (N1 - (i + 1))
            case measure => omega
            case rel => exact ⟨i + 1, by go_num, by omega, by omega, HA3, hide (bl_t (unhide HBW) (unhide HB2))⟩
      · have HE := hide (show (bAll N1 fun k => bAll (ln' k) fun j => okL n (L' k j)) = true from (bAll_iff _ _).2 fun j hj => unhide HA j (by omega))
        go_wp2
        go_ret
        exact ⟨ret_b (unhide HE).symm, bl_t (unhide HB) (unhide HBW)⟩
  · have HE := hide (show prob n B N ln L m f = false from by
      cases q : prob n B N ln L m f with
      | false => rfl
      | true =>
        obtain ⟨a, b, c, _⟩ := prob_iff.1 q
        exact absurd ⟨a, b, c⟩ h0)
    have h0' : n < 0 ∨ n > 131071 ∨ B < 0 ∨ B > 1152921504606846976 := by
      by_cases a : n < 0
      · exact .inl a
      · by_cases b : n > 131071
        · exact .inr (.inl b)
        · by_cases c : B < 0
          · exact .inr (.inr (.inl c))
          · exact .inr (.inr (.inr (by
              by_cases d : B > 1152921504606846976
              · exact d
              · exact absurd ⟨(okN_iff _).2 ⟨by omega, by omega⟩, by omega, by omega⟩ h0)))
    clear hR hQ h0
    by_cases a : n < 0
    · go_enter Try.func12, Try.ntmps12
      go_wp2
      go_ret
      exact ⟨ret_b (unhide HE).symm, Below.refl _ _⟩
    · by_cases b : n > 131071
      · go_enter Try.func12, Try.ntmps12
        go_wp2
        go_ret
        exact ⟨ret_b (unhide HE).symm, Below.refl _ _⟩
      · by_cases c : B < 0
        · go_enter Try.func12, Try.ntmps12
          go_wp2
          go_ret
          exact ⟨ret_b (unhide HE).symm, Below.refl _ _⟩
        · have d : B > 1152921504606846976 := by omega
          go_enter Try.func12, Try.ntmps12
          go_wp2
          go_ret
          exact ⟨ret_b (unhide HE).symm, Below.refl _ _⟩
end Go.Proofs.Ytabjbppekijfiaa
