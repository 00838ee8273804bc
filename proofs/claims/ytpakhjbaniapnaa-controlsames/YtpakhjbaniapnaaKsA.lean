import Derived.Test.YtpakhjbaniapnaaKsP
namespace Go.Proofs.Ytpakhjbaniapnaa
open Go.RowKit

theorem neqG (x y : Am) (w : World) : (binOp .neq 33 (.agg #[.string x.n, .int .i64 x.op, .string x.v]) (.agg #[.string y.n, .int .i64 y.op, .string y.v])).run Try.prog w = .ok (.bool (!eqA x y)) w := by
  unfold eqA
  go_simp
  by_cases h1 : x.n.toList = y.n.toList <;> by_cases h2 : x.op = y.op <;> by_cases h3 : x.v.toList = y.v.toList <;> simp [h1, h2, h3]

set_option maxRecDepth 100000 in
set_option maxHeartbeats 4000000 in
theorem ratoms_any (al bl : List Am) (v u : Value) (w : World) (h1 : Ams w v al) (h2 : Ams w u bl) :
    Calls Try.prog 13 #[v, u] w fun e w' => e = .returned (.bool (eqL eqA al bl)) ∧ Below w.heap.size w w' := by
  obtain ⟨va, vc, rfl⟩ := h1.shape
  obtain ⟨ua, uc, rfl⟩ := h2.shape
  have b1 := h1.bigL
  have b2 := h2.bigL
  have H1 := hide h1
  have H2 := hide h2
  clear h1 h2
  obtain ⟨N, hN⟩ : ∃ N, al.length = N := ⟨_, rfl⟩
  obtain ⟨L, hL⟩ : ∃ N, bl.length = N := ⟨_, rfl⟩
  rw [hN] at H1 b1 ⊢
  rw [hL] at H2 b2 ⊢
  by_cases hne : N = L
  · subst hne
    have HBad := hide (fun k h1 h2 => eqL_bad eqA al bl k h1 h2)
    have HGood := hide (fun h => eqL_good eqA al bl (by omega) h)
    generalize eqL eqA al bl = r at *
    go_enter Try.func13, Try.ntmps13
    go_wp2_with fail
    go_loopw [5] (fun i wr => ∃ k : Nat, k ≤ N ∧ i = .int .i64 k ∧ Hid (Below w.heap.size w wr) ∧ Hid (∀ j (h1 : j < al.length) (h2 : j < bl.length), j < k → eqA al[j] bl[j] = true)) (fun i _ => N - (intOf i).toNat)
    case atStart => exact ⟨0, Nat.zero_le _, rfl, hide (Below.refl _ _), hide (fun j _ _ h => absurd h (Nat.not_lt_zero _))⟩
    case round =>
      obtain ⟨k, hk, rfl, HB, HZ⟩ := hrel
      by_cases hlt : k < N
      · have hka : k < al.length := by omega
        have hkb : k < bl.length := by omega
        obtain ⟨g, o, rfl, hg, p0, p1, p2⟩ := ((unhide H1).later (unhide HB)).elem k hka
        obtain ⟨g2, o2, rfl, hg2, q0, q1, q2⟩ := ((unhide H2).later (unhide HB)).elem k hkb
        have HBad' := hide (unhide HBad k hka hkb)
        have HN := hide (fun (h : eqA al[k] bl[k] = true) => upto_two (unhide HZ) hka hkb h)
        generalize al[k] = x at *
        generalize bl[k] = y at *
        have ce := neqG x y
        clear HBad HGood HZ
        cases hxy : eqA x y
        · rw [hxy] at ce
          have HF := hide (unhide HBad' hxy)
          clear HBad' HN hxy
          go_wp2_with fail
          go_quiet (fail)
          go_wp2
          go_ret
          exact ⟨ret_bool (unhide HF).symm, bl_t (unhide HB) (bl_drewN _ _)⟩
        · rw [hxy] at ce
          have HZ' := hide (unhide HN hxy)
          have HBd := hide (fun n => bl_t (unhide HB) (bl_drewN wr n))
          clear HBad' HN hxy
          go_wp2_with fail
          go_quiet (fail)
          go_wp2
          go_roundw
          case rel => exact ⟨k + 1, by omega, by go_num, hide (unhide HBd _), HZ'⟩
          case measure => simp [intOf]; omega
      · have HF := hide (unhide HGood (fun j h1 h2 => unhide HZ j h1 h2 (by omega)))
        clear HZ HBad HGood
        go_wp2_with fail
        go_ret
        exact ⟨ret_bool (unhide HF).symm, unhide HB⟩
  · have HF := hide (eqL_len eqA al bl (by omega))
    have hne' : ¬ ((N : Int) = (L : Int)) := by omega
    have hneb : ((N : Int) == (L : Int)) = false := beq_eq_false_iff_ne.2 hne'
    go_enter Try.func13, Try.ntmps13
    go_wp2_with fail
    go_ret
    exact ⟨ret_bool (unhide HF).symm, Below.refl _ _⟩

end Go.Proofs.Ytpakhjbaniapnaa
