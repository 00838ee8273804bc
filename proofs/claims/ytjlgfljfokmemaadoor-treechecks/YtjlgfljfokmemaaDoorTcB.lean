import Derived.Test.YtjlgfljfokmemaaDoorTcA
namespace Go.Proofs.YtjlgfljfokmemaaDoor
open Go.RowKit Go.Maps Go.Shelf

theorem neqG (x y : Stp) (w : World) : (binOp .neq 41 (.agg #[.int .i64 x.k, .string x.f, .string x.t]) (.agg #[.int .i64 y.k, .string y.f, .string y.t])).run Tryd.prog w = .ok (.bool (!eqG x y)) w := by
  unfold eqG
  go_simp
  by_cases h1 : x.k = y.k <;> by_cases h2 : x.f.toList = y.f.toList <;> by_cases h3 : x.t.toList = y.t.toList <;> simp [h1, h2, h3]

set_option maxRecDepth 100000 in
set_option maxHeartbeats 4000000 in
theorem sameSteps_any (al bl : List Stp) (v u : Value) (w : World) (h1 : Sps w v al) (h2 : Sps w u bl) :
    Calls Tryd.prog 27 #[v, u] w fun e w' => e = .returned (.bool (eqL eqG al bl)) ∧ Below w.heap.size w w' := by
  obtain ⟨va, vc, rfl⟩ := h1.shape
  obtain ⟨ua, uc, rfl⟩ := h2.shape
  have b1 := h1.bigL
  have b2 := h2.bigL
  have H1 := hide h1
  have H2 := hide h2
  clear h1 h2
  obtain ⟨N, hN⟩ : ∃ N, al.length = N := ⟨_, rfl⟩
  obtain ⟨L, hL⟩ : ∃ N, bl.length = N := ⟨_, rfl⟩
  rw [hN] at H1 b1 ⊢
  rw [hL] at H2 b2 ⊢
  by_cases hne : N = L
  · subst hne
    have HBad := hide (fun k h1 h2 => eqL_bad eqG al bl k h1 h2)
    have HGood := hide (fun h => eqL_good eqG al bl (by omega) h)
    generalize eqL eqG al bl = r at *
    go_enter Tryd.func27, Tryd.ntmps27
    go_wp2_with fail
    go_loopw [5] (fun i wr => ∃ k : Nat, k ≤ N ∧ i = .int .i64 k ∧ Hid (Below w.heap.size w wr) ∧ Hid (∀ j (h1 : j < al.length) (h2 : j < bl.length), j < k → eqG al[j] bl[j] = true)) (fun i _ => N - (intOf i).toNat)
    case atStart => exact ⟨0, Nat.zero_le _, rfl, hide (Below.refl _ _), hide (fun j _ _ h => absurd h (Nat.not_lt_zero _))⟩
    case round =>
      obtain ⟨k, hk, rfl, HB, HZ⟩ := hrel
      by_cases hlt : k < N
      · have hka : k < al.length := by omega
        have hkb : k < bl.length := by omega
        obtain ⟨g, o, rfl, hg, p0, p1, p2⟩ := ((unhide H1).later (unhide HB)).elem k hka
        obtain ⟨g2, o2, rfl, hg2, q0, q1, q2⟩ := ((unhide H2).later (unhide HB)).elem k hkb
        have HBad' := hide (unhide HBad k hka hkb)
        have HN := hide (fun (h : eqG al[k] bl[k] = true) => upto_two (unhide HZ) hka hkb h)
        generalize al[k] = x at *
        generalize bl[k] = y at *
        have ce := neqG x y
        clear HBad HGood HZ
        cases hxy : eqG x y
        · rw [hxy] at ce
          have HF := hide (unhide HBad' hxy)
          clear HBad' HN hxy
          go_wp2_with fail
          go_quiet (fail)
          go_wp2
          go_ret
          exact ⟨ret_bool (unhide HF).symm, bl_t (unhide HB) (bl_drewN _ _)⟩
        · rw [hxy] at ce
          have HZ' := hide (unhide HN hxy)
          have HBd := hide (fun n => bl_t (unhide HB) (bl_drewN wr n))
          clear HBad' HN hxy
          go_wp2_with fail
          go_quiet (fail)
          go_wp2
          go_roundw
          case rel => exact ⟨k + 1, by omega, by go_num, hide (unhide HBd _), HZ'⟩
          case measure => simp [intOf]; omega
      · have HF := hide (unhide HGood (fun j h1 h2 => unhide HZ j h1 h2 (by omega)))
        clear HZ HBad HGood
        go_wp2_with fail
        go_ret
        exact ⟨ret_bool (unhide HF).symm, unhide HB⟩
  · have HF := hide (eqL_len eqG al bl (by omega))
    have hne' : ¬ ((N : Int) = (L : Int)) := by omega
    have hneb : ((N : Int) == (L : Int)) = false := beq_eq_false_iff_ne.2 hne'
    go_enter Tryd.func27, Tryd.ntmps27
    go_wp2_with fail
    go_ret
    exact ⟨ret_bool (unhide HF).symm, Below.refl _ _⟩


theorem eqG_self (x : Stp) : eqG x x = true := by
  unfold eqG
  simp
theorem eqL_self (l : List Stp) : eqL eqG l l = true := eqL_good eqG l l rfl (fun _ _ _ => eqG_self _)

set_option maxRecDepth 100000 in
set_option maxHeartbeats 2000000 in
theorem lentSteps_any (ws : List Stp) (v : Value) (w : World) (h : Sps w v ws) (hn : ws.length ≤ 3518437208883) :
    Calls Tryd.prog 14 #[v] w fun e w' => ∃ B c, e = .returned (.slice (some ⟨B, 0, none⟩) ws.length c) ∧ ws.length + 1 ≤ c ∧ w.heap.size ≤ B ∧ Sk w' B ws ∧ Below w.heap.size w w' := by
  obtain ⟨va, vc, rfl⟩ := h.shape
  have mk := makeQ ws.length hn w
  obtain ⟨v', hcp⟩ := copy_sps ws va vc 3 w.heap.size (ws.length + 1) (w.alloc (.cells (madeCells #[.int .i64 0, .string ⟨#[]⟩, .string ⟨#[]⟩] ((ws.length + 1) * 3)) 41)) (h.later ((Below.refl _ _).alloc (Nat.le_refl _) _)) (fun j hj => by rw [World.cell?_alloc_at _ _ _ _ rfl]; exact made_some _ _ _ (by omega)) (fun j => World.frozen?_alloc_at _ _ _ _ rfl)
  obtain ⟨hk, ⟨z, hz⟩, hf, hb⟩ := sk_start w ws
  have HK := hide hk
  have HB := hide hb
  have HW : w3S w ws = ((w.alloc (.cells (madeCells #[.int .i64 0, .string ⟨#[]⟩, .string ⟨#[]⟩] ((ws.length + 1) * 3)) 41)).setCells w.heap.size 0 (flS ws)) := rfl
  rw [← HW] at hcp
  generalize w3S w ws = W3 at *
  clear h hk hb HW
  obtain ⟨N, hN⟩ : ∃ N, ws.length = N := ⟨_, rfl⟩
  rw [hN] at mk hcp hn hz hf HK HB ⊢
  go_enter Tryd.func14, Tryd.ntmps14
  go_wp2_with fail
  go_ret
  exact ⟨_, _, rfl, Nat.le_refl _, Nat.le_refl _, unhide HK, unhide HB⟩

end Go.Proofs.YtjlgfljfokmemaaDoor
