import Derived.Test.YtpakhjbaniapnaaKsB
namespace Go.Proofs.Ytpakhjbaniapnaa
open Go.RowKit

set_option maxRecDepth 100000 in
set_option maxHeartbeats 4000000 in
theorem rclauses_any (al bl : List (List Am)) (v u : Value) (w : World) (h1 : Cls w v al) (h2 : Cls w u bl) :
    Calls Try.prog 12 #[v, u] w fun e w' => e = .returned (.bool (eqL (eqL eqA) al bl)) ∧ Below w.heap.size w w' := by
  obtain ⟨va, vc, rfl⟩ := h1.shape
  obtain ⟨ua, uc, rfl⟩ := h2.shape
  have b1 := h1.bigL
  have b2 := h2.bigL
  have H1 := hide h1
  have H2 := hide h2
  clear h1 h2
  obtain ⟨N, hN⟩ : ∃ N, al.length = N := ⟨_, rfl⟩
  obtain ⟨L, hL⟩ : ∃ N, bl.length = N := ⟨_, rfl⟩
  rw [hN] at H1 b1 ⊢
  rw [hL] at H2 b2 ⊢
  by_cases hne : N = L
  · subst hne
    have HBad := hide (fun k h1 h2 => eqL_bad (eqL eqA) al bl k h1 h2)
    have HGood := hide (fun h => eqL_good (eqL eqA) al bl (by omega) h)
    generalize eqL (eqL eqA) al bl = r at *
    go_enter Try.func12, Try.ntmps12
    go_wp2_with fail
    go_loopw [5] (fun i wr => ∃ k : Nat, k ≤ N ∧ i = .int .i64 k ∧ Hid (Below w.heap.size w wr) ∧ Hid (∀ j (h1 : j < al.length) (h2 : j < bl.length), j < k → eqL eqA al[j] bl[j] = true)) (fun i _ => N - (intOf i).toNat)
    case atStart => exact ⟨0, Nat.zero_le _, rfl, hide (Below.refl _ _), hide (fun j _ _ h => absurd h (Nat.not_lt_zero _))⟩
    case round =>
      obtain ⟨k, hk, rfl, HB, HZ⟩ := hrel
      by_cases hlt : k < N
      · have hka : k < al.length := by omega
        have hkb : k < bl.length := by omega
        obtain ⟨g, o, x, rfl, hg, p0, hx⟩ := ((unhide H1).later (unhide HB)).elem k hka
        obtain ⟨g2, o2, y, rfl, hg2, q0, hy⟩ := ((unhide H2).later (unhide HB)).elem k hkb
        have HBad' := hide (unhide HBad k hka hkb)
        have HN := hide (fun (h : eqL eqA al[k] bl[k] = true) => upto_two (unhide HZ) hka hkb h)
        have HP := hide (fun (w' : World) (hb : Below wr.heap.size wr w') => And.intro ((hb.cell (p := ⟨g, o + k, none⟩) hg).trans p0) ((hb.cell (p := ⟨g2, o2 + k, none⟩) hg2).trans q0))
        have HX := hide (And.intro hx hy)
        have c1 := hide (fun (w' : World) (hb : Below wr.heap.size wr w') => ratoms_any al[k] bl[k] x y w' ((unhide HX).1.later hb) ((unhide HX).2.later hb))
        obtain ⟨xa, xc, rfl⟩ := hx.shape
        obtain ⟨ya, yc, rfl⟩ := hy.shape
        have B0 := hide ((Below.refl wr.heap.size wr).drew)
        clear hx hy HX HBad HGood HZ
        generalize al[k] = am at *
        generalize bl[k] = bm at *
        cases hxy : eqL eqA am bm
        · rw [hxy] at c1
          have HF := hide (unhide HBad' hxy)
          clear HBad' HN hxy
          go_wp2_with fail
          go_region_held3 (fun w' => w'.cell? ⟨g, o + k, none⟩ = some (.slice xa am.length xc) ∧ w'.cell? ⟨g2, o2 + k, none⟩ = some (.slice ya bm.length yc)) (first | exact unhide HP _ (unhide B0) | exact unhide HP _ (unhide B1)) (first | (go_at_call 13; refine (unhide c1 _ (unhide B0)).mono ?_; rintro x w11 ⟨rfl, hb11⟩; have B1 := hide ((unhide B0).trans (hb11.mono (unhide B0).size)); clear hb11))
          go_wp2_with fail
          go_ret
          exact ⟨ret_bool (unhide HF).symm, bl_t (unhide HB) (unhide B1)⟩
        · rw [hxy] at c1
          have HZ' := hide (unhide HN hxy)
          clear HBad' HN hxy
          go_wp2_with fail
          go_region_held3 (fun w' => w'.cell? ⟨g, o + k, none⟩ = some (.slice xa am.length xc) ∧ w'.cell? ⟨g2, o2 + k, none⟩ = some (.slice ya bm.length yc)) (first | exact unhide HP _ (unhide B0) | exact unhide HP _ (unhide B1)) (first | (go_at_call 13; refine (unhide c1 _ (unhide B0)).mono ?_; rintro x w11 ⟨rfl, hb11⟩; have B1 := hide ((unhide B0).trans (hb11.mono (unhide B0).size)); clear hb11))
          have HB9 := hide (bl_t (unhide HB) (unhide B1))
          go_wp2_with fail
          go_roundw
          case rel => exact ⟨k + 1, by omega, by go_num, HB9, HZ'⟩
          case measure => simp [intOf]; omega
      · have HF := hide (unhide HGood (fun j h1 h2 => unhide HZ j h1 h2 (by omega)))
        clear HZ HBad HGood
        go_wp2_with fail
        go_ret
        exact ⟨ret_bool (unhide HF).symm, unhide HB⟩
  · have HF := hide (eqL_len (eqL eqA) al bl (by omega))
    have hne' : ¬ ((N : Int) = (L : Int)) := by omega
    have hneb : ((N : Int) == (L : Int)) = false := beq_eq_false_iff_ne.2 hne'
    go_enter Try.func12, Try.ntmps12
    go_wp2_with fail
    go_ret
    exact ⟨ret_bool (unhide HF).symm, Below.refl _ _⟩

set_option maxRecDepth 100000 in
set_option maxHeartbeats 4000000 in
theorem eqFunc_any (al bl : List (List Am)) (v u : Value) (w : World) (h1 : Cls w v al) (h2 : Cls w u bl) :
    Calls Try.prog 19 #[v, u, .func (.func 20) #[] #[]] w fun e w' => e = .returned (.bool (eqL (eqL eqA) al bl)) ∧ Below w.heap.size w w' := by
  obtain ⟨va, vc, rfl⟩ := h1.shape
  obtain ⟨ua, uc, rfl⟩ := h2.shape
  have b1 := h1.bigL
  have b2 := h2.bigL
  have H1 := hide h1
  have H2 := hide h2
  clear h1 h2
  obtain ⟨N, hN⟩ : ∃ N, al.length = N := ⟨_, rfl⟩
  obtain ⟨L, hL⟩ : ∃ N, bl.length = N := ⟨_, rfl⟩
  rw [hN] at H1 b1 ⊢
  rw [hL] at H2 b2 ⊢
  by_cases hne : N = L
  · subst hne
    have HBad := hide (fun k h1 h2 => eqL_bad (eqL eqA) al bl k h1 h2)
    have HGood := hide (fun h => eqL_good (eqL eqA) al bl (by omega) h)
    generalize eqL (eqL eqA) al bl = r at *
    go_enter Try.func19, Try.ntmps19
    go_wp2_with fail
    go_loopw [17] (fun i wr => ∃ k : Nat, k ≤ N ∧ i = .int .i64 k ∧ Hid (Below w.heap.size w wr) ∧ Hid (∀ j (h1 : j < al.length) (h2 : j < bl.length), j < k → eqL eqA al[j] bl[j] = true)) (fun i _ => N - (intOf i).toNat)
    case atStart => exact ⟨0, Nat.zero_le _, rfl, hide (Below.refl _ _), hide (fun j _ _ h => absurd h (Nat.not_lt_zero _))⟩
    case round =>
      obtain ⟨k, hk, rfl, HB, HZ⟩ := hrel
      by_cases hlt : k < N
      · have hka : k < al.length := by omega
        have hkb : k < bl.length := by omega
        obtain ⟨g, o, x, rfl, hg, p0, hx⟩ := ((unhide H1).later (unhide HB)).elem k hka
        obtain ⟨g2, o2, y, rfl, hg2, q0, hy⟩ := ((unhide H2).later (unhide HB)).elem k hkb
        have HBad' := hide (unhide HBad k hka hkb)
        have HN := hide (fun (h : eqL eqA al[k] bl[k] = true) => upto_two (unhide HZ) hka hkb h)
        have HP := hide (fun (w' : World) (hb : Below wr.heap.size wr w') => And.intro ((hb.cell (p := ⟨g, o + k, none⟩) hg).trans p0) ((hb.cell (p := ⟨g2, o2 + k, none⟩) hg2).trans q0))
        have HX := hide (And.intro hx hy)
        have c1 := hide (fun (w' : World) (hb : Below wr.heap.size wr w') => eqClause_any al[k] bl[k] x y w' ((unhide HX).1.later hb) ((unhide HX).2.later hb))
        obtain ⟨xa, xc, rfl⟩ := hx.shape
        obtain ⟨ya, yc, rfl⟩ := hy.shape
        have B0 := hide ((Below.refl wr.heap.size wr).drew)
        clear hx hy HX HBad HGood HZ
        generalize al[k] = am at *
        generalize bl[k] = bm at *
        cases hxy : eqL eqA am bm
        · rw [hxy] at c1
          have HF := hide (unhide HBad' hxy)
          clear HBad' HN hxy
          go_wp2_with fail
          refine (unhide c1 _ (Below.refl _ _)).mono ?_
          rintro e w1 ⟨rfl, hb1⟩
          have B1 := hide hb1
          clear hb1
          go_wp2_with fail
          go_ret
          exact ⟨ret_bool (unhide HF).symm, bl_t (unhide HB) (unhide B1)⟩
        · rw [hxy] at c1
          have HZ' := hide (unhide HN hxy)
          clear HBad' HN hxy
          go_wp2_with fail
          refine (unhide c1 _ (Below.refl _ _)).mono ?_
          rintro e w1 ⟨rfl, hb1⟩
          have B1 := hide hb1
          clear hb1
          have HB9 := hide (bl_t (unhide HB) (unhide B1))
          go_wp2_with fail
          go_roundw
          case rel => exact ⟨k + 1, by omega, by go_num, HB9, HZ'⟩
          case measure => simp [intOf]; omega
      · have HF := hide (unhide HGood (fun j h1 h2 => unhide HZ j h1 h2 (by omega)))
        clear HZ HBad HGood
        go_wp2_with fail
        go_ret
        exact ⟨ret_bool (unhide HF).symm, unhide HB⟩
  · have HF := hide (eqL_len (eqL eqA) al bl (by omega))
    have hne' : ¬ ((N : Int) = (L : Int)) := by omega
    have hneb : ((N : Int) == (L : Int)) = false := beq_eq_false_iff_ne.2 hne'
    go_enter Try.func19, Try.ntmps19
    go_wp2_with fail
    go_ret
    exact ⟨ret_bool (unhide HF).symm, Below.refl _ _⟩

set_option maxHeartbeats 1000000 in
theorem sameClauses_any (al bl : List (List Am)) (v u : Value) (w : World) (h1 : Cls w v al) (h2 : Cls w u bl) :
    Calls Try.prog 15 #[v, u] w fun e w' => e = .returned (.bool (eqL (eqL eqA) al bl)) ∧ Below w.heap.size w w' := by
  have c1 := hide (eqFunc_any al bl v u w h1 h2)
  clear h1 h2
  go_enter Try.func15, Try.ntmps15
  go_wp2_with fail
  refine (unhide c1).mono ?_
  rintro e w1 ⟨rfl, hb1⟩
  have HB1 := hide hb1
  clear hb1
  go_wp2_with fail
  go_ret
  exact ⟨rfl, unhide HB1⟩

end Go.Proofs.Ytpakhjbaniapnaa
