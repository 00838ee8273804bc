import Derived.Test.YtokgegbodbnimaaTnA
namespace Go.Proofs.Ytokgegbodbnimaa
open Go.RowKit Go.Maps

theorem m_of {O : Nat → Prop} {B : Nat} {M : Mm} {m0 m1 : Cn} {K : Nat} {W : World} (h : Sto O B M m0 m1 K W) (x : Nm) : (M.H0 x = none ∧ m0 x = none) ∨ ∃ f bs, M.H0 x = some f ∧ m0 x = some bs ∧ bs.length = f.n := by
  cases hh : M.H0 x with
  | none => exact .inl ⟨rfl, h.s0.sc.non x hh⟩
  | some f =>
    obtain ⟨bs, e, b⟩ := h.s0.sc.con x f hh
    exact .inr ⟨f, bs, rfl, e, b.len⟩
set_option maxRecDepth 100000 in
set_option maxHeartbeats 8000000 in
theorem Truncate_any {O : Nat → Prop} {B : Nat} {M : Mm} {m0 m1 : Cn} {K : Nat} {W : World} (h : Sto O B M m0 m1 K W) {x : Nm} (hx : x.size ≤ maxLen) (n : Int) (hK : K + 2 ≤ 1099511627776) :
    Calls Try.prog 27 #[.pointer (some ⟨B, 0, none⟩), .string x, .int .i64 n] W fun v W' => v = .returned (.int .i64 (trR m0 x n)) ∧ Left O B M m0 m1 K (.tr x n) (trR m0 x n) W W' := by
  have cF := h.find x hx
  cases hn : isNm x with
  | false =>
    rw [fnd_no hn] at cF
    have er : trR m0 x n = 140 := by unfold trR; rw [hn]; rfl
    rw [er]
    clear h
    go_enter Try.func27, Try.ntmps27
    go_wp2_with (first | (go_at_call 38; refine cF.mono ?_; rintro x1 w1 ⟨rfl, rfl⟩))
    go_ret
    exact ⟨rfl, .inr ⟨by decide, Below.refl _ _⟩⟩
  | true =>
    rcases m_of h x with ⟨hH, hm⟩ | ⟨f, bs, hH, hm, hl⟩
    · rw [fnd_none hn hH] at cF
      have er : trR m0 x n = 141 := by unfold trR; rw [if_pos hn, hm]
      rw [er]
      clear h
      go_enter Try.func27, Try.ntmps27
      go_wp2_with (first | (go_at_call 38; refine cF.mono ?_; rintro x1 w1 ⟨rfl, rfl⟩))
      go_ret
      exact ⟨rfl, .inr ⟨by decide, Below.refl _ _⟩⟩
    · rw [fnd_some hn hH] at cF
      have er : trR m0 x n = if n < 0 ∨ (bs.length : Int) < n then 1 else 0 := by unfold trR; rw [if_pos hn, hm]
      rw [hl] at er
      rw [er]
      clear er
      by_cases h1 : n < 0
      · rw [if_pos (.inl h1)]
        clear h
        go_enter Try.func27, Try.ntmps27
        go_wp2_with (first | (go_at_call 38; refine cF.mono ?_; rintro x1 w1 ⟨rfl, rfl⟩))
        go_ret
        exact ⟨rfl, .inr ⟨by decide, Below.refl _ _⟩⟩
      · by_cases h2 : (f.n : Int) < n
        · rw [if_pos (.inr h2)]
          clear h
          go_enter Try.func27, Try.ntmps27
          go_wp2_with (first | (go_at_call 38; refine cF.mono ?_; rintro x1 w1 ⟨rfl, rfl⟩))
          go_ret
          exact ⟨rfl, .inr ⟨by decide, Below.refl _ _⟩⟩
        · rw [if_neg (fun q => by rcases q with q | q; exact h1 q; exact h2 q)]
          have C5 : Calls Try.prog 40 #[.pointer (some ⟨B, 0, none⟩), .iface 93 (.agg #[.string x, .int .i64 n])] W fun v W' => v = .returned (.int .i64 0) ∧ Did O B M m0 m1 K (.tr x n) W W' := do_at h (Below.refl _ _) (.tr x n) ⟨(isNm_yes hn).2.1, by omega⟩ (fun f b e => by cases e) hK
          clear h
          go_enter Try.func27, Try.ntmps27
          go_wp2_with (first | (go_at_call 38; refine cF.mono ?_; rintro x1 w1 ⟨rfl, rfl⟩) | (go_at_call 40; refine C5.mono ?_; rintro x3 w3 ⟨rfl, HE⟩; have HE := hide HE))
          go_ret
          exact ⟨rfl, .inl ⟨rfl, unhide HE⟩⟩
set_option maxRecDepth 100000 in
set_option maxHeartbeats 8000000 in
theorem Remove_any {O : Nat → Prop} {B : Nat} {M : Mm} {m0 m1 : Cn} {K : Nat} {W : World} (h : Sto O B M m0 m1 K W) {x : Nm} (hx : x.size ≤ maxLen) (hK : K + 2 ≤ 1099511627776) :
    Calls Try.prog 24 #[.pointer (some ⟨B, 0, none⟩), .string x] W fun v W' => v = .returned (.int .i64 (rmR m0 x)) ∧ Left O B M m0 m1 K (.rm x) (rmR m0 x) W W' := by
  have cF := h.find x hx
  cases hn : isNm x with
  | false =>
    rw [fnd_no hn] at cF
    have er : rmR m0 x = 140 := by unfold rmR; rw [hn]; rfl
    rw [er]
    clear h
    go_enter Try.func24, Try.ntmps24
    go_wp2_with (first | (go_at_call 38; refine cF.mono ?_; rintro x1 w1 ⟨rfl, rfl⟩))
    go_ret
    exact ⟨rfl, .inr ⟨by decide, Below.refl _ _⟩⟩
  | true =>
    rcases m_of h x with ⟨hH, hm⟩ | ⟨f, bs, hH, hm, hl⟩
    · rw [fnd_none hn hH] at cF
      have er : rmR m0 x = 141 := by unfold rmR; rw [if_pos hn, hm]
      rw [er]
      clear h
      go_enter Try.func24, Try.ntmps24
      go_wp2_with (first | (go_at_call 38; refine cF.mono ?_; rintro x1 w1 ⟨rfl, rfl⟩))
      go_ret
      exact ⟨rfl, .inr ⟨by decide, Below.refl _ _⟩⟩
    · rw [fnd_some hn hH] at cF
      have er : rmR m0 x = 0 := by unfold rmR; rw [if_pos hn, hm]
      rw [er]
      have C5 : Calls Try.prog 40 #[.pointer (some ⟨B, 0, none⟩), .iface 91 (.agg #[.string x])] W fun v W' => v = .returned (.int .i64 0) ∧ Did O B M m0 m1 K (.rm x) W W' := do_at h (Below.refl _ _) (.rm x) ((isNm_yes hn).2.1) (fun f b e => by cases e) hK
      clear h
      go_enter Try.func24, Try.ntmps24
      go_wp2_with (first | (go_at_call 38; refine cF.mono ?_; rintro x1 w1 ⟨rfl, rfl⟩) | (go_at_call 40; refine C5.mono ?_; rintro x3 w3 ⟨rfl, HE⟩; have HE := hide HE))
      go_ret
      exact ⟨rfl, .inl ⟨rfl, unhide HE⟩⟩
set_option maxRecDepth 100000 in
set_option maxHeartbeats 8000000 in
theorem Rename_any {O : Nat → Prop} {B : Nat} {M : Mm} {m0 m1 : Cn} {K : Nat} {W : World} (h : Sto O B M m0 m1 K W) {x y : Nm} (hx : x.size ≤ maxLen) (hy : y.size ≤ maxLen) (hK : K + 2 ≤ 1099511627776) :
    Calls Try.prog 28 #[.pointer (some ⟨B, 0, none⟩), .string x, .string y] W fun v W' => v = .returned (.int .i64 (rnR m0 x y)) ∧ Left O B M m0 m1 K (.rn x y) (rnR m0 x y) W W' := by
  have cF := h.find x hx
  have cR := ready_any (h.cells 8 _ rfl)
  have cN := isName_any y hy W
  cases hny : isNm y with
  | false =>
    rw [hny] at cN
    have er : rnR m0 x y = 140 := by unfold rnR; rw [hny]; rfl
    rw [er]
    clear h
    go_enter Try.func28, Try.ntmps28
    go_wp2_with (first | (go_at_call 42; refine cR.mono ?_; rintro x4 w4 ⟨rfl, rfl⟩) | (go_at_call 50; refine cN.mono ?_; rintro x5 w5 ⟨rfl, rfl⟩) | (go_at_call 38; refine cF.mono ?_; rintro x1 w1 ⟨rfl, rfl⟩))
    go_ret
    exact ⟨rfl, .inr ⟨by decide, Below.refl _ _⟩⟩
  | true =>
    rw [hny] at cN
    cases hn : isNm x with
    | false =>
      rw [fnd_no hn] at cF
      have er : rnR m0 x y = 140 := by unfold rnR; rw [if_pos hny, hn]; rfl
      rw [er]
      clear h
      go_enter Try.func28, Try.ntmps28
      go_wp2_with (first | (go_at_call 42; refine cR.mono ?_; rintro x4 w4 ⟨rfl, rfl⟩) | (go_at_call 50; refine cN.mono ?_; rintro x5 w5 ⟨rfl, rfl⟩) | (go_at_call 38; refine cF.mono ?_; rintro x1 w1 ⟨rfl, rfl⟩))
      go_ret
      exact ⟨rfl, .inr ⟨by decide, Below.refl _ _⟩⟩
    | true =>
      rcases m_of h x with ⟨hH, hm⟩ | ⟨f, bs, hH, hm, hl⟩
      · rw [fnd_none hn hH] at cF
        have er : rnR m0 x y = 141 := by unfold rnR; rw [if_pos hny, if_pos hn, hm]
        rw [er]
        clear h
        go_enter Try.func28, Try.ntmps28
        go_wp2_with (first | (go_at_call 42; refine cR.mono ?_; rintro x4 w4 ⟨rfl, rfl⟩) | (go_at_call 50; refine cN.mono ?_; rintro x5 w5 ⟨rfl, rfl⟩) | (go_at_call 38; refine cF.mono ?_; rintro x1 w1 ⟨rfl, rfl⟩))
        go_ret
        exact ⟨rfl, .inr ⟨by decide, Below.refl _ _⟩⟩
      · rw [fnd_some hn hH] at cF
        have er : rnR m0 x y = if x = y then 1 else 0 := by unfold rnR; rw [if_pos hny, if_pos hn, hm]
        rw [er]
        by_cases e : x = y
        · rw [if_pos e]
          clear h er
          subst e
          go_enter Try.func28, Try.ntmps28
          go_wp2_with (first | (go_at_call 42; refine cR.mono ?_; rintro x4 w4 ⟨rfl, rfl⟩) | (go_at_call 50; refine cN.mono ?_; rintro x5 w5 ⟨rfl, rfl⟩) | (go_at_call 38; refine cF.mono ?_; rintro x1 w1 ⟨rfl, rfl⟩))
          go_ret
          exact ⟨rfl, .inr ⟨by decide, Below.refl _ _⟩⟩
        · rw [if_neg e]
          have C5 : Calls Try.prog 40 #[.pointer (some ⟨B, 0, none⟩), .iface 95 (.agg #[.string x, .string y])] W fun v W' => v = .returned (.int .i64 0) ∧ Did O B M m0 m1 K (.rn x y) W W' := do_at h (Below.refl _ _) (.rn x y) ⟨(isNm_yes hn).2.1, (isNm_yes hny).2.1, e⟩ (fun f b e => by cases e) hK
          have hq : (ByteArray.toList x == ByteArray.toList y) = false := by
            rw [beq_eq_false_iff_ne, ByteArray.toList_eq, ByteArray.toList_eq]
            exact fun z => e (kl_inj (by unfold kl; rw [z]))
          clear h er
          go_enter Try.func28, Try.ntmps28
          go_wp2_with (first | (go_at_call 42; refine cR.mono ?_; rintro x4 w4 ⟨rfl, rfl⟩) | (go_at_call 50; refine cN.mono ?_; rintro x5 w5 ⟨rfl, rfl⟩) | (go_at_call 38; refine cF.mono ?_; rintro x1 w1 ⟨rfl, rfl⟩) | (go_at_call 40; refine C5.mono ?_; rintro x3 w3 ⟨rfl, HE⟩; have HE := hide HE))
          go_ret
          exact ⟨rfl, .inl ⟨rfl, unhide HE⟩⟩
set_option maxRecDepth 100000 in
theorem Pending_any {O : Nat → Prop} {B : Nat} {M : Mm} {m0 m1 : Cn} {K : Nat} {W : World} (h : Sto O B M m0 m1 K W) :
    Calls Try.prog 26 #[.pointer (some ⟨B, 0, none⟩)] W fun v W' => v = .returned (.int .i64 (M.ps.length : Int)) ∧ W' = W := by
  have c4 := h.cells 4 M.pv rfl
  obtain ⟨pa, pc, e⟩ := owns_form h.pen
  rw [e] at c4
  clear h
  go_enter Try.func26, Try.ntmps26
  go_wp2_with fail
  go_ret
  exact ⟨rfl, rfl⟩
end Go.Proofs.Ytokgegbodbnimaa
