import Derived.Test.YtokgegbodbnimaaPqE
namespace Go.Proofs.Ytokgegbodbnimaa
open Go.RowKit Go.Maps Go.Sort

theorem unt_chain {W : World} {pa : Option Addr} {sc : List Sp} (pc : Nat) (hs : Rs W pa sc) (hK : Ks sc sc.length ≤ 1000000000) (hl : sc.length ≤ 1099511627776) {ka : Option Addr} {ks : List Int} (kc : Nat) (hks : Rz W ka ks) (hk64 : ∀ k ∈ ks, k ≤ 9223372036854775807) (hkl : ks.length ≤ 1099511627776) (x : Nm) : ∃ (bs : List Int) (β : Bool),
    Calls Try.prog 18 #[.slice pa sc.length pc] W fun v W2 => v = .returned (.tuple #[.pointer (some ⟨W.heap.size, 0, none⟩), .bool true]) ∧ RowKit.Below W.heap.size W W2 ∧ (nmd sc x sc.length = false → ∀ W2', RowKit.Below W2.heap.size W2 W2' →
      Calls Try.prog 21 #[.pointer (some ⟨W.heap.size, 0, none⟩)] W2' fun v W3 => ∃ i1, v = .returned i1 ∧
        Calls Try.prog 20 #[i1, .string x] W3 fun v W4 => ∃ f1 : Hd, v = .returned (.tuple #[.slice f1.a bs.length f1.c, .bool β]) ∧
          Calls Try.prog 22 #[.pointer (some ⟨W.heap.size, 0, none⟩)] W4 fun v W5 => ∃ i2, v = .returned i2 ∧
            Calls Try.prog 20 #[i2, .string x] W5 fun v W6 => ∃ f2 : Hd, v = .returned (.tuple #[.slice f2.a bs.length f2.c, .bool β]) ∧
              Calls Try.prog 14 #[.pointer (some ⟨W.heap.size, 0, none⟩), .agg #[.slice ka ks.length kc]] W6 fun v W7 => v = .returned (.int .i64 0) ∧
                Calls Try.prog 21 #[.pointer (some ⟨W.heap.size, 0, none⟩)] W7 fun v W8 => ∃ i3, v = .returned i3 ∧
                  Calls Try.prog 20 #[i3, .string x] W8 fun v W9 => ∃ f3 : Hd, v = .returned (.tuple #[.slice f3.a bs.length f3.c, .bool β]) ∧
                    Calls Try.prog 17 #[.slice f1.a bs.length f1.c, .slice f2.a bs.length f2.c] W9 fun v W10 => v = .returned (.bool true) ∧
                      Calls Try.prog 17 #[.slice f1.a bs.length f1.c, .slice f3.a bs.length f3.c] W10 fun v W11 => v = .returned (.bool true) ∧ RowKit.Below W.heap.size W W11) := by
  refine ⟨((runs sc sc.length).m0 x).getD [], ((runs sc sc.length).m0 x).isSome, (played_any pc hs (by omega) hl).mono fun v W2 ⟨q0, st, b2⟩ => ⟨q0, b2, fun hnm W2' b2' => ?_⟩⟩
  obtain ⟨M, h1, h2⟩ := st.wn
  have hpe := nmd_pe sc x sc.length (Nat.le_refl _) hnm
  rw [← h2] at hpe
  have e01 := h1.unt hpe
  have eX := crI_other (ks := ks) (m := (runs sc sc.length).m1) hpe (min M.ps.length ks.length)
  have hlen : (((runs sc sc.length).m0 x).getD []).length ≤ 140737488355328 := by
    cases hh : (runs sc sc.length).m0 x with
    | none => exact Nat.zero_le _
    | some bs => exact Nat.le_trans (h1.l0 x bs hh) (by omega)
  have hzz := b2.size
  have h3 := h1.later b2'
  have z2 := b2'.size
  refine (Image_any h3 (by omega)).mono fun v W3 ⟨i1, e1, ⟨L1, im1⟩, b3⟩ => ⟨i1, e1, ?_⟩
  have z3 := b3.size
  refine (of_any im1 (nmS_is h3.s0 _) x).mono fun v W4 ⟨f1, e2, o1, e3⟩ => ⟨f1, e2, ?_⟩
  obtain rfl : W4 = W3 := e3
  have h4 := h3.later b3
  refine (Durable_any h4 (by omega)).mono fun v W5 ⟨i2, e4, ⟨L2, im2⟩, b5⟩ => ⟨i2, e4, ?_⟩
  have z5 := b5.size
  obtain ⟨k1, s1, _⟩ := h4.s1
  refine (of_any im2 (nmS_is s1 _) x).mono fun v W6 ⟨f2, e5, o2, e6⟩ => ?_
  rw [← e01] at e5 o2
  refine ⟨f2, e5, ?_⟩
  obtain rfl : W6 = W5 := e6
  have h6 := h4.later b5
  have o1 := o1.later b5
  have bw6 : RowKit.Below W.heap.size W W6 := bl_t b2 (bl_t b2' (bl_t b3 b5))
  refine (crash_any h6 (fun b q => by have := q.2; omega) (by omega) kc (ks := ks) (ka := ka) ?_ hkl hk64).mono fun v W7 ⟨q7, M7, h7, _, _, f7⟩ => ⟨q7, ?_⟩
  · rcases hks with q | ⟨b, o, q1, q2, q3⟩
    · exact .inl q
    · refine .inr ⟨b, o, q1, Nat.lt_of_lt_of_le q2 bw6.size, fun q => by have := q.1; omega, fun j hj => ?_⟩
      exact (bw6.cell (p := ⟨b, o + j, none⟩) q2).trans (q3 j hj)
  have z7 := f7.size
  have o1 := o1.fx f7 fun b l1 l2 q => by
    rcases q with q | q
    · have := q.2; omega
    · omega
  have o2 := o2.fx f7 fun b l1 l2 q => by
    rcases q with q | q
    · have := q.2; omega
    · omega
  have bw7 : RowKit.Below W.heap.size W W7 := bw6.trans (f7.below bw6.size fun b hb q => by
    rcases q with q | q
    · have := q.1; omega
    · have := bw6.size; omega)
  refine (Image_any h7 (by omega)).mono fun v W8 ⟨i3, e8, ⟨L3, im3⟩, b8⟩ => ⟨i3, e8, ?_⟩
  refine (of_any im3 (nmS_is h7.s0 _) x).mono fun v W9 ⟨f3, e9, o3, e10⟩ => ?_
  rw [eX, ← e01] at e9 o3
  refine ⟨f3, e9, ?_⟩
  obtain rfl : W9 = W8 := e10
  have o1 := o1.later b8
  have o2 := o2.later b8
  refine (same_yes f1.c f2.c o1.1.rb o2.1.rb hlen).mono fun v W10 ⟨e11, t, e12⟩ => ⟨e11, ?_⟩
  obtain rfl : W10 = W9.drewN t := e12
  refine (same_yes f1.c f3.c (o1.1.later (bl_drewN _ t)).rb (o3.1.later (bl_drewN _ t)).rb hlen).mono fun v W11 ⟨e13, t2, e14⟩ => ⟨e13, ?_⟩
  rw [e14]
  exact bl_t bw7 (bl_t b8 (bl_t (bl_drewN _ t) (bl_drewN _ t2)))
set_option maxRecDepth 100000 in
set_option maxHeartbeats 8000000 in
theorem untouched_walk {W : World} {pa : Option Addr} {sc : List Sp} (pc : Nat) (hs : Rs W pa sc) (hK : Ks sc sc.length ≤ 1000000000) (hl : sc.length ≤ 1099511627776) {ka : Option Addr} {ks : List Int} (kc : Nat) (hks : Rz W ka ks) (hk64 : ∀ k ∈ ks, k ≤ 9223372036854775807) (hkl : ks.length ≤ 1099511627776) (x : Nm) (_ : x.size ≤ maxLen) :
    Calls Try.prog 4 #[.slice pa sc.length pc, .slice ka ks.length kc, .string x] W fun v W' => v = .returned (.bool true) ∧ RowKit.Below W.heap.size W W' := by
  obtain ⟨bs, β, C⟩ := unt_chain pc hs hK hl kc hks hk64 hkl x
  have HNA := hide (fun W2 (b : RowKit.Below W.heap.size W W2) => named_any pc (hs.later b) hl x)
  generalize sc.length = N at *
  generalize ks.length = KN at *
  generalize bs.length = NB at *
  clear hs hK hl hks hk64 hkl
  obtain ⟨hit, hh⟩ : ∃ h, h = nmd sc x N := ⟨_, rfl⟩
  rw [← hh] at C HNA
  clear hh
  go_enter Try.func4, Try.ntmps4
  cases hit
  · go_upto_region 6 with (first
      | (go_at_call 18; refine C.mono ?_; rintro x1 w1 ⟨rfl, b1, C1⟩; clear C; have HB1 := hide b1; have HC := hide (C1 rfl); clear C1 b1)
      | (go_at_call 19; refine (unhide HNA _ (unhide HB1)).mono ?_; rintro x1 w2 ⟨rfl, b2⟩; have C := unhide HC w2 b2; clear b2 HC HNA HB1))
    cases β
    all_goals (
      go_wp2_with (first
        | (go_at_call 21; refine C.mono ?_; rintro x1 w3 ⟨iv, rfl, C1⟩; clear C; have C := C1; clear C1)
        | (go_at_call 20; refine C.mono ?_; rintro x1 w3 ⟨fv, rfl, C1⟩; clear C; have C := C1; clear C1)
        | (go_at_call 22; refine C.mono ?_; rintro x1 w3 ⟨iv, rfl, C1⟩; clear C; have C := C1; clear C1)
        | (go_at_call 14; refine C.mono ?_; rintro x1 w3 ⟨rfl, C1⟩; clear C; have G1 : Hid True := hide trivial; have C := C1; clear C1)
        | (go_at_call 11; refine (num_any _ _).mono ?_; rintro x8 w8 ⟨rfl, rfl⟩)
        | (go_at_call 17; have _u := G1; clear _u; refine C.mono ?_; rintro x1 w3 ⟨rfl, C1⟩; clear C G1; have C := C1; clear C1)
        | (go_at_call 17; refine C.mono ?_; rintro x1 w3 ⟨rfl, C1⟩; clear C; have HF := hide C1; clear C1)
        | (go_at_call 9; refine (little_any _).mono ?_; rintro x9 w9 ⟨rfl, b9⟩; have HG := hide (bl_t (unhide HF) b9); clear b9))
      go_ret
      exact ⟨rfl, unhide HG⟩)
  · go_wp2_with (first
      | (go_at_call 18; refine C.mono ?_; rintro x1 w1 ⟨rfl, b1, C1⟩; clear C; have HB1 := hide b1; clear C1 b1)
      | (go_at_call 19; refine (unhide HNA _ (unhide HB1)).mono ?_; rintro x1 w2 ⟨rfl, b2⟩; have HF := hide (bl_t (unhide HB1) b2); clear b2 HNA HB1)
      | (go_at_call 9; refine (little_any _).mono ?_; rintro x9 w9 ⟨rfl, b9⟩; have HG := hide (bl_t (unhide HF) b9); clear b9))
    go_ret
    exact ⟨rfl, unhide HG⟩
end Go.Proofs.Ytokgegbodbnimaa
