import Derived.Test.YtokgegbodbnimaaMsQ
namespace Go.Proofs.Ytokgegbodbnimaa
open Go.RowKit Go.Maps

theorem do_at {O : Nat → Prop} {B : Nat} {M : Mm} {m0 m1 : Cn} {K : Nat} {W W1 : World} (h : Sto O B M m0 m1 K W) (hb : Below W.heap.size W W1) (o : Opn) (ok : o.Ok W1) (hf : ∀ f b, o.od = some f → bk f = some b → W.heap.size ≤ b) (hK : K + o.e.bytes + 2 ≤ 1099511627776) :
    Calls Try.prog 40 #[.pointer (some ⟨B, 0, none⟩), .iface o.ty o.ag] W1 fun v W' => v = .returned (.int .i64 0) ∧ Did O B M m0 m1 K o.e W W' := by
  obtain ⟨k1, s1, _⟩ := h.s1
  refine (do_any (n0 := W.heap.size) o (h.later hb) hb.size hK ok (fun f y g b e1 e2 e3 e4 => ?_) (fun f y g b e1 e2 e3 e4 => ?_) (fun f o2 g b e1 e2 e3 e4 e5 => ?_) (fun f b e1 e2 => .inr (hf f b e1 e2))).mono fun v W' ⟨q0, M2, q1, q2, q3, q4, q5⟩ => ⟨q0, M2, q1, by rw [q2]; simp, q3, q4, (Fx.of hb).trans q5⟩
  · obtain ⟨bs, _, bt⟩ := h.s0.sc.con y g e2
    have := bt.lt e3
    have := hf f b e1 e4
    omega
  · obtain ⟨bs, _, bt⟩ := s1.sc.con y g e2
    have := bt.lt e3
    have := hf f b e1 e4
    omega
  · have := (h.pok o2 e2).lt e3 e4
    have := hf f b e1 e5
    omega
theorem Sto.find {O : Nat → Prop} {B : Nat} {M : Mm} {m0 m1 : Cn} {K : Nat} {W : World} (h : Sto O B M m0 m1 K W) (x : Nm) (hx : x.size ≤ maxLen) :
    Calls Try.prog 38 #[.pointer (some ⟨B, 0, none⟩), .string x] W fun v W' => v = .returned (.tuple #[(fnd M.H0 x).1, .int .i64 (fnd M.H0 x).2]) ∧ W' = W := find_any h.blk rfl rfl h.s0.dm x hx
theorem Sto.cells {O : Nat → Prop} {B : Nat} {M : Mm} {m0 m1 : Cn} {K : Nat} {W : World} (h : Sto O B M m0 m1 K W) (i : Nat) (v : Value) (e : M.cur[i]? = some v) : W.cell? ⟨B, i, none⟩ = some v := (cell_blk h.blk i).1.trans e
theorem Sto.lacks {O : Nat → Prop} {B : Nat} {M : Mm} {m0 m1 : Cn} {K : Nat} {W : World} (h : Sto O B M m0 m1 K W) (more : Int) :
    Calls Try.prog 39 #[.pointer (some ⟨B, 0, none⟩), .int .i64 more] W fun v W' => v = .returned (.bool (lks M.u0 M.cap more)) ∧ ∃ t, W' = W.drewN t := lacks_any (h.cells 1 _ rfl) (h.cells 5 _ rfl) more
theorem fnd_no {H : Nm → Option Hd} {x : Nm} (h : isNm x = false) : fnd H x = (.slice none 0 0, 140) := by unfold fnd; rw [h]; rfl
theorem fnd_none {H : Nm → Option Hd} {x : Nm} (h : isNm x = true) (e : H x = none) : fnd H x = (.slice none 0 0, 141) := by unfold fnd; rw [h, e]; rfl
theorem fnd_some {H : Nm → Option Hd} {x : Nm} {f : Hd} (h : isNm x = true) (e : H x = some f) : fnd H x = (.slice f.a f.n f.c, 0) := by unfold fnd; rw [h, e]; rfl
theorem wrap64_id {n : Int} (h1 : -9223372036854775808 ≤ n) (h2 : n ≤ 9223372036854775807) : wrap64 n = n := by
  unfold wrap64
  omega
set_option maxRecDepth 100000 in
set_option maxHeartbeats 8000000 in
theorem Write_any {O : Nat → Prop} {B : Nat} {M : Mm} {m0 m1 : Cn} {K : Nat} {W : World} (h : Sto O B M m0 m1 K W) {x : Nm} (hx : x.size ≤ maxLen) {pa : Option Addr} {bs : List Int} (pc : Nat) (hd : Rb W pa bs) (h0 : pa = none → bs = []) (hK : K + bs.length + 2 ≤ 1099511627776) :
    Calls Try.prog 12 #[.pointer (some ⟨B, 0, none⟩), .string x, .slice pa bs.length pc] W fun v W' => v = .returned (.int .i64 (wrR m0 M.u0 M.cap x bs.length)) ∧ Left O B M m0 m1 K (.wr x bs) (wrR m0 M.u0 M.cap x bs.length) W W' := by
  have cF := h.find x hx
  have hln := h.s0.sc.ln x
  have hbl : bs.length ≤ 1099511627776 := by omega
  cases hn : isNm x with
  | false =>
    rw [fnd_no hn] at cF
    have er : wrR m0 M.u0 M.cap x bs.length = 140 := by unfold wrR; rw [hn]; rfl
    rw [er]
    clear h hd
    go_enter Try.func12, Try.ntmps12
    go_wp2_with (first | (go_at_call 38; refine cF.mono ?_; rintro x1 w1 ⟨rfl, rfl⟩))
    go_ret
    exact ⟨rfl, .inr ⟨by decide, Below.refl _ _⟩⟩
  | true =>
    cases hH : M.H0 x with
    | none =>
      have hm := h.s0.sc.non x hH
      rw [fnd_none hn hH] at cF
      by_cases hc : 1048576 ≤ cnt m0
      · have er : wrR m0 M.u0 M.cap x bs.length = 142 := by
          have ef : full m0 M.u0 M.cap x bs.length = true := by unfold full; rw [hm, decide_eq_true hc]; rfl
          unfold wrR
          rw [if_pos hn, if_pos ef]
        rw [er]
        have cl := h.s0.len
        obtain ⟨mo, emo⟩ := h.s0.dm.form
        rw [emo] at cl
        have c0 := h.cells 0 M.d0 rfl
        rw [emo] at c0
        have hc2 : (1048576 : Int) ≤ (cnt m0 : Int) := by omega
        clear h hd
        go_enter Try.func12, Try.ntmps12
        go_wp2_with (first | (go_at_call 38; refine cF.mono ?_; rintro x1 w1 ⟨rfl, rfl⟩))
        go_ret
        exact ⟨rfl, .inr ⟨by decide, Below.refl _ _⟩⟩
      · have cl := h.s0.len
        obtain ⟨mo, emo⟩ := h.s0.dm.form
        rw [emo] at cl
        have c0 := h.cells 0 M.d0 rfl
        rw [emo] at c0
        have hc2 : ¬ ((1048576 : Int) ≤ (cnt m0 : Int)) := by omega
        have hw : wrap64 ((bs.length : Int) - 0) = (bs.length : Int) := by rw [Int.sub_zero]; exact wrap64_id (by omega) (by omega)
        have cL := h.lacks (bs.length : Int)
        have er : wrR m0 M.u0 M.cap x bs.length = if lks M.u0 M.cap (bs.length : Int) = true then 142 else 0 := by
          have ef : full m0 M.u0 M.cap x bs.length = lks M.u0 M.cap (bs.length : Int) := by
            have e0 : wrap64 ((bs.length : Int) - (lnC none : Int)) = (bs.length : Int) := hw
            unfold full
            rw [hm, decide_eq_false hc, e0, Bool.and_false, Bool.false_or]
          unfold wrR
          rw [if_pos hn, ef]
        rw [er]
        clear er hw hln hc
        generalize (cnt m0 : Int) = cz at *
        cases hlk : lks M.u0 M.cap (bs.length : Int) with
        | true =>
          rw [hlk] at cL
          clear h hd
          go_enter Try.func12, Try.ntmps12
          go_wp2_with (first | (go_at_call 38; refine cF.mono ?_; rintro x1 w1 ⟨rfl, rfl⟩) | (go_at_call 39; refine cL.mono ?_; rintro x4 w4 ⟨rfl, t, rfl⟩))
          go_ret
          exact ⟨rfl, .inr ⟨by decide, bl_drewN _ _⟩⟩
        | false =>
          rw [hlk] at cL
          have cC := fun t => clone_any (W := W.drewN t) pc (hd.later (bl_drewN W t)) h0 (by omega)
          have NX : ∀ t (f : Hd) W1, Bt W1 f bs → (∀ g, bk f = some g → (W.drewN t).heap.size ≤ g) → Below (W.drewN t).heap.size (W.drewN t) W1 → Calls Try.prog 40 #[.pointer (some ⟨B, 0, none⟩), .iface 80 (.agg #[.string x, .slice f.a f.n f.c])] W1 fun v W' => v = .returned (.int .i64 0) ∧ Did O B M m0 m1 K (.wr x bs) W W' := fun t f W1 q1 q2 q3 => do_at h (bl_t (bl_drewN W t) q3) (.wr x f bs) ⟨(isNm_yes hn).2.1, q1⟩ (fun g b e1 e2 => by
            cases e1
            exact q2 b e2) hK
          have HN := hide NX
          have e1 : ∀ f : Hd, hv f = .slice f.a f.n f.c := fun _ => rfl
          clear h hd NX hm hH
          go_enter Try.func12, Try.ntmps12
          go_wp2_with (first | (go_at_call 38; refine cF.mono ?_; rintro x1 w1 ⟨rfl, rfl⟩) | (go_at_call 39; refine cL.mono ?_; rintro x4 w4 ⟨rfl, t, rfl⟩) | (go_at_call 41; refine (cC _).mono ?_; rintro x2 w2 ⟨f2, rfl, q1, q2, q3⟩; have C5 := unhide HN _ f2 w2 q1 q2 q3; rw [e1]; clear q1 q2 q3) | (go_at_call 40; refine C5.mono ?_; rintro x3 w3 ⟨rfl, HE⟩; have HE := hide HE))
          go_ret
          exact ⟨rfl, .inl ⟨rfl, unhide HE⟩⟩
    | some f =>
      obtain ⟨os, em, bf⟩ := h.s0.sc.con x f hH
      rw [fnd_some hn hH] at cF
      have hol := bf.len
      have hok := h.l0 x os em
      have hKK := h.hK
      have cL := h.lacks (wrap64 ((bs.length : Int) - (f.n : Int)))
      have er : wrR m0 M.u0 M.cap x bs.length = if lks M.u0 M.cap (wrap64 ((bs.length : Int) - (f.n : Int))) = true then 142 else 0 := by
        have ef : full m0 M.u0 M.cap x bs.length = lks M.u0 M.cap (wrap64 ((bs.length : Int) - (f.n : Int))) := by
          have e0 : lnC (some os) = f.n := hol
          unfold full
          rw [em, e0, Option.isNone_some, Bool.false_and, Bool.false_or]
        unfold wrR
        rw [if_pos hn, ef]
      have hw : wrap64 ((bs.length : Int) - (f.n : Int)) = (bs.length : Int) - (f.n : Int) := wrap64_id (by omega) (by omega)
      rw [hw] at cL er
      rw [er]
      clear er
      cases hlk : lks M.u0 M.cap ((bs.length : Int) - (f.n : Int)) with
      | true =>
        rw [hlk] at cL
        clear h hd
        go_enter Try.func12, Try.ntmps12
        go_wp2_with (first | (go_at_call 38; refine cF.mono ?_; rintro x1 w1 ⟨rfl, rfl⟩) | (go_at_call 39; refine cL.mono ?_; rintro x4 w4 ⟨rfl, t, rfl⟩))
        go_ret
        exact ⟨rfl, .inr ⟨by decide, bl_drewN _ _⟩⟩
      | false =>
        rw [hlk] at cL
        have cC := fun t => clone_any (W := W.drewN t) pc (hd.later (bl_drewN W t)) h0 (by omega)
        have NX : ∀ t (f : Hd) W1, Bt W1 f bs → (∀ g, bk f = some g → (W.drewN t).heap.size ≤ g) → Below (W.drewN t).heap.size (W.drewN t) W1 → Calls Try.prog 40 #[.pointer (some ⟨B, 0, none⟩), .iface 80 (.agg #[.string x, .slice f.a f.n f.c])] W1 fun v W' => v = .returned (.int .i64 0) ∧ Did O B M m0 m1 K (.wr x bs) W W' := fun t f W1 q1 q2 q3 => do_at h (bl_t (bl_drewN W t) q3) (.wr x f bs) ⟨(isNm_yes hn).2.1, q1⟩ (fun g b e1 e2 => by
          cases e1
          exact q2 b e2) hK
        have HN := hide NX
        have e1 : ∀ f : Hd, hv f = .slice f.a f.n f.c := fun _ => rfl
        clear h hd NX em bf hH
        go_enter Try.func12, Try.ntmps12
        go_wp2_with (first | (go_at_call 38; refine cF.mono ?_; rintro x1 w1 ⟨rfl, rfl⟩) | (go_at_call 39; refine cL.mono ?_; rintro x4 w4 ⟨rfl, t, rfl⟩) | (go_at_call 41; refine (cC _).mono ?_; rintro x2 w2 ⟨f2, rfl, q1, q2, q3⟩; have C5 := unhide HN _ f2 w2 q1 q2 q3; rw [e1]; clear q1 q2 q3) | (go_at_call 40; refine C5.mono ?_; rintro x3 w3 ⟨rfl, HE⟩; have HE := hide HE))
        go_ret
        exact ⟨rfl, .inl ⟨rfl, unhide HE⟩⟩
set_option maxRecDepth 100000 in
set_option maxHeartbeats 8000000 in
theorem Append_any {O : Nat → Prop} {B : Nat} {M : Mm} {m0 m1 : Cn} {K : Nat} {W : World} (h : Sto O B M m0 m1 K W) {x : Nm} (hx : x.size ≤ maxLen) {pa : Option Addr} {bs : List Int} (pc : Nat) (hd : Rb W pa bs) (h0 : pa = none → bs = []) (hK : K + bs.length + 2 ≤ 1099511627776) :
    Calls Try.prog 15 #[.pointer (some ⟨B, 0, none⟩), .string x, .slice pa bs.length pc] W fun v W' => v = .returned (.int .i64 (apR m0 M.u0 M.cap x bs.length)) ∧ Left O B M m0 m1 K (.ap x bs) (apR m0 M.u0 M.cap x bs.length) W W' := by
  have cF := h.find x hx
  have hln := h.s0.sc.ln x
  have hbl : bs.length ≤ 1099511627776 := by omega
  cases hn : isNm x with
  | false =>
    rw [fnd_no hn] at cF
    have er : apR m0 M.u0 M.cap x bs.length = 140 := by unfold apR; rw [hn]; rfl
    rw [er]
    clear h hd
    go_enter Try.func15, Try.ntmps15
    go_wp2_with (first | (go_at_call 38; refine cF.mono ?_; rintro x1 w1 ⟨rfl, rfl⟩))
    go_ret
    exact ⟨rfl, .inr ⟨by decide, Below.refl _ _⟩⟩
  | true =>
    cases hH : M.H0 x with
    | none =>
      have hm := h.s0.sc.non x hH
      rw [fnd_none hn hH] at cF
      have er : apR m0 M.u0 M.cap x bs.length = 141 := by unfold apR; rw [if_pos hn, hm]
      rw [er]
      clear h hd
      go_enter Try.func15, Try.ntmps15
      go_wp2_with (first | (go_at_call 38; refine cF.mono ?_; rintro x1 w1 ⟨rfl, rfl⟩))
      go_ret
      exact ⟨rfl, .inr ⟨by decide, Below.refl _ _⟩⟩
    | some f =>
      obtain ⟨os, em, bf⟩ := h.s0.sc.con x f hH
      rw [fnd_some hn hH] at cF
      have hol := bf.len
      have hok := h.l0 x os em
      have hKK := h.hK
      have cL := h.lacks (bs.length : Int)
      have er : apR m0 M.u0 M.cap x bs.length = if lks M.u0 M.cap (bs.length : Int) = true then 142 else 0 := by
        unfold apR
        rw [if_pos hn, em]
      rw [er]
      clear er
      cases hlk : lks M.u0 M.cap (bs.length : Int) with
      | true =>
        rw [hlk] at cL
        clear h hd
        go_enter Try.func15, Try.ntmps15
        go_wp2_with (first | (go_at_call 38; refine cF.mono ?_; rintro x1 w1 ⟨rfl, rfl⟩) | (go_at_call 39; refine cL.mono ?_; rintro x4 w4 ⟨rfl, t, rfl⟩))
        go_ret
        exact ⟨rfl, .inr ⟨by decide, bl_drewN _ _⟩⟩
      | false =>
        rw [hlk] at cL
        have cC := fun t => clone_any (W := W.drewN t) pc (hd.later (bl_drewN W t)) h0 (by omega)
        have NX : ∀ t (f : Hd) W1, Bt W1 f bs → (∀ g, bk f = some g → (W.drewN t).heap.size ≤ g) → Below (W.drewN t).heap.size (W.drewN t) W1 → Calls Try.prog 40 #[.pointer (some ⟨B, 0, none⟩), .iface 87 (.agg #[.string x, .slice f.a f.n f.c])] W1 fun v W' => v = .returned (.int .i64 0) ∧ Did O B M m0 m1 K (.ap x bs) W W' := fun t f W1 q1 q2 q3 => do_at h (bl_t (bl_drewN W t) q3) (.ap x f bs) ⟨(isNm_yes hn).2.1, q1⟩ (fun g b e1 e2 => by
          cases e1
          exact q2 b e2) hK
        have HN := hide NX
        have e1 : ∀ f : Hd, hv f = .slice f.a f.n f.c := fun _ => rfl
        clear h hd NX em bf hH
        go_enter Try.func15, Try.ntmps15
        go_wp2_with (first | (go_at_call 38; refine cF.mono ?_; rintro x1 w1 ⟨rfl, rfl⟩) | (go_at_call 39; refine cL.mono ?_; rintro x4 w4 ⟨rfl, t, rfl⟩) | (go_at_call 41; refine (cC _).mono ?_; rintro x2 w2 ⟨f2, rfl, q1, q2, q3⟩; have C5 := unhide HN _ f2 w2 q1 q2 q3; rw [e1]; clear q1 q2 q3) | (go_at_call 40; refine C5.mono ?_; rintro x3 w3 ⟨rfl, HE⟩; have HE := hide HE))
        go_ret
        exact ⟨rfl, .inl ⟨rfl, unhide HE⟩⟩
end Go.Proofs.Ytokgegbodbnimaa
