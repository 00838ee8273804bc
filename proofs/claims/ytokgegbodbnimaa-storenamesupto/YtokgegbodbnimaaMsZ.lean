import Derived.Test.YtokgegbodbnimaaMsY
namespace Go.Proofs.Ytokgegbodbnimaa
open Go.RowKit Go.Maps

theorem Fx.below {P : Nat → Prop} {A C : World} {s : Nat} (h : Fx P A C) (hs : s ≤ A.heap.size) (hp : ∀ b, b < s → ¬ P b) : Below s A C := ⟨h.bel.os, h.bel.tape, h.bel.output, h.size, fun k hk => h.blk k (by omega) (hp k hk)⟩
/-- BYTES THAT CAME IN, APART FROM A STORE. -/
def Rx (B n0 : Nat) (W : World) (pa : Option Addr) (bs : List Int) : Prop := bs = [] ∨ ∃ b o, pa = some ⟨b, o, none⟩ ∧ b < W.heap.size ∧ b < n0 ∧ b ≠ B ∧ ∀ (j : Nat) u, (u8 bs)[j]? = some u → W.cell? ⟨b, o + j, none⟩ = some u
theorem Rx.rb {B n0 : Nat} {W : World} {pa : Option Addr} {bs : List Int} (h : Rx B n0 W pa bs) : Rb W pa bs := by
  rcases h with h | ⟨b, o, h1, h2, _, _, h3⟩
  · exact .inl h
  · exact .inr ⟨b, o, h1, h2, h3⟩
theorem Rx.fx {B n0 : Nat} {W W2 : World} {pa : Option Addr} {bs : List Int} (h : Rx B n0 W pa bs) (f : Fx (Ob B n0) W W2) : Rx B n0 W2 pa bs := by
  rcases h with h | ⟨b, o, h1, h2, h3, h4, h5⟩
  · exact .inl h
  · refine .inr ⟨b, o, h1, Nat.lt_of_lt_of_le h2 f.size, h3, h4, fun j u hj => ?_⟩
    rw [← h5 j u hj]
    unfold World.cell?
    rw [show W2.heap[(⟨b, o + j, none⟩ : Addr).block]? = W.heap[(⟨b, o + j, none⟩ : Addr).block]? from f.blk b h2 fun z => by
      rcases z with z | z
      · exact h4 z
      · omega]
def ff : Nm := ⟨#[102, 102]⟩
def res (os ds : List Int) (k : Int) : List Int := if k < 1 then os else if k = 1 then ds else tk ds (k - 2)
def resA (os ds : List Int) (k : Int) : List Int := if k < 1 then os else os ++ (if k = 1 then ds else tk ds (k - 2))
theorem crI_one (o : Ope) (k : Int) (m : Cn) : crI [o] [k] m 1 = (match o.rem k with | some o' => o'.cn m | none => m) := rfl
theorem cr_w (os ds : List Int) (k : Int) (m : Cn) (hm : m ff = some os) : crI [.wr ff ds] [k] m 1 ff = some (res os ds k) := by
  rw [crI_one]
  unfold Ope.rem res
  by_cases h1 : k < 1
  · rw [if_pos h1, if_pos h1]; exact hm
  · rw [if_neg h1, if_neg h1]
    by_cases h2 : k = 1
    · rw [if_pos h2, if_pos h2]; exact up_same m ff (some ds)
    · rw [if_neg h2, if_neg h2]; exact up_same m ff (some (tk ds (k - 2)))
theorem ap_cn (x : Nm) (os ds : List Int) (m : Cn) (hm : m x = some os) : (Ope.ap x ds).cn m x = some (os ++ ds) := by
  unfold Ope.cn
  simp only [Ope.on, hm]
  exact up_same _ _ _
theorem cr_a (os ds : List Int) (k : Int) (m : Cn) (hm : m ff = some os) : crI [.ap ff ds] [k] m 1 ff = some (resA os ds k) := by
  rw [crI_one]
  unfold Ope.rem resA
  by_cases h1 : k < 1
  · rw [if_pos h1, if_pos h1]; exact hm
  · rw [if_neg h1, if_neg h1]
    by_cases h2 : k = 1
    · rw [if_pos h2, if_pos h2]; exact ap_cn _ _ _ _ hm
    · rw [if_neg h2, if_neg h2]; exact ap_cn _ _ _ _ hm
/-- A file written and synced, then Write, then a crash. -/
theorem chain_w {B n0 : Nat} {M : Mm} {W0 : World} (h : Sto (Ob B n0) B M (fun _ => none) (fun _ => none) 0 W0) (hc : M.cap = 1073741824) (hu : M.u0 = 0) (hn0 : n0 ≤ W0.heap.size) {oa da : Option Addr} {os ds : List Int} (oc dc : Nat) (ho : Rx B n0 W0 oa os) (hd : Rx B n0 W0 da ds) (ho0 : oa = none → os = []) (hd0 : da = none → ds = []) (hz : os.length + ds.length ≤ 1073741824) (k : Int) (hk : k ≤ 9223372036854775807) :
    Calls Try.prog 12 #[.pointer (some ⟨B, 0, none⟩), .string ff, .slice oa os.length oc] W0 fun v W1 => v = .returned (.int .i64 0) ∧
      Calls Try.prog 13 #[.pointer (some ⟨B, 0, none⟩)] W1 fun v W2 => v = .returned (.int .i64 0) ∧
        Calls Try.prog 12 #[.pointer (some ⟨B, 0, none⟩), .string ff, .slice da ds.length dc] W2 fun v W3 => v = .returned (.int .i64 0) ∧
          Calls Try.prog 14 #[.pointer (some ⟨B, 0, none⟩), .agg #[.slice (some ⟨W3.heap.size, 0, none⟩) 1 1]] (W3.alloc (.cells #[.int .i64 k] 3)) fun v W4 => v = .returned (.int .i64 0) ∧ ∃ M2 m K, Sto (Ob B n0) B M2 m m K W4 ∧ m ff = some (res os ds k) ∧ Fx (Ob B n0) W0 W4 := by
  have nf : isNm ff = true := isNm_ff
  have hfl : ff.size ≤ maxLen := Nat.le_trans (isNm_yes nf).2.1 (by decide)
  refine (write_done h hn0 hfl oc ho.rb ho0 (by omega) (by rw [hu, hc]; exact wrR_first nf (by omega) (by omega))).mono fun v W1 ⟨q0, ⟨M1, s1, p1, c1, u1⟩, f1⟩ => ⟨q0, ?_⟩
  have u1' : M1.u0 = (os.length : Int) := by
    rw [u1, hu]
    exact usP_first os.length (by omega)
  have m1 : (Ope.wr ff os).cn (fun _ => none) ff = some os := up_same (fun _ => none) ff (some os)
  have z1 : n0 ≤ W1.heap.size := Nat.le_trans hn0 f1.size
  refine (sync_done s1 z1).mono fun v W2 ⟨q0, ⟨M2, s2, p2, c2, u2⟩, f2⟩ => ⟨q0, ?_⟩
  have z2 : n0 ≤ W2.heap.size := Nat.le_trans z1 f2.size
  have hd2 := (hd.fx f1).fx f2
  refine (write_done s2 z2 hfl dc hd2.rb hd0 (by omega) (by rw [u2, u1', c2, c1, hc]; exact wrR_next nf m1 (by omega) (by omega) (by omega))).mono fun v W3 ⟨q0, ⟨M3, s3, p3, c3, u3⟩, f3⟩ => ⟨q0, ?_⟩
  have z3 : n0 ≤ W3.heap.size := Nat.le_trans z2 f3.size
  have ep : M3.ps.map Opn.e = [.wr ff ds] := by rw [p3, p2]; rfl
  have el : M3.ps.length = 1 := by
    have := congrArg List.length ep
    simpa using this
  refine (crash_done s3 z3 (W1 := W3.alloc (.cells #[.int .i64 k] 3)) ((Below.refl _ _).alloc (Nat.le_refl _) _) (by omega) (ks := [k]) 1 (.inr ⟨W3.heap.size, 0, rfl, by simp, .inl (Nat.le_refl _), fun j hj => ?_⟩) (by simp) (fun x hx => by rw [List.mem_singleton.1 hx]; exact hk) (fun e => by rw [e] at el; cases el)).mono fun v W4 ⟨q0, ⟨M4, s4, p4, c4⟩, f4⟩ => ⟨q0, M4, _, _, s4, ?_, ((f1.trans f2).trans f3).trans f4⟩
  · obtain rfl : j = 0 := by simp at hj; exact hj
    go_simp
  · rw [ep, el]
    exact cr_w os ds k _ m1
/-- A file written and synced, then Append, then a crash. -/
theorem chain_a {B n0 : Nat} {M : Mm} {W0 : World} (h : Sto (Ob B n0) B M (fun _ => none) (fun _ => none) 0 W0) (hc : M.cap = 1073741824) (hu : M.u0 = 0) (hn0 : n0 ≤ W0.heap.size) {oa da : Option Addr} {os ds : List Int} (oc dc : Nat) (ho : Rx B n0 W0 oa os) (hd : Rx B n0 W0 da ds) (ho0 : oa = none → os = []) (hd0 : da = none → ds = []) (hz : os.length + ds.length ≤ 1073741824) (k : Int) (hk : k ≤ 9223372036854775807) :
    Calls Try.prog 12 #[.pointer (some ⟨B, 0, none⟩), .string ff, .slice oa os.length oc] W0 fun v W1 => v = .returned (.int .i64 0) ∧
      Calls Try.prog 13 #[.pointer (some ⟨B, 0, none⟩)] W1 fun v W2 => v = .returned (.int .i64 0) ∧
        Calls Try.prog 15 #[.pointer (some ⟨B, 0, none⟩), .string ff, .slice da ds.length dc] W2 fun v W3 => v = .returned (.int .i64 0) ∧
          Calls Try.prog 14 #[.pointer (some ⟨B, 0, none⟩), .agg #[.slice (some ⟨W3.heap.size, 0, none⟩) 1 1]] (W3.alloc (.cells #[.int .i64 k] 3)) fun v W4 => v = .returned (.int .i64 0) ∧ ∃ M2 m K, Sto (Ob B n0) B M2 m m K W4 ∧ m ff = some (resA os ds k) ∧ Fx (Ob B n0) W0 W4 := by
  have nf : isNm ff = true := isNm_ff
  have hfl : ff.size ≤ maxLen := Nat.le_trans (isNm_yes nf).2.1 (by decide)
  refine (write_done h hn0 hfl oc ho.rb ho0 (by omega) (by rw [hu, hc]; exact wrR_first nf (by omega) (by omega))).mono fun v W1 ⟨q0, ⟨M1, s1, p1, c1, u1⟩, f1⟩ => ⟨q0, ?_⟩
  have u1' : M1.u0 = (os.length : Int) := by
    rw [u1, hu]
    exact usP_first os.length (by omega)
  have m1 : (Ope.wr ff os).cn (fun _ => none) ff = some os := up_same (fun _ => none) ff (some os)
  have z1 : n0 ≤ W1.heap.size := Nat.le_trans hn0 f1.size
  refine (sync_done s1 z1).mono fun v W2 ⟨q0, ⟨M2, s2, p2, c2, u2⟩, f2⟩ => ⟨q0, ?_⟩
  have z2 : n0 ≤ W2.heap.size := Nat.le_trans z1 f2.size
  have hd2 := (hd.fx f1).fx f2
  refine (append_done s2 z2 hfl dc hd2.rb hd0 (by omega) (by rw [u2, u1', c2, c1, hc]; exact apR_next nf m1 (by omega) (by omega) (by omega))).mono fun v W3 ⟨q0, ⟨M3, s3, p3, c3, u3⟩, f3⟩ => ⟨q0, ?_⟩
  have z3 : n0 ≤ W3.heap.size := Nat.le_trans z2 f3.size
  have ep : M3.ps.map Opn.e = [.ap ff ds] := by rw [p3, p2]; rfl
  have el : M3.ps.length = 1 := by
    have := congrArg List.length ep
    simpa using this
  refine (crash_done s3 z3 (W1 := W3.alloc (.cells #[.int .i64 k] 3)) ((Below.refl _ _).alloc (Nat.le_refl _) _) (by omega) (ks := [k]) 1 (.inr ⟨W3.heap.size, 0, rfl, by simp, .inl (Nat.le_refl _), fun j hj => ?_⟩) (by simp) (fun x hx => by rw [List.mem_singleton.1 hx]; exact hk) (fun e => by rw [e] at el; cases el)).mono fun v W4 ⟨q0, ⟨M4, s4, p4, c4⟩, f4⟩ => ⟨q0, M4, _, _, s4, ?_, ((f1.trans f2).trans f3).trans f4⟩
  · obtain rfl : j = 0 := by simp at hj; exact hj
    go_simp
  · rw [ep, el]
    exact cr_a os ds k _ m1
def aa : Nm := ⟨#[97, 97]⟩
def bb : Nm := ⟨#[98, 98]⟩
theorem ab_ne : aa ≠ bb := by decide
theorem cnt_one (x : Nm) (bs : List Int) : cnt (up (fun _ => none) x (some bs)) = 1 := cnt_eq (l := [x.data.toList]) (by simp) fun y => by
  rw [List.mem_singleton]
  by_cases e : y = x
  · subst e; simp [up_same]
  · rw [up_other _ _ e]
    constructor
    · intro q
      exact absurd (kl_inj (by unfold kl; rw [q])) e
    · intro q; exact absurd rfl q
theorem little_chain (W : World) : ∀ W1, Below (W.alloc (.cells (st0 9) 75)).heap.size (W.alloc (.cells (st0 9) 75)) W1 → ∀ pa, Rb W1 pa [49] → pa ≠ none → ∀ pc,
    Calls Try.prog 12 #[.pointer (some ⟨W.heap.size, 0, none⟩), .string aa, .slice pa 1 pc] W1 fun v W2 => v = .returned (.int .i64 0) ∧
      Calls Try.prog 13 #[.pointer (some ⟨W.heap.size, 0, none⟩)] W2 fun v W3 => v = .returned (.int .i64 0) ∧ ∀ W4, Below W3.heap.size W3 W4 → ∀ pb, Rb W4 pb [50] → pb ≠ none → ∀ pd,
        Calls Try.prog 12 #[.pointer (some ⟨W.heap.size, 0, none⟩), .string bb, .slice pb 1 pd] W4 fun v W5 => v = .returned (.int .i64 0) ∧
          Calls Try.prog 14 #[.pointer (some ⟨W.heap.size, 0, none⟩), .agg #[.slice none 0 0]] W5 fun v W6 => v = .returned (.int .i64 0) ∧
            Calls Try.prog 16 #[.pointer (some ⟨W.heap.size, 0, none⟩), .string aa] W6 fun v W7 => ∃ f : Hd, v = .returned (.tuple #[.slice f.a f.n f.c, .int .i64 0]) ∧
              Calls Try.prog 16 #[.pointer (some ⟨W.heap.size, 0, none⟩), .string bb] W7 fun v W8 => v = .returned (.tuple #[.slice none 0 0, .int .i64 141]) ∧ Bt W8 f [49] ∧ Below W.heap.size W W8 := by
  intro W1 hb1 pa ha ha0 pc
  obtain ⟨M, s, p, c, u⟩ := Sto_new W 9
  have na : isNm aa = true := isNm_aa
  have nb : isNm bb = true := isNm_bb
  have al : aa.size ≤ maxLen := Nat.le_trans (isNm_yes na).2.1 (by decide)
  have bl : bb.size ≤ maxLen := Nat.le_trans (isNm_yes nb).2.1 (by decide)
  have hs0 : (W.alloc (.cells (st0 9) 75)).heap.size = W.heap.size + 1 := World.size_alloc _ _
  have s0 : Sto (Ob W.heap.size (W.heap.size + 1)) W.heap.size M (fun _ => none) (fun _ => none) 0 W1 := (s.mono (O2 := Ob W.heap.size (W.heap.size + 1)) (fun b _ q => .inl q) (Nat.le_refl _) (by decide)).later hb1
  have z1 : W.heap.size + 1 ≤ W1.heap.size := by have := hb1.size; omega
  have bw1 : Below W.heap.size W W1 := bl_t ((Below.refl _ W).alloc (Nat.le_refl _) _) hb1
  refine (write_done s0 z1 al pc ha (fun e => absurd e ha0) (by decide) (by rw [u, c]; exact wrR_first na (by decide) (by decide))).mono fun v W2 ⟨q0, ⟨M2, s2, p2, c2, u2⟩, f2⟩ => ⟨q0, ?_⟩
  have z2 := Nat.le_trans z1 f2.size
  have u2' : M2.u0 = 1 := by
    rw [u2, u]
    exact usP_first 1 (by decide)
  refine (sync_done s2 z2).mono fun v W3 ⟨q0, ⟨M3, s3, p3, c3, u3⟩, f3⟩ => ⟨q0, ?_⟩
  have z3 := Nat.le_trans z2 f3.size
  intro W4 hb4 pb hpb hb0 pd
  have s4 := s3.later hb4
  have z4 := Nat.le_trans z3 hb4.size
  have mb0 : (Ope.wr aa [49]).cn (fun _ => none) bb = none := up_other (fun _ => none) (some [49]) fun e => ab_ne e.symm
  refine (write_done s4 z4 bl pd hpb (fun e => absurd e hb0) (by decide) (by
    rw [u3, u2', c3, c2, c]
    have ef : full ((Ope.wr aa [49]).cn fun _ => none) 1 9 bb 1 = false := by
      unfold full
      rw [mb0, show cnt ((Ope.wr aa [49]).cn fun _ => none) = 1 from cnt_one aa [49], decide_eq_false (show ¬ (1048576 ≤ 1) by omega), Bool.and_false, Bool.false_or]
      show lks 1 9 (wrap64 1) = false
      rw [wrap64_id (n := 1) (by decide) (by decide)]
      unfold lks
      rw [show (1 : Int) + 1 = 2 by decide, wrap64_id (n := 2) (by decide) (by decide)]
      decide
    unfold wrR
    rw [if_pos nb]
    show (if full ((Ope.wr aa [49]).cn fun _ => none) 1 9 bb 1 = true then (142 : Int) else 0) = 0
    rw [ef]
    rfl)).mono fun v W5 ⟨q0, ⟨M5, s5, p5, c5, u5⟩, f5⟩ => ⟨q0, ?_⟩
  have z5 := Nat.le_trans z4 f5.size
  have ep : M5.ps.map Opn.e = [.wr bb [50]] := by rw [p5, p3]; rfl
  have el : M5.ps.length = 1 := by
    have := congrArg List.length ep
    simpa using this
  refine (crash_done s5 z5 (Below.refl _ _) (by decide) (ka := none) (ks := []) 0 (.inl rfl) (by decide) (fun x hx => by cases hx) (fun e => by rw [e] at el; cases el)).mono fun v W6 ⟨q0, ⟨M6, s6, p6, c6⟩, f6⟩ => ⟨q0, ?_⟩
  have e6 : crI (M5.ps.map Opn.e) [] ((Ope.wr aa [49]).cn fun _ => none) (min M5.ps.length ([] : List Int).length) = (Ope.wr aa [49]).cn fun _ => none := by
    rw [el]
    rfl
  rw [e6] at s6
  have bw6 : Below W.heap.size W W6 := by
    have nb : ∀ b, b < W.heap.size → ¬ Ob W.heap.size (W.heap.size + 1) b := fun b h1 q => by
      rcases q with q | q <;> omega
    have g2 := f2.below (s := W.heap.size) (by omega) nb
    have g3 := f3.below (s := W.heap.size) (by omega) nb
    have g5 := f5.below (s := W.heap.size) (by omega) nb
    have g6 := f6.below (s := W.heap.size) (by omega) nb
    exact ((((bw1.trans g2).trans g3).trans (hb4.mono (by omega))).trans g5).trans g6
  refine (Read_some s6 na (bs := [49]) (up_same (fun _ => none) aa (some [49]))).mono fun v W7 ⟨f, q0, bt, b7⟩ => ⟨f, q0, ?_⟩
  refine (Read_none (s6.later b7) nb mb0).mono fun v W8 ⟨q0, b8⟩ => ⟨q0, bt.later b8, bl_t (bl_t bw6 b7) b8⟩
end Go.Proofs.Ytokgegbodbnimaa
