import Derived.Test.YtfnbclehlikbkaaDoorNoughtw
namespace Go.Proofs.YtfnbclehlikbkaaDoor
open Go.RowKit

theorem pre_ordG : IsPre ordG :=
  pre_lex (pre_comap pre_ordNum (fun v : Ver => digs v.e)) (pre_lex (pre_comap pre_ordPart Ver.u) (pre_comap pre_ordPart Ver.r))

theorem IsPre.self {α : Type} {f : α → α → Int} (h : IsPre f) (v : α) : f v v = 0 := by
  have := h.anti v v
  omega
theorem IsPre.exch {α : Type} {f : α → α → Int} (h : IsPre f) {v x : α} (e : f v x = 0) (o : α) : f x o = f v o ∧ f o x = f o v := by
  have a1 := h.anti v x
  have a2 := h.anti v o
  have a3 := h.anti x o
  have r1 := h.rng v o
  have r2 := h.rng x o
  have t1 := h.tr v x o
  have t2 := h.tr x v o
  have t3 := h.tr o x v
  have t4 := h.tr o v x
  omega
theorem IsPre.lt {α : Type} {f : α → α → Int} (h : IsPre f) {x v y : α} (e : f x v = -1) (g : f v y = -1) : f x y = -1 := by
  have a1 := h.anti x v
  have a2 := h.anti v y
  have a3 := h.anti x y
  have r1 := h.rng x y
  have t1 := h.tr x v y
  have t2 := h.tr y x v
  omega

theorem digs_nought (e : ByteArray) : (digs (⟨#[48]⟩ ++ e)).data.toList = 48 :: (digs e).data.toList := by
  have : (⟨#[48]⟩ ++ e : ByteArray).data.toList = 48 :: e.data.toList := by rw [toList_append]; rfl
  show (digsL _).toArray.toList = 48 :: (digsL _).toArray.toList
  rw [this]
  rfl

theorem ordG_nought (e u r : ByteArray) (c d : Bool) (hr : d = false → r = nob) : ordG ⟨e, u, r, c, d⟩ ⟨⟨#[48]⟩ ++ e, nU u, if d = true then r else ⟨#[48]⟩, true, true⟩ = 0 := by
  have h1 : ordNum (digs e) (digs (⟨#[48]⟩ ++ e)) = 0 := ordNum_strip _ _ (strip_zero _ _ (digs_nought e))
  have h2 : ordPart u (nU u) = 0 := ordPart_nought u (nU u) (nU_list u)
  have h3 : ordPart r (if d = true then r else ⟨#[48]⟩) = 0 := by
    cases d
    · rw [hr rfl]; decide +kernel
    · exact pre_ordPart.self r
  show (if ordNum (digs e) (digs (⟨#[48]⟩ ++ e)) = 0 then (if ordPart u (nU u) = 0 then ordPart r (if d = true then r else ⟨#[48]⟩) else ordPart u (nU u)) else ordNum (digs e) (digs (⟨#[48]⟩ ++ e))) = 0
  rw [if_pos h1, if_pos h2, h3]

theorem ordG_part (e u U r : ByteArray) (c d : Bool) (x : Int) (h : ordPart u U = x) : ordG ⟨e, u, r, c, d⟩ ⟨e, U, r, c, d⟩ = x := by
  show (if ordNum (digs e) (digs e) = 0 then (if ordPart u U = 0 then ordPart r r else ordPart u U) else ordNum (digs e) (digs e)) = x
  rw [if_pos (pre_ordNum.self _), pre_ordPart.self]
  split
  · omega
  · exact h

theorem part_less (u : ByteArray) : ordPart (u ++ ⟨#[126]⟩) u = -1 := by
  have hl : (u ++ ⟨#[126]⟩ : ByteArray).data.toList = u.data.toList ++ [126] := toList_append u ⟨#[126]⟩
  have hd : isDig ((126 : UInt8).toNat : Int) = false := by decide
  have hk : ci (rk ((126 : UInt8).toNat : Int)) 1 = -1 := by decide
  rw [ordPart_snoc u (u ++ ⟨#[126]⟩) 126 hd hl, hk]
theorem part_more (u : ByteArray) : ordPart (u ++ ⟨#[43]⟩) u = 1 := by
  have hl : (u ++ ⟨#[43]⟩ : ByteArray).data.toList = u.data.toList ++ [43] := toList_append u ⟨#[43]⟩
  have hd : isDig ((43 : UInt8).toNat : Int) = false := by decide
  have hk : ci (rk ((43 : UInt8).toNat : Int)) 1 = 1 := by decide
  rw [ordPart_snoc u (u ++ ⟨#[43]⟩) 43 hd hl, hk]
theorem less_v (e u r : ByteArray) (c d : Bool) : ordG ⟨e, u ++ ⟨#[126]⟩, r, c, d⟩ ⟨e, u, r, c, d⟩ = -1 :=
  ordG_part e (u ++ ⟨#[126]⟩) u r c d (-1) (part_less u)
theorem more_v (e u r : ByteArray) (c d : Bool) : ordG ⟨e, u ++ ⟨#[43]⟩, r, c, d⟩ ⟨e, u, r, c, d⟩ = (1 : Int) := by
  have h := part_more u
  generalize (u ++ ⟨#[43]⟩ : ByteArray) = U at h ⊢
  exact ordG_part e U u r c d 1 h
theorem v_more (e u r : ByteArray) (c d : Bool) : ordG ⟨e, u, r, c, d⟩ ⟨e, u ++ ⟨#[43]⟩, r, c, d⟩ = -1 := by
  have h := more_v e u r c d
  have h2 := pre_ordG.anti ⟨e, u ++ ⟨#[43]⟩, r, c, d⟩ ⟨e, u, r, c, d⟩
  generalize ordG ⟨e, u ++ ⟨#[43]⟩, r, c, d⟩ ⟨e, u, r, c, d⟩ = X at h h2
  rw [h2, h]

theorem parse_parts (s e u r : ByteArray) (c d : Bool) (h : parse s = (⟨e, u, r, c, d⟩, 0)) : e.size ≤ 256 ∧ u.size ≤ 256 ∧ r.size ≤ 256 ∧ (d = false → r = nob) := by
  have hs := parse_short_of_ok s _ h
  have hz := cut_size s
  have hc : cut s = ⟨e, u, r, c, d⟩ := by
    unfold parse at h
    rw [if_neg (by omega)] at h
    split at h
    · exact (Prod.mk.inj h).1
    · rename_i hx
      exact absurd (Prod.mk.inj h).2 hx
  have h0 : ((cut s).d = false → (cut s).r = nob) := by
    intro hd
    have hcc : decide (Lib.lastIndexByte (rest s) 45 ≠ -1) = false := hd
    have hi : Lib.lastIndexByte (rest s) 45 = -1 := by simpa using hcc
    show (if _ then _ else _) = _
    rw [if_pos hi]
  rw [hc] at hz h0
  obtain ⟨z1, z2, z3⟩ := hz
  simp only at z1 z2 z3
  exact ⟨by omega, by omega, by omega, h0⟩

/-- TWO VERSIONS AND WHAT Order SAYS OF THEM. -/
structure Pr (e u r : ByteArray) (c d : Bool) (E U R : ByteArray) (C D : Bool) (Z : Int) : Prop where
  h1 : e.size ≤ 140737488355328
  h2 : u.size ≤ maxLen
  h3 : r.size ≤ maxLen
  h4 : E.size ≤ 140737488355328
  h5 : U.size ≤ maxLen
  h6 : R.size ≤ maxLen
  h7 : ordG ⟨e, u, r, c, d⟩ ⟨E, U, R, C, D⟩ = Z

theorem Order_pr {e u r : ByteArray} {c d : Bool} {E U R : ByteArray} {C D : Bool} {Z : Int} (h : Pr e u r c d E U R C D Z) (w : World) :
    Calls Tryd.prog 17 #[.agg #[.string e, .string u, .string r, .bool c, .bool d], .agg #[.string E, .string U, .string R, .bool C, .bool D]] w fun x w' =>
      x = .returned (.int .i64 Z) ∧ Below w.heap.size w w' := by
  have := Order_any e u r c d E U R C D h.h1 h.h2 h.h3 h.h4 h.h5 h.h6 w
  rw [h.h7] at this
  exact this

theorem keepN {w W W' : World} {b1 b2 b3 : Nat} {e u r E U R x y z : ByteArray} {c d C D p q : Bool} (hb : Below W.heap.size W W')
    (h0_0 : W.cell? ⟨b1, 0, none⟩ = some (.string e)) (h0_1 : W.cell? ⟨b1, 1, none⟩ = some (.string u)) (h0_2 : W.cell? ⟨b1, 2, none⟩ = some (.string r)) (h0_3 : W.cell? ⟨b1, 3, none⟩ = some (.bool c)) (h0_4 : W.cell? ⟨b1, 4, none⟩ = some (.bool d)) (h1_0 : W.cell? ⟨b2, 0, none⟩ = some (.string E)) (h1_1 : W.cell? ⟨b2, 1, none⟩ = some (.string U)) (h1_2 : W.cell? ⟨b2, 2, none⟩ = some (.string R)) (h1_3 : W.cell? ⟨b2, 3, none⟩ = some (.bool C)) (h1_4 : W.cell? ⟨b2, 4, none⟩ = some (.bool D)) (h2_0 : W.cell? ⟨b3, 0, none⟩ = some (.string x)) (h2_1 : W.cell? ⟨b3, 1, none⟩ = some (.string y)) (h2_2 : W.cell? ⟨b3, 2, none⟩ = some (.string z)) (h2_3 : W.cell? ⟨b3, 3, none⟩ = some (.bool p)) (h2_4 : W.cell? ⟨b3, 4, none⟩ = some (.bool q))
    (g0 : b1 < W.heap.size) (g1 : b2 < W.heap.size) (g2 : b3 < W.heap.size) (hB : Below w.heap.size w W) :
    W'.cell? ⟨b1, 0, none⟩ = some (.string e) ∧ W'.cell? ⟨b1, 1, none⟩ = some (.string u) ∧ W'.cell? ⟨b1, 2, none⟩ = some (.string r) ∧ W'.cell? ⟨b1, 3, none⟩ = some (.bool c) ∧ W'.cell? ⟨b1, 4, none⟩ = some (.bool d) ∧ W'.cell? ⟨b2, 0, none⟩ = some (.string E) ∧ W'.cell? ⟨b2, 1, none⟩ = some (.string U) ∧ W'.cell? ⟨b2, 2, none⟩ = some (.string R) ∧ W'.cell? ⟨b2, 3, none⟩ = some (.bool C) ∧ W'.cell? ⟨b2, 4, none⟩ = some (.bool D) ∧ W'.cell? ⟨b3, 0, none⟩ = some (.string x) ∧ W'.cell? ⟨b3, 1, none⟩ = some (.string y) ∧ W'.cell? ⟨b3, 2, none⟩ = some (.string z) ∧ W'.cell? ⟨b3, 3, none⟩ = some (.bool p) ∧ W'.cell? ⟨b3, 4, none⟩ = some (.bool q) ∧ b1 < W'.heap.size ∧ b2 < W'.heap.size ∧ b3 < W'.heap.size ∧ Below w.heap.size w W' :=
  ⟨(hb.cell (p := ⟨b1, 0, none⟩) g0).trans h0_0, (hb.cell (p := ⟨b1, 1, none⟩) g0).trans h0_1, (hb.cell (p := ⟨b1, 2, none⟩) g0).trans h0_2, (hb.cell (p := ⟨b1, 3, none⟩) g0).trans h0_3, (hb.cell (p := ⟨b1, 4, none⟩) g0).trans h0_4, (hb.cell (p := ⟨b2, 0, none⟩) g1).trans h1_0, (hb.cell (p := ⟨b2, 1, none⟩) g1).trans h1_1, (hb.cell (p := ⟨b2, 2, none⟩) g1).trans h1_2, (hb.cell (p := ⟨b2, 3, none⟩) g1).trans h1_3, (hb.cell (p := ⟨b2, 4, none⟩) g1).trans h1_4, (hb.cell (p := ⟨b3, 0, none⟩) g2).trans h2_0, (hb.cell (p := ⟨b3, 1, none⟩) g2).trans h2_1, (hb.cell (p := ⟨b3, 2, none⟩) g2).trans h2_2, (hb.cell (p := ⟨b3, 3, none⟩) g2).trans h2_3, (hb.cell (p := ⟨b3, 4, none⟩) g2).trans h2_4, Nat.lt_of_lt_of_le g0 hb.size, Nat.lt_of_lt_of_le g1 hb.size, Nat.lt_of_lt_of_le g2 hb.size, hB.trans (hb.mono hB.size)⟩

set_option maxHeartbeats 4000000 in
theorem debverNoughts_bad (s o : ByteArray) (hs : s.size ≤ maxLen) (ho : o.size ≤ maxLen) (h : ¬ ((parse s).2 = 0 ∧ (parse o).2 = 0)) (w : World) :
    Calls Tryd.prog 5 #[.string s, .string o] w fun x w' => x = .returned (.bool true) ∧ Below w.heap.size w w' := by
  rcases hp : parse s with ⟨⟨e1, u1, r1, c1, d1⟩, n1⟩
  rcases hq : parse o with ⟨⟨e2, u2, r2, c2, d2⟩, n2⟩
  have k1 := hide (fun w => Parse_any s hs e1 u1 r1 c1 d1 n1 hp w)
  have k2 := hide (fun w => Parse_any o ho e2 u2 r2 c2 d2 n2 hq w)
  rw [hp, hq] at h
  simp only at h
  clear hp hq hs ho
  have hor : ((n1 != 0) = true) ∨ ((n1 != 0) = false ∧ (n2 != 0) = true) := by
    by_cases e : n1 = 0
    · exact .inr ⟨by simp [e], by simpa using fun e2 => h ⟨e, e2⟩⟩
    · exact .inl (by simpa using e)
  clear h
  rcases hor with m1 | ⟨m1, m2⟩
  all_goals
    go_enter Tryd.func5, Tryd.ntmps5
    go_wp2_with fail
    refine (alive_any _).mono ?_
    rintro x w0 ⟨rfl, hb0⟩
    have hz0 := hb0.size
    have hb0' := hide hb0
    clear hb0
    go_wp2_with fail
    refine (unhide k1 _).mono ?_
    rintro x w1 ⟨rfl, hb1⟩
    have hz1 := hb1.size
    have hb1' := hide hb1
    clear hb1
    go_wp2_with fail
    refine (unhide k2 _).mono ?_
    rintro x w2 ⟨rfl, hb2⟩
    have hz2 := hb2.size
    have hb2' := hide hb2
    clear hb2
    simp at hz2
    go_wp2_with fail
    go_ret
    exact ⟨rfl, (((((unhide hb0').trans ((unhide hb1').mono (by omega))).alloc (by omega) _).trans ((unhide hb2').mono (by simp; omega))).alloc (by omega) _)⟩

set_option maxRecDepth 8000 in
set_option maxHeartbeats 4000000 in
theorem debverNoughts_ok (s o : ByteArray) (hs : s.size ≤ maxLen) (ho : o.size ≤ maxLen) (e u r : ByteArray) (c d : Bool) (E U R : ByteArray) (C D : Bool) (hp : parse s = (⟨e, u, r, c, d⟩, 0)) (hq : parse o = (⟨E, U, R, C, D⟩, 0)) (w : World) :
    Calls Tryd.prog 5 #[.string s, .string o] w fun x w' => x = .returned (.bool true) ∧ Below w.heap.size w w' := by
  have k1 := hide (fun w => Parse_any s hs e u r c d 0 hp w)
  have k2 := hide (fun w => Parse_any o ho E U R C D 0 hq w)
  obtain ⟨ze, zu, zr, hrn⟩ := parse_parts s e u r c d hp
  obtain ⟨zE, zU, zR, _⟩ := parse_parts o E U R C D hq
  have k3 := hide (fun w => nought_any e u r c d ze zu w)
  have hF := ordG_nought e u r c d hrn
  have zx : (⟨#[48]⟩ ++ e : ByteArray).size ≤ 257 := by rw [ByteArray.size_append, nought_size]; omega
  have zy : (nU u).size ≤ maxLen := by
    have h1 := nU_size u
    unfold maxLen
    omega
  have zz : (if d = true then r else ⟨#[48]⟩ : ByteArray).size ≤ maxLen := by
    unfold maxLen
    split
    · omega
    · rw [nought_size]; omega
  have zl : (u ++ ⟨#[126]⟩ : ByteArray).size ≤ maxLen := by rw [ByteArray.size_append]; show u.size + 1 ≤ _; unfold maxLen; omega
  have zm : (u ++ ⟨#[43]⟩ : ByteArray).size ≤ maxLen := by rw [ByteArray.size_append]; show u.size + 1 ≤ _; unfold maxLen; omega
  have yu : u.size ≤ maxLen := by unfold maxLen; omega
  have yr : r.size ≤ maxLen := by unfold maxLen; omega
  have yU : U.size ≤ maxLen := by unfold maxLen; omega
  have yR : R.size ≤ maxLen := by unfold maxLen; omega
  have k9 : Pr e (u ++ ⟨#[126]⟩) r c d e u r c d (-1) := ⟨by omega, zl, yr, by omega, yu, yr, less_v e u r c d⟩
  have k10 : Pr e u r c d e (u ++ ⟨#[43]⟩) r c d (-1) := ⟨by omega, yu, yr, by omega, zm, yr, v_more e u r c d⟩
  have k11 : Pr e (u ++ ⟨#[126]⟩) r c d e (u ++ ⟨#[43]⟩) r c d (-1) := ⟨by omega, zl, yr, by omega, zm, yr, pre_ordG.lt (less_v e u r c d) (v_more e u r c d)⟩
  have K9 := hide k9
  have K10 := hide k10
  have K11 := hide k11
  clear k9 k10 k11
  generalize hx : (⟨#[48]⟩ ++ e : ByteArray) = x at *
  generalize hy : nU u = y at *
  generalize hz : (if d = true then r else ⟨#[48]⟩ : ByteArray) = z at *
  obtain ⟨f1, f2⟩ := pre_ordG.exch hF ⟨E, U, R, C, D⟩
  have k4 : Pr e u r c d x y z true true 0 := ⟨by omega, yu, yr, by omega, zy, zz, hF⟩
  have k5 : Pr x y z true true E U R C D _ := ⟨by omega, zy, zz, by omega, yU, yR, f1⟩
  have k6 : Pr e u r c d E U R C D _ := ⟨by omega, yu, yr, by omega, yU, yR, rfl⟩
  have k7 : Pr E U R C D x y z true true _ := ⟨by omega, yU, yR, by omega, zy, zz, f2⟩
  have k8 : Pr E U R C D e u r c d _ := ⟨by omega, yU, yR, by omega, yu, yr, rfl⟩
  generalize ordG ⟨e, u, r, c, d⟩ ⟨E, U, R, C, D⟩ = X at *
  generalize ordG ⟨E, U, R, C, D⟩ ⟨e, u, r, c, d⟩ = Y at *
  have hu257 : u.size ≤ 256 := zu
  clear hF f1 f2 hx hy hz hrn hp hq hs ho zx zy zz zl zm yu yr yU yR ze zr zE zU zR zu
  go_enter Tryd.func5, Tryd.ntmps5
  go_wp2_with fail
  refine (alive_any _).mono ?_
  rintro x0 w0 ⟨rfl, hb0⟩
  have hz0 := hb0.size
  have HB0 := hide hb0
  clear hb0
  go_wp2_with fail
  refine (unhide k1 _).mono ?_
  rintro x0 w1 ⟨rfl, hb1⟩
  have hz1 := hb1.size
  have HB1 := hide ((unhide HB0).trans (hb1.mono (by omega)))
  clear hb1 HB0
  have HX := hide (show Box5 w1.heap.size (w1.alloc (.cells #[.string e, .string u, .string r, .bool c, .bool d] 24)) e u r c d by refine ⟨?_, ?_, ?_, ?_, ?_, ?_⟩ <;> go_simp)
  go_wp2_with fail
  refine (unhide k2 _).mono ?_
  rintro x0 w2 ⟨rfl, hb2⟩
  have hz2 := hb2.size
  have HX2 := hide (((unhide HX).later hb2).later ((Below.refl w2.heap.size w2).alloc (Nat.le_refl _) (.cells #[.string E, .string U, .string R, .bool C, .bool D] 24)))
  have HB2 := hide ((((unhide HB1).alloc (by omega) (.cells #[.string e, .string u, .string r, .bool c, .bool d] 24)).trans (hb2.mono (by simp; omega))).alloc (by simp at hz2; omega) (.cells #[.string E, .string U, .string R, .bool C, .bool D] 24))
  have HY2 := hide (show Box5 w2.heap.size (w2.alloc (.cells #[.string E, .string U, .string R, .bool C, .bool D] 24)) E U R C D by refine ⟨?_, ?_, ?_, ?_, ?_, ?_⟩ <;> go_simp)
  clear hb2 HX HB1
  simp at hz2
  have hq12 : w1.heap.size < w2.heap.size := by omega
  obtain ⟨x0, x1, x2, x3, x4, x5⟩ : Box5 w1.heap.size w2 e u r c d := by
    have hh := unhide HX2
    exact box_back hh hq12
  generalize hb1 : w1.heap.size = b1 at *
  go_wp2_with fail
  clear x0 x1 x2 x3 x4 x5
  have hb2 : (w2.alloc (.cells #[.string E, .string U, .string R, .bool C, .bool D] 24)).heap.size = w2.heap.size + 1 := by simp
  generalize hW3 : w2.alloc (.cells #[.string E, .string U, .string R, .bool C, .bool D] 24) = W3 at *
  refine (unhide k3 _).mono ?_
  rintro x0 w3 ⟨rfl, hb3⟩
  have hz3 := hb3.size
  have HX3 := hide (((unhide HX2).later hb3).later ((Below.refl w3.heap.size w3).alloc (Nat.le_refl _) (.cells #[.string x, .string y, .string z, .bool true, .bool true] 24)))
  have HY3 := hide (((unhide HY2).later hb3).later ((Below.refl w3.heap.size w3).alloc (Nat.le_refl _) (.cells #[.string x, .string y, .string z, .bool true, .bool true] 24)))
  have HZ3 := hide (show Box5 w3.heap.size (w3.alloc (.cells #[.string x, .string y, .string z, .bool true, .bool true] 24)) x y z true true by refine ⟨?_, ?_, ?_, ?_, ?_, ?_⟩ <;> go_simp)
  have HB3 := hide (((unhide HB2).trans (hb3.mono (by omega))).alloc (by omega) (.cells #[.string x, .string y, .string z, .bool true, .bool true] 24))
  clear hb3 HX2 HY2 HB2
  have hq : w.heap.size ≤ w3.heap.size := by omega
  clear hz0 hz1 hz2 hq12 hb2 hW3
  go_wp2_with fail
  generalize w3.alloc (.cells #[.string x, .string y, .string z, .bool true, .bool true] 24) = W4 at *
  generalize w3.heap.size = b3 at *
  generalize w2.heap.size = b2 at *
  obtain ⟨x0, x1, x2, x3, x4, x5⟩ := unhide HX3
  obtain ⟨y0, y1, y2, y3, y4, y5⟩ := unhide HY3
  obtain ⟨z0, z1, z2, z3, z4, z5⟩ := unhide HZ3
  have hBB := (unhide HB3).drew
  clear HX3 HY3 HZ3 HB3 hz3 k1 k2 k3 hb1
  go_region_held3 (fun w' => w'.cell? ⟨b1, 0, none⟩ = some (.string e) ∧ w'.cell? ⟨b1, 1, none⟩ = some (.string u) ∧ w'.cell? ⟨b1, 2, none⟩ = some (.string r) ∧ w'.cell? ⟨b1, 3, none⟩ = some (.bool c) ∧ w'.cell? ⟨b1, 4, none⟩ = some (.bool d) ∧ w'.cell? ⟨b2, 0, none⟩ = some (.string E) ∧ w'.cell? ⟨b2, 1, none⟩ = some (.string U) ∧ w'.cell? ⟨b2, 2, none⟩ = some (.string R) ∧ w'.cell? ⟨b2, 3, none⟩ = some (.bool C) ∧ w'.cell? ⟨b2, 4, none⟩ = some (.bool D) ∧ w'.cell? ⟨b3, 0, none⟩ = some (.string x) ∧ w'.cell? ⟨b3, 1, none⟩ = some (.string y) ∧ w'.cell? ⟨b3, 2, none⟩ = some (.string z) ∧ w'.cell? ⟨b3, 3, none⟩ = some (.bool true) ∧ w'.cell? ⟨b3, 4, none⟩ = some (.bool true) ∧ b1 < w'.heap.size ∧ b2 < w'.heap.size ∧ b3 < w'.heap.size ∧ Below w.heap.size w w') (first | go_keep | (go_split_ands; exact keepN (by assumption) (by assumption) (by assumption) (by assumption) (by assumption) (by assumption) (by assumption) (by assumption) (by assumption) (by assumption) (by assumption) (by assumption) (by assumption) (by assumption) (by assumption) (by assumption) (by assumption) (by assumption) (by assumption) (by assumption)))
    (first | (go_at_call 17; refine (Order_pr (by assumption) _).mono ?_; rintro x w5 ⟨rfl, hb5⟩))
  go_split_ands
  clear k4 k5 k6 k7 k8
  have HV := hide (show Box5 b1 w5 e u r c d from ⟨by assumption, by assumption, by assumption, by assumption, by assumption, by assumption⟩)
  have HB := hide (show Below w.heap.size w w5 by assumption)
  have hz5 := (unhide HB).size
  clear x0 x1 x2 x3 x4 x5 y0 y1 y2 y3 y4 y5 z0 z1 z2 z3 z4 z5 hBB
  have hsl : (⟨#[126]⟩ : ByteArray).size = 1 := rfl
  have hsm : (⟨#[43]⟩ : ByteArray).size = 1 := rfl
  go_wp2_with fail
  have HL := hide (show Box5 w5.heap.size ((w5.alloc (.cells #[.string e, .string (u ++ ⟨#[126]⟩), .string r, .bool c, .bool d] 24)).alloc (.cells #[.string e, .string (u ++ ⟨#[43]⟩), .string r, .bool c, .bool d] 24)) e (u ++ ⟨#[126]⟩) r c d by refine ⟨?_, ?_, ?_, ?_, ?_, ?_⟩ <;> go_simp)
  have HM := hide (show Box5 (w5.heap.size + 1) ((w5.alloc (.cells #[.string e, .string (u ++ ⟨#[126]⟩), .string r, .bool c, .bool d] 24)).alloc (.cells #[.string e, .string (u ++ ⟨#[43]⟩), .string r, .bool c, .bool d] 24)) e (u ++ ⟨#[43]⟩) r c d by refine ⟨?_, ?_, ?_, ?_, ?_, ?_⟩ <;> go_simp)
  have HV6 := hide (((unhide HV).later ((Below.refl w5.heap.size w5).alloc (Nat.le_refl _) (.cells #[.string e, .string (u ++ ⟨#[126]⟩), .string r, .bool c, .bool d] 24))).later ((Below.refl (w5.alloc (.cells #[.string e, .string (u ++ ⟨#[126]⟩), .string r, .bool c, .bool d] 24)).heap.size (w5.alloc (.cells #[.string e, .string (u ++ ⟨#[126]⟩), .string r, .bool c, .bool d] 24))).alloc (Nat.le_refl _) (.cells #[.string e, .string (u ++ ⟨#[43]⟩), .string r, .bool c, .bool d] 24)))
  have HB6 := hide (((unhide HB).alloc hz5 (.cells #[.string e, .string (u ++ ⟨#[126]⟩), .string r, .bool c, .bool d] 24)).alloc (by simp; omega) (.cells #[.string e, .string (u ++ ⟨#[43]⟩), .string r, .bool c, .bool d] 24))
  generalize (w5.alloc (.cells #[.string e, .string (u ++ ⟨#[126]⟩), .string r, .bool c, .bool d] 24)).alloc (.cells #[.string e, .string (u ++ ⟨#[43]⟩), .string r, .bool c, .bool d] 24) = W6 at *
  refine (Order_pr (unhide K9) _).mono ?_
  rintro x0 w7 ⟨rfl, hb7⟩
  have HL7 := (unhide HL).later hb7
  have HM7 := (unhide HM).later hb7
  have HV7 := (unhide HV6).later hb7
  have HB7 := hide ((unhide HB6).trans (hb7.mono (unhide HB6).size))
  have HLL := hide HL7
  have HMM := hide HM7
  clear hb7 HL HM HV6 HB6
  obtain ⟨x0, x1, x2, x3, x4, x5⟩ := HV7
  obtain ⟨y0, y1, y2, y3, y4, y5⟩ := HM7
  go_wp2_with fail
  refine (Order_pr (unhide K10) _).mono ?_
  rintro x0 w8 ⟨rfl, hb8⟩
  have HL8 := (unhide HLL).later hb8
  have HM8 := (unhide HMM).later hb8
  have HB8 := hide ((unhide HB7).trans (hb8.mono (unhide HB7).size))
  clear hb8 HLL HMM HB7 x0 x1 x2 x3 x4 x5 y0 y1 y2 y3 y4 y5
  obtain ⟨x0, x1, x2, x3, x4, x5⟩ := HL8
  obtain ⟨y0, y1, y2, y3, y4, y5⟩ := HM8
  go_wp2_with fail
  refine (Order_pr (unhide K11) _).mono ?_
  rintro x0 w9 ⟨rfl, hb9⟩
  have HB9 := hide ((unhide HB8).trans (hb9.mono (unhide HB8).size))
  clear hb9
  go_wp2_with fail
  go_ret
  exact ⟨rfl, unhide HB9⟩

/-- DebverNoughts, AT ANY TWO TEXTS. -/
theorem debverNoughts_walk (s o : ByteArray) (hs : s.size ≤ maxLen) (ho : o.size ≤ maxLen) (w : World) :
    Calls Tryd.prog 5 #[.string s, .string o] w fun x w' => x = .returned (.bool true) ∧ Below w.heap.size w w' := by
  by_cases h : (parse s).2 = 0 ∧ (parse o).2 = 0
  · exact debverNoughts_ok s o hs ho _ _ _ _ _ _ _ _ _ _ (by rw [← h.1]) (by rw [← h.2]) w
  · exact debverNoughts_bad s o hs ho h w

end Go.Proofs.YtfnbclehlikbkaaDoor
