import Derived.Test.YtdkpglmdncjnbaaGreatDoorZf48
namespace Go.Proofs.YtdkpglmdncjnbaaGreatDoor
open Go.RowKit Go.Maps Go.Shelf
structure RkF (w wr : World) (lo : Nat) (v : Value) (n : Nat) : Prop where
 row : ∃ xs, wr.ownsRow lo 31 6 v n xs
 fx : Fx (fun g => v.ownBlock = some g) w wr
theorem RkF.set1 {w wr : World} {a : Option Addr} {lo n c j : Nat} (h : RkF w wr lo (.slice a n c) n) (hj : j < n * 6) (u : Value) : ∃ g, a = some ⟨g, 0, none⟩ ∧ g < wr.heap.size ∧ (∃ z, wr.cell? ⟨g, j, none⟩ = some z) ∧ wr.frozen? ⟨g, j, none⟩ = false ∧ RkF w (wr.setCell ⟨g, j, none⟩ u) lo (.slice a n c) n := by
 obtain ⟨xs, hr⟩ := h.row
 rcases hr.2 with ⟨_, q⟩ | ⟨g, cap, cur, e, hg, hh, h1, h2, h3, h4⟩
 ·omega
 ·injection e with e _ ec
  subst e
  subst ec
  have hic : j < cur.size := by omega
  refine ⟨g, rfl, blk_lt hh, ⟨cur[j], ?_⟩, (cell_blk hh _).2, ⟨xs.set j u, by rw [List.length_set]; exact hr.1, .inr ⟨g, c, cur.setIfInBounds j u, rfl, hg, set_blk hh _ u, h1, h2, by simpa using h3, ?_⟩⟩, h.fx.set (g := g) rfl _ u⟩
  ·rw [(cell_blk hh _).1]; exact Array.getElem?_eq_getElem hic
  ·rw [Array.toList_setIfInBounds, List.take_set, h4]
theorem RkF.set {w wr : World} {a : Option Addr} {lo n c i : Nat} (h : RkF w wr lo (.slice a n c) n) (hi : i < n) (u0 u1 u2 u3 u4 u5 : Value) : ∃ g, a = some ⟨g, 0, none⟩ ∧ g < wr.heap.size ∧ (∃ z, wr.cell? ⟨g, i * 6, none⟩ = some z) ∧ (∃ z, wr.cell? ⟨g, i * 6 + 1, none⟩ = some z) ∧ (∃ z, wr.cell? ⟨g, i * 6 + 2, none⟩ = some z) ∧ (∃ z, wr.cell? ⟨g, i * 6 + 3, none⟩ = some z) ∧ (∃ z, wr.cell? ⟨g, i * 6 + 4, none⟩ = some z) ∧ (∃ z, wr.cell? ⟨g, i * 6 + 5, none⟩ = some z) ∧
 wr.frozen? ⟨g, i * 6, none⟩ = false ∧ wr.frozen? ⟨g, i * 6 + 1, none⟩ = false ∧ wr.frozen? ⟨g, i * 6 + 2, none⟩ = false ∧ wr.frozen? ⟨g, i * 6 + 3, none⟩ = false ∧ wr.frozen? ⟨g, i * 6 + 4, none⟩ = false ∧ wr.frozen? ⟨g, i * 6 + 5, none⟩ = false ∧
 RkF w ((((((wr.setCell ⟨g, i * 6, none⟩ u0).setCell ⟨g, i * 6 + 1, none⟩ u1).setCell ⟨g, i * 6 + 2, none⟩ u2).setCell ⟨g, i * 6 + 3, none⟩ u3).setCell ⟨g, i * 6 + 4, none⟩ u4).setCell ⟨g, i * 6 + 5, none⟩ u5) lo (.slice a n c) n := by
 obtain ⟨g, rfl, hg, z0, f0, k0⟩ := h.set1 (j := i * 6) (by omega) u0
 obtain ⟨_, e1, _, z1, f1, _⟩ := h.set1 (j := i * 6 + 1) (by omega) u1
 cases e1
 obtain ⟨_, e2, _, z2, f2, _⟩ := h.set1 (j := i * 6 + 2) (by omega) u2
 cases e2
 obtain ⟨_, e3, _, z3, f3, _⟩ := h.set1 (j := i * 6 + 3) (by omega) u3
 cases e3
 obtain ⟨_, e4, _, z4, f4, _⟩ := h.set1 (j := i * 6 + 4) (by omega) u4
 cases e4
 obtain ⟨_, e5, _, z5, f5, _⟩ := h.set1 (j := i * 6 + 5) (by omega) u5
 cases e5
 obtain ⟨_, e, _, _, _, k1⟩ := k0.set1 (j := i * 6 + 1) (by omega) u1
 cases e
 obtain ⟨_, e, _, _, _, k2⟩ := k1.set1 (j := i * 6 + 2) (by omega) u2
 cases e
 obtain ⟨_, e, _, _, _, k3⟩ := k2.set1 (j := i * 6 + 3) (by omega) u3
 cases e
 obtain ⟨_, e, _, _, _, k4⟩ := k3.set1 (j := i * 6 + 4) (by omega) u4
 cases e
 obtain ⟨_, e, _, _, _, k5⟩ := k4.set1 (j := i * 6 + 5) (by omega) u5
 cases e
 exact ⟨g, rfl, hg, z0, z1, z2, z3, z4, z5, f0, f1, f2, f3, f4, f5, k5⟩
structure GkF (w wr : World) (lo : Nat) (v s : Value) (n : Nat) : Prop where
 row : ∃ xs, wr.ownsRow lo 31 6 s n xs
 own : ∀ g, s.ownBlock = some g → v.ownBlock = some g ∨ w.heap.size ≤ g
 fx : Fx (fun g => v.ownBlock = some g) w wr
theorem GkF.put {w wr : World} {lo : Nat} {v s : Value} {n : Nat} (h : GkF w wr lo v s n) (f : Ft) (hn : n ≤ 1099511627776) (hlo : lo ≤ wr.heap.size) (ty : TypeId) : ∃ v' w9, (Builtin.append_ #[24, 24] ty #[s, .slice (some ⟨wr.heap.size, 0, none⟩) 1 1]).run Tryz.prog (wr.alloc (.cells #[.int .i64 f.kd, .string f.wn, .string f.wv, .int .i64 f.ix, .string f.on, .string f.ov] 31)) = .ok v' w9 ∧ GkF w w9 lo v v' (n + 1) ∧ wr.heap.size ≤ w9.heap.size := by
 obtain ⟨i0, hi, hz0, hz1, hz2⟩ := info_parts2 infoFt
 obtain ⟨xs, hrow⟩ := h.row
 obtain ⟨v', w9, hr, h2, hg, _, hat⟩ := run_append_own_at (P := Tryz.prog) (wr.alloc (.cells #[.int .i64 f.kd, .string f.wn, .string f.wv, .int .i64 f.ix, .string f.on, .string f.ov] 31)) lo 24 ty 31 i0 (.agg #[.int .i64 0, .string ⟨#[]⟩, .string ⟨#[]⟩, .int .i64 0, .string ⟨#[]⟩, .string ⟨#[]⟩]) 6 80 Tryz.underlying24 hi hz0 hz1 hz2 rfl (by decide) s n xs (hrow.alloc _) ⟨wr.heap.size, 0, none⟩ 1 1 f.cs rfl (news_ft wr f 31) (one_ft f) (by unfold maxLen; omega) (by omega) (by simp; omega)
 have z := h.fx.size
 have za : (wr.alloc (.cells #[.int .i64 f.kd, .string f.wn, .string f.wv, .int .i64 f.ix, .string f.on, .string f.ov] 31)).heap.size = wr.heap.size + 1 := World.size_alloc _ _
 refine ⟨v', w9, hr, ⟨⟨_, h2⟩, fun g e => ?_, h.fx.bel.trans ⟨hg.os.trans rfl, hg.tape.trans rfl, hg.output.trans rfl, by have := hg.size; omega, fun k hk => absurd hk (Nat.not_lt_zero _)⟩, fun b hb hn => ?_⟩, by have := hg.size; omega⟩
 ·rcases hat with q | q
  ·exact h.own g (by rw [← q]; exact e)
  ·rw [q] at e
   cases e
   exact .inr (by omega)
 ·refine (hg.block b (by omega) fun e => ?_).trans ((Below.heap_alloc _ _ _ (by omega)).trans (h.fx.blk b hb hn))
  rcases h.own b e.symm with q | q
  ·exact hn q
  ·omega
set_option maxRecDepth 100000 in
set_option maxHeartbeats 16000000 in
theorem validFaults_walk (ps : List Pk) (s : Value) (w : World) (sm : SmP ps) (hz : ∀ p ∈ ps, PkZ p) (ht : akK ps ps.length ≤ 1048576) (h : Pkl w s ps) :
 Calls Tryz.prog 3 #[s] w fun e w' => e = .returned (.bool true) ∧ RowKit.Below w.heap.size w w' := by
 have cL := hide (lent_win ps s w (by have := sm.l; omega) hz h)
 obtain ⟨va, vc, rfl⟩ : ∃ a c, s = .slice a ps.length c := let ⟨a, c, e, _⟩ := h; ⟨a, c, e⟩
 have HSM := hide sm
 have HZ := hide hz
 have HT := hide ht
 go_enter Tryz.func3, Tryz.ntmps3
 go_wp2_with fail
 refine (unhide cL).mono ?_
 rintro e w1 ⟨rfl, hb1, l1, _⟩
 have HL1 := hide l1
 have HB1 := hide hb1
 have HLl : w.heap.size < w1.heap.size := l1.row.lt
 have HPK := hide (show ∀ X, RowKit.Below w1.heap.size w1 X → Pkl X (.slice (some ⟨w.heap.size, 0, none⟩) ps.length (ps.length + 1)) ps ∧ Pkl X (.slice va ps.length vc) ps from fun X hX => ⟨((unhide HL1).pkl (unhide HZ)).later hX, (h.later (unhide HB1)).later hX⟩)
 obtain ⟨LF, hLF⟩ : ∃ l, l = ftL ps ps.length := ⟨_, rfl⟩
 obtain ⟨NF, hNF⟩ : ∃ n, n = LF.length := ⟨_, rfl⟩
 obtain ⟨bv, hbv⟩ : ∃ b, b = decide (LF = []) := ⟨_, rfl⟩
 have hNFl : NF ≤ 549755813888 := by
  rw [hNF, hLF]
  exact ftL_all (unhide HSM) (Nat.le_refl ps.length)
 have C0 := hide (show ∀ X, RowKit.Below w1.heap.size w1 X → Calls Tryz.prog 8 #[.slice va ps.length vc] X fun e w' => ∃ r, e = .returned r ∧ w'.ownsRow X.heap.size 31 6 r NF (ftC LF) ∧ RowKit.Below X.heap.size X w' from fun X hX => by
  rw [hNF, hLF]
  exact rFaults_any (unhide HSM) (unhide HPK X hX).2)
 have C1 := hide (show ∀ X, RowKit.Below w1.heap.size w1 X → Calls Tryz.prog 9 #[.slice (some ⟨w.heap.size, 0, none⟩) ps.length (ps.length + 1)] X fun e w' => ∃ r, e = .returned r ∧ w'.ownsRow X.heap.size 31 6 r NF (ftC LF) ∧ RowKit.Below X.heap.size X w' from fun X hX => by
  rw [hNF, hLF]
  exact Faults_any (unhide HSM) (unhide HPK X hX).1)
 have CV := hide (show ∀ X, RowKit.Below w1.heap.size w1 X → Calls Tryz.prog 11 #[.slice (some ⟨w.heap.size, 0, none⟩) ps.length (ps.length + 1)] X fun e w' => e = .returned (.bool bv) ∧ RowKit.Below X.heap.size X w' from fun X hX => by
  refine (Valid_any (unhide HSM) (unhide HPK X hX).1).mono ?_
  rintro e w' ⟨b, rfl, hb, hbl⟩
  have e2 : b = bv := by
   rw [hbv, hLF, Bool.eq_iff_iff, hb, decide_eq_true_iff, ftL_nil2]
  rw [e2]
  exact ⟨rfl, hbl⟩)
 have hv0 : ((NF : Int) == 0) = bv := by
  rw [hbv, hNF]
  cases LF with
  | nil => rfl
  | cons x l => simp; omega
 have hbn : (bv != bv) = false := by simp
 clear cL h l1 hb1 sm hz ht hLF hNF hbv
 go_wp2_with fail
 refine (unhide C0 w1 (Below.refl _ _)).mono ?_
 rintro e w2 ⟨r0, rfl, ro2, hb2⟩
 obtain ⟨a0, c0, rfl⟩ := owns_form ro2
 have HB2 := hide hb2
 have LT0 := hide (own_lt ro2)
 have RO2 := hide ro2
 clear ro2 hb2
 go_wp2_with fail
 refine (unhide C1 w2 (unhide HB2)).mono ?_
 rintro e w3 ⟨r1, rfl, ro3, hb3⟩
 obtain ⟨a1, c1, rfl⟩ := owns_form ro3
 have HS3 := hide hb3.size
 have HB3 := hide (bl_t (unhide HB2) hb3)
 have LT1 := hide (own_lt ro3)
 have RO3 := hide (And.intro ro3 (row_low (unhide RO2) hb3))
 clear ro3 hb3 RO2
 go_wp2_with fail
 refine (unhide C1 w3 (unhide HB3)).mono ?_
 rintro e w4 ⟨r2, rfl, ro4, hb4⟩
 obtain ⟨a2, c2, rfl⟩ := owns_form ro4
 have HB4 := hide (bl_t (unhide HB3) hb4)
 have HW34 := hide hb4.size
 have RO4 := hide (show w4.ownsRow w3.heap.size 31 6 (.slice a2 NF c2) NF (ftC LF) ∧ w4.ownsRow w2.heap.size 31 6 (.slice a1 NF c1) NF (ftC LF) ∧ w4.ownsRow w1.heap.size 31 6 (.slice a0 NF c0) NF (ftC LF) from ⟨ro4, row_low (unhide RO3).1 hb4, row_low (unhide RO3).2 hb4⟩)
 clear ro4 hb4 RO3 C0 C1
 have CS := hide (sameFaults_yes (unhide RO4).2.1 (unhide RO4).2.2 (by omega))
 go_wp2_with (first
  | (go_at_call 10; refine (unhide CS).mono ?_; rintro e w5 ⟨rfl, hb5⟩; have HB5 := hide hb5; clear hb5 CS)
  | (go_at_call 11; refine (unhide CV w5 (bl_t (unhide HB4) (unhide HB5))).mono ?_; rintro e w6 ⟨rfl, hb6⟩; have HB6 := hide (bl_t (unhide HB5) hb6); clear hb6 CV))
 have K6 := hide (bl_t (unhide HB4) (unhide HB6))
 have RO6 := hide (show w6.ownsRow w3.heap.size 31 6 (.slice a2 NF c2) NF (ftC LF) ∧ w6.ownsRow w2.heap.size 31 6 (.slice a1 NF c1) NF (ftC LF) ∧ w6.ownsRow w1.heap.size 31 6 (.slice a0 NF c0) NF (ftC LF) from ⟨row_low (unhide RO4).1 (unhide HB6), row_low (unhide RO4).2.1 (unhide HB6), row_low (unhide RO4).2.2 (unhide HB6)⟩)
 have HS2 := hide (show w1.heap.size ≤ w2.heap.size ∧ w2.heap.size ≤ w6.heap.size from ⟨(unhide HB2).size, by have h1 := (unhide HS3); have h2 := (unhide HB6).size; have h3 := (World.ownsRow.lt (unhide RO4).1); have h4 := (unhide HB4).size; have h5 := (unhide HW34); omega⟩)
 clear RO4 HB5 HB6 HB4 HB3 hv0 hbn HW34
 have HRK := hide (show RkF w6 w6 w2.heap.size (.slice a1 NF c1) NF from ⟨⟨_, (unhide RO6).2.1⟩, Fx.refl _ _⟩)
 go_loopw [7] (fun iv wr => ∃ i : Nat, iv = .int .i64 i ∧ i ≤ NF ∧ Hid (RkF w6 wr w2.heap.size (.slice a1 NF c1) NF)) (fun iv _ => NF - (intOf iv).toNat)
 case atStart => exact ⟨0, by go_num, Nat.zero_le _, HRK⟩
 case round =>
  clear HRK
  obtain ⟨i, rfl, hile, HR⟩ := hrel
  by_cases hlt : i < NF
  ·have hlt2 : (i : Int) < (NF : Int) := by omega
   obtain ⟨g, rfl, hg, ⟨z0, d0⟩, ⟨z1, d1⟩, ⟨z2, d2⟩, ⟨z3, d3⟩, ⟨z4, d4⟩, ⟨z5, d5⟩, f0, f1, f2, f3, f4, f5, r2⟩ := (unhide HR).set hlt (.int .i64 99) (.string ⟨#[]⟩) (.string ⟨#[]⟩) (.int .i64 0) (.string ⟨#[]⟩) (.string ⟨#[]⟩)
   have HR2 := hide r2
   clear r2
   go_wp2_with fail
   go_roundw
   case rel => exact ⟨i + 1, by go_num, by omega, HR2⟩
   case measure => simp [intOf]; omega
  ·obtain rfl : i = NF := by omega
   obtain ⟨w7, rfl⟩ : ∃ x, x = wr := ⟨_, rfl⟩
   have hz7 : w2.heap.size ≤ w7.heap.size := Nat.le_trans (unhide HS2).2 (unhide HR).fx.size
   obtain ⟨v8, w8, hr8, hg8, hs8⟩ := (show GkF w7 w7 w2.heap.size (.slice a1 i c1) (.slice a1 i c1) i from ⟨(unhide HR).row, fun g e => .inl e, Fx.refl _ _⟩).put ⟨98, ⟨#[]⟩, ⟨#[]⟩, 0, ⟨#[]⟩, ⟨#[]⟩⟩ (by omega) hz7 24
   have HG8 := hide (And.intro hg8 hs8)
   clear hg8 hs8
   simp only at hr8
   go_wp2_with (first | (at_builtin; refine wpl_append_run rfl _ _ 24 rfl _ _ rfl rfl hr8 ?_))
   clear hr8
   go_loopw [8, 9] (fun mv iv wr => ∃ t : Nat, iv = .int .i64 t ∧ t ≤ 99 ∧ Hid (GkF w7 wr w2.heap.size (.slice a1 i c1) mv (i + 1 + t) ∧ w7.heap.size ≤ wr.heap.size)) (fun _ iv _ => 99 - (intOf iv).toNat)
   case atStart => exact ⟨0, by go_num, Nat.zero_le _, HG8⟩
   case round =>
    clear HG8
    obtain ⟨t, rfl, htle, HU⟩ := hrel
    by_cases hlt : t < 99
    ·have hlt2 : (t : Int) < 99 := by omega
     obtain ⟨v9, w9, hr9, hg9, hs9⟩ := (unhide HU).1.put ⟨98, ⟨#[]⟩, ⟨#[]⟩, 0, ⟨#[]⟩, ⟨#[]⟩⟩ (by omega) (Nat.le_trans hz7 (unhide HU).2) 24
     have HU9 := hide (And.intro hg9 (Nat.le_trans (unhide HU).2 hs9))
     clear hg9 hs9
     simp only at hr9
     go_wp2_with (first | (at_builtin; refine wpl_append_run rfl _ _ 24 rfl _ _ rfl rfl hr9 ?_))
     go_roundw
     case rel => exact ⟨t + 1, by go_num, by omega, HU9⟩
     case measure => simp [intOf]; omega
    ·obtain rfl : t = 99 := by omega
     obtain ⟨xs9, hrow⟩ := (unhide HU).1.row
     obtain ⟨ma, mc, rfl⟩ := owns_form hrow
     have HF9 := hide ((unhide HR).fx.trans (unhide HU).1.fx)
     have KK := hide (show RowKit.Below w1.heap.size w1 wr from Fx.low (unhide K6) (unhide HF9) (fun g e => by
      have h1 := (unhide LT1 g e).1
      have h2 := (unhide HS2).1
      omega) (unhide K6).size)
     have RO9 := hide (show wr.ownsRow w3.heap.size 31 6 (.slice a2 i c2) i (ftC LF) ∧ wr.ownsRow w1.heap.size 31 6 (.slice a0 i c0) i (ftC LF) from by
      have f := unhide HF9
      obtain ⟨r2, r1, r0⟩ := unhide RO6
      refine ⟨f.row r2 fun g e e2 => ?_, f.row r0 fun g e e2 => ?_⟩
      ·have h1 := (own_lt r2 g e).1; have h2 := (unhide LT1 g e2).2; omega
      ·have h1 := (unhide LT0 g e).2; have h2 := (unhide LT1 g e2).1; omega)
     clear HU hrow HF9 RO6 HR K6
     have CI := hide (sameFaults_yes (unhide RO9).1 (unhide RO9).2 (by omega))
     have CST := hide (fun (X : World) (hX : RowKit.Below wr.heap.size wr X) => still_any ps w.heap.size w.heap.size (.slice va ps.length vc) X (by have := (unhide HSM).l; omega) (unhide HZ) ((unhide HL1).later (bl_t (unhide KK) hX)) (unhide HPK X (bl_t (unhide KK) hX)).2)
     have COV := hide (fun (X : World) (hX : RowKit.Below wr.heap.size wr X) => over_any (unhide HSM) (unhide HZ) (unhide HT) ((unhide HL1).later (bl_t (unhide KK) hX)))
     have hMM : ((((i + 1 + 99 : Nat) : Int)) == (i : Int) + 100) = true := by
      rw [beq_iff_eq]
      omega
     go_wp2_with (first
      | (go_at_call 10; refine (unhide CI).mono ?_; rintro e y1 ⟨rfl, hv1⟩; have E1 := hide hv1; clear hv1 CI)
      | (go_at_call 12; refine (unhide CST y1 (unhide E1)).mono ?_; rintro e y2 ⟨rfl, hv2⟩; have E2 := hide (bl_t (unhide E1) hv2); clear hv2 CST)
      | (go_at_call 13; refine (unhide COV y2 (unhide E2)).mono ?_; rintro e y3 ⟨rfl, hv3⟩; have E3 := hide hv3; clear hv3 COV))
     go_ret
     refine ⟨rfl, ?_⟩
     have b2 := bl_t (unhide HB1) (bl_t (unhide KK) (unhide E2))
     exact b2.trans (unhide E3)
end Go.Proofs.YtdkpglmdncjnbaaGreatDoor
