import Derived.Test.YtdkpglmdncjnbaaGreatDoorZf38
namespace Go.Proofs.YtdkpglmdncjnbaaGreatDoor
open Go.RowKit Go.Maps Go.Sort Go.Shelf
abbrev y43_1 : Oper := ⟨some 56, .move (.tmp 11), 4, "ref.go:217", #[], none⟩
abbrev y43_2 : Oper := ⟨some 57, .move (.tmp 56), 4, "ref.go:217", #[⟨0, .data⟩], none⟩
abbrev y43_3 : Oper := ⟨some 58, .move (.tmp 0), 22, "ref.go:217", #[⟨1, .guard⟩], some (1, false)⟩
abbrev y43_4 : Oper := ⟨some 59, .move (.tmp 8), 34, "ref.go:217", #[⟨1, .guard⟩], some (1, false)⟩
abbrev y43_5 : Oper := ⟨some 60, .move (.tmp 10), 3, "ref.go:217", #[⟨1, .guard⟩], some (1, false)⟩
abbrev y43_6 : Oper := ⟨some 61, .indexAddr 34 (.tmp 59) (.tmp 60), 0, "ref.go:217", #[⟨3, .data⟩, ⟨4, .data⟩, ⟨1, .guard⟩], some (1, false)⟩
abbrev y43_7 : Oper := ⟨some 62, .load 3 (.tmp 61), 3, "ref.go:217", #[⟨5, .data⟩, ⟨1, .guard⟩], some (1, false)⟩
abbrev y43_8 : Oper := ⟨some 63, .move (.tmp 7), 22, "ref.go:217", #[⟨1, .guard⟩], some (1, false)⟩
abbrev y43_9 : Oper := ⟨some 64, .move (.tmp 10), 3, "ref.go:217", #[⟨1, .guard⟩], some (1, false)⟩
abbrev y43_10 : Oper := ⟨some 65, .indexAddr 22 (.tmp 63) (.tmp 64), 0, "ref.go:217", #[⟨7, .data⟩, ⟨8, .data⟩, ⟨1, .guard⟩], some (1, false)⟩
abbrev y43_11 : Oper := ⟨some 66, .fieldAddr 46 (.tmp 65) 3, 0, "ref.go:217", #[⟨9, .data⟩, ⟨1, .guard⟩], some (1, false)⟩
abbrev y43_12 : Oper := ⟨some 67, .load 40 (.tmp 66), 40, "ref.go:217", #[⟨10, .data⟩, ⟨1, .guard⟩], some (1, false)⟩
abbrev y43_13 : Oper := ⟨some 68, .move (.tmp 12), 3, "ref.go:217", #[⟨1, .guard⟩], some (1, false)⟩
abbrev y43_14 : Oper := ⟨some 69, .indexAddr 40 (.tmp 67) (.tmp 68), 0, "ref.go:217", #[⟨11, .data⟩, ⟨12, .data⟩, ⟨1, .guard⟩], some (1, false)⟩
abbrev y43_15 : Oper := ⟨some 70, .load 49 (.tmp 69), 49, "ref.go:217", #[⟨13, .data⟩, ⟨1, .guard⟩], some (1, false)⟩
abbrev y43_16 : Oper := ⟨some 71, .call { callee := .value (.func 33), args := #[.tmp 58, .tmp 62, .tmp 70, .const (Value.bool false)], argTypes := #[22, 3, 49, 4] }, 4, "ref.go:217", #[⟨2, .data⟩, ⟨6, .data⟩, ⟨14, .data⟩, ⟨1, .chain⟩, ⟨1, .guard⟩], some (1, false)⟩
abbrev y43_17 : Oper := ⟨some 72, .move (.tmp 71), 4, "ref.go:217", #[⟨15, .data⟩, ⟨15, .chain⟩, ⟨1, .guard⟩], some (1, false)⟩
abbrev y43_18 : Oper := ⟨some 73, .move (.tmp 7), 22, "ref.go:217", #[⟨16, .guard⟩], some (16, true)⟩
abbrev y43_19 : Oper := ⟨some 74, .move (.tmp 10), 3, "ref.go:217", #[⟨16, .guard⟩], some (16, true)⟩
abbrev y43_20 : Oper := ⟨some 75, .move (.tmp 7), 22, "ref.go:217", #[⟨16, .guard⟩], some (16, true)⟩
abbrev y43_21 : Oper := ⟨some 76, .move (.tmp 10), 3, "ref.go:217", #[⟨16, .guard⟩], some (16, true)⟩
abbrev y43_22 : Oper := ⟨some 77, .indexAddr 22 (.tmp 75) (.tmp 76), 0, "ref.go:217", #[⟨19, .data⟩, ⟨20, .data⟩, ⟨16, .guard⟩], some (16, true)⟩
abbrev y43_23 : Oper := ⟨some 78, .fieldAddr 46 (.tmp 77) 3, 0, "ref.go:217", #[⟨21, .data⟩, ⟨16, .guard⟩], some (16, true)⟩
abbrev y43_24 : Oper := ⟨some 79, .load 40 (.tmp 78), 40, "ref.go:217", #[⟨22, .data⟩, ⟨16, .guard⟩], some (16, true)⟩
abbrev y43_25 : Oper := ⟨some 80, .move (.tmp 12), 3, "ref.go:217", #[⟨16, .guard⟩], some (16, true)⟩
abbrev y43_26 : Oper := ⟨some 81, .indexAddr 40 (.tmp 79) (.tmp 80), 0, "ref.go:217", #[⟨23, .data⟩, ⟨24, .data⟩, ⟨16, .guard⟩], some (16, true)⟩
abbrev y43_27 : Oper := ⟨some 82, .load 49 (.tmp 81), 49, "ref.go:217", #[⟨25, .data⟩, ⟨16, .guard⟩], some (16, true)⟩
abbrev y43_28 : Oper := ⟨some 83, .call { callee := .value (.func 33), args := #[.tmp 73, .tmp 74, .tmp 82, .const (Value.bool false)], argTypes := #[22, 3, 49, 4] }, 4, "ref.go:217", #[⟨17, .data⟩, ⟨18, .data⟩, ⟨26, .data⟩, ⟨16, .chain⟩, ⟨16, .guard⟩], some (16, true)⟩
abbrev y43_29 : Oper := ⟨some 84, .unOp .not 4 (.tmp 83), 4, "ref.go:217", #[⟨27, .data⟩, ⟨16, .guard⟩], some (16, true)⟩
abbrev y43_30 : Oper := ⟨some 85, .pick (.tmp 72) (.tmp 84) (.const (Value.bool false)), 4, "ref.go:217", #[⟨16, .data⟩, ⟨28, .data⟩, ⟨1, .guard⟩], some (1, false)⟩
abbrev y43_31 : Oper := ⟨some 86, .pick (.tmp 57) (.const (Value.bool true)) (.tmp 85), 4, "ref.go:217", #[⟨1, .data⟩, ⟨29, .data⟩], none⟩
abbrev y43_32 : Oper := ⟨some 11, .assign (.tmp 86), 4, "ref.go:217", #[⟨30, .data⟩, ⟨27, .chain⟩, ⟨0, .phase⟩, ⟨1, .phase⟩, ⟨2, .phase⟩, ⟨3, .phase⟩, ⟨4, .phase⟩, ⟨5, .phase⟩, ⟨6, .phase⟩, ⟨7, .phase⟩, ⟨8, .phase⟩, ⟨9, .phase⟩, ⟨10, .phase⟩, ⟨11, .phase⟩, ⟨12, .phase⟩, ⟨13, .phase⟩, ⟨14, .phase⟩, ⟨15, .phase⟩, ⟨16, .phase⟩, ⟨17, .phase⟩, ⟨18, .phase⟩, ⟨19, .phase⟩, ⟨20, .phase⟩, ⟨21, .phase⟩, ⟨22, .phase⟩, ⟨23, .phase⟩, ⟨24, .phase⟩, ⟨25, .phase⟩, ⟨26, .phase⟩, ⟨27, .phase⟩, ⟨28, .phase⟩, ⟨29, .phase⟩, ⟨30, .phase⟩], none⟩
abbrev y43_33 : Oper := ⟨some 97, .move (.tmp 11), 4, "ref.go:220", #[], none⟩
abbrev y43_34 : Oper := ⟨some 98, .move (.tmp 97), 4, "ref.go:220", #[⟨0, .data⟩], none⟩
abbrev y43_35 : Oper := ⟨some 99, .move (.tmp 0), 22, "ref.go:220", #[⟨1, .guard⟩], some (1, false)⟩
abbrev y43_36 : Oper := ⟨some 100, .move (.tmp 8), 34, "ref.go:220", #[⟨1, .guard⟩], some (1, false)⟩
abbrev y43_37 : Oper := ⟨some 101, .move (.tmp 10), 3, "ref.go:220", #[⟨1, .guard⟩], some (1, false)⟩
abbrev y43_38 : Oper := ⟨some 102, .indexAddr 34 (.tmp 100) (.tmp 101), 0, "ref.go:220", #[⟨3, .data⟩, ⟨4, .data⟩, ⟨1, .guard⟩], some (1, false)⟩
abbrev y43_39 : Oper := ⟨some 103, .load 3 (.tmp 102), 3, "ref.go:220", #[⟨5, .data⟩, ⟨1, .guard⟩], some (1, false)⟩
abbrev y43_40 : Oper := ⟨some 104, .move (.tmp 7), 22, "ref.go:220", #[⟨1, .guard⟩], some (1, false)⟩
abbrev y43_41 : Oper := ⟨some 105, .move (.tmp 10), 3, "ref.go:220", #[⟨1, .guard⟩], some (1, false)⟩
abbrev y43_42 : Oper := ⟨some 106, .indexAddr 22 (.tmp 104) (.tmp 105), 0, "ref.go:220", #[⟨7, .data⟩, ⟨8, .data⟩, ⟨1, .guard⟩], some (1, false)⟩
abbrev y43_43 : Oper := ⟨some 107, .fieldAddr 46 (.tmp 106) 4, 0, "ref.go:220", #[⟨9, .data⟩, ⟨1, .guard⟩], some (1, false)⟩
abbrev y43_44 : Oper := ⟨some 108, .load 40 (.tmp 107), 40, "ref.go:220", #[⟨10, .data⟩, ⟨1, .guard⟩], some (1, false)⟩
abbrev y43_45 : Oper := ⟨some 109, .move (.tmp 13), 3, "ref.go:220", #[⟨1, .guard⟩], some (1, false)⟩
abbrev y43_46 : Oper := ⟨some 110, .indexAddr 40 (.tmp 108) (.tmp 109), 0, "ref.go:220", #[⟨11, .data⟩, ⟨12, .data⟩, ⟨1, .guard⟩], some (1, false)⟩
abbrev y43_47 : Oper := ⟨some 111, .load 49 (.tmp 110), 49, "ref.go:220", #[⟨13, .data⟩, ⟨1, .guard⟩], some (1, false)⟩
abbrev y43_48 : Oper := ⟨some 112, .call { callee := .value (.func 33), args := #[.tmp 99, .tmp 103, .tmp 111, .const (Value.bool true)], argTypes := #[22, 3, 49, 4] }, 4, "ref.go:220", #[⟨2, .data⟩, ⟨6, .data⟩, ⟨14, .data⟩, ⟨1, .chain⟩, ⟨1, .guard⟩], some (1, false)⟩
abbrev y43_49 : Oper := ⟨some 113, .move (.tmp 112), 4, "ref.go:220", #[⟨15, .data⟩, ⟨15, .chain⟩, ⟨1, .guard⟩], some (1, false)⟩
abbrev y43_50 : Oper := ⟨some 114, .move (.tmp 7), 22, "ref.go:220", #[⟨16, .guard⟩], some (16, true)⟩
abbrev y43_51 : Oper := ⟨some 115, .move (.tmp 10), 3, "ref.go:220", #[⟨16, .guard⟩], some (16, true)⟩
abbrev y43_52 : Oper := ⟨some 116, .move (.tmp 7), 22, "ref.go:220", #[⟨16, .guard⟩], some (16, true)⟩
abbrev y43_53 : Oper := ⟨some 117, .move (.tmp 10), 3, "ref.go:220", #[⟨16, .guard⟩], some (16, true)⟩
abbrev y43_54 : Oper := ⟨some 118, .indexAddr 22 (.tmp 116) (.tmp 117), 0, "ref.go:220", #[⟨19, .data⟩, ⟨20, .data⟩, ⟨16, .guard⟩], some (16, true)⟩
abbrev y43_55 : Oper := ⟨some 119, .fieldAddr 46 (.tmp 118) 4, 0, "ref.go:220", #[⟨21, .data⟩, ⟨16, .guard⟩], some (16, true)⟩
abbrev y43_56 : Oper := ⟨some 120, .load 40 (.tmp 119), 40, "ref.go:220", #[⟨22, .data⟩, ⟨16, .guard⟩], some (16, true)⟩
abbrev y43_57 : Oper := ⟨some 121, .move (.tmp 13), 3, "ref.go:220", #[⟨16, .guard⟩], some (16, true)⟩
abbrev y43_58 : Oper := ⟨some 122, .indexAddr 40 (.tmp 120) (.tmp 121), 0, "ref.go:220", #[⟨23, .data⟩, ⟨24, .data⟩, ⟨16, .guard⟩], some (16, true)⟩
abbrev y43_59 : Oper := ⟨some 123, .load 49 (.tmp 122), 49, "ref.go:220", #[⟨25, .data⟩, ⟨16, .guard⟩], some (16, true)⟩
abbrev y43_60 : Oper := ⟨some 124, .call { callee := .value (.func 33), args := #[.tmp 114, .tmp 115, .tmp 123, .const (Value.bool true)], argTypes := #[22, 3, 49, 4] }, 4, "ref.go:220", #[⟨17, .data⟩, ⟨18, .data⟩, ⟨26, .data⟩, ⟨16, .chain⟩, ⟨16, .guard⟩], some (16, true)⟩
abbrev y43_61 : Oper := ⟨some 125, .unOp .not 4 (.tmp 124), 4, "ref.go:220", #[⟨27, .data⟩, ⟨16, .guard⟩], some (16, true)⟩
abbrev y43_62 : Oper := ⟨some 126, .pick (.tmp 113) (.tmp 125) (.const (Value.bool false)), 4, "ref.go:220", #[⟨16, .data⟩, ⟨28, .data⟩, ⟨1, .guard⟩], some (1, false)⟩
abbrev y43_63 : Oper := ⟨some 127, .pick (.tmp 98) (.const (Value.bool true)) (.tmp 126), 4, "ref.go:220", #[⟨1, .data⟩, ⟨29, .data⟩], none⟩
abbrev y43_64 : Oper := ⟨some 11, .assign (.tmp 127), 4, "ref.go:220", #[⟨30, .data⟩, ⟨27, .chain⟩, ⟨0, .phase⟩, ⟨1, .phase⟩, ⟨2, .phase⟩, ⟨3, .phase⟩, ⟨4, .phase⟩, ⟨5, .phase⟩, ⟨6, .phase⟩, ⟨7, .phase⟩, ⟨8, .phase⟩, ⟨9, .phase⟩, ⟨10, .phase⟩, ⟨11, .phase⟩, ⟨12, .phase⟩, ⟨13, .phase⟩, ⟨14, .phase⟩, ⟨15, .phase⟩, ⟨16, .phase⟩, ⟨17, .phase⟩, ⟨18, .phase⟩, ⟨19, .phase⟩, ⟨20, .phase⟩, ⟨21, .phase⟩, ⟨22, .phase⟩, ⟨23, .phase⟩, ⟨24, .phase⟩, ⟨25, .phase⟩, ⟨26, .phase⟩, ⟨27, .phase⟩, ⟨28, .phase⟩, ⟨29, .phase⟩, ⟨30, .phase⟩], none⟩
set_option maxRecDepth 100000 in
set_option maxHeartbeats 16000000 in
theorem rBreaks_own {w : World} {v u : Value} {ps : List Pk} {ks : List (Nm × Nm)} (sm : SmP ps) (pk : Pkl w v ps) (hk : Kyl w u ks) (hkl : ks.length ≤ 1048576) :
 Calls Tryz.prog 17 #[v, u] w fun e w' => ∃ r K, e = .returned r ∧ w'.ownsRow w.heap.size 29 2 r K.length (kyC K) ∧ Kn ps (fun i => decide (i < ps.length) && lef ps ks i) (plL (fun i => decide (i < ps.length) && lef ps ks i) ps.length).length K ∧ RowKit.Below w.heap.size w w' := by
 obtain ⟨va, vc, rfl⟩ : ∃ a c, v = .slice a ps.length c := let ⟨a, c, e, _⟩ := pk; ⟨a, c, e⟩
 have hl := sm.l
 have hmk := makeBB ps.length hl w
 have CP := hide (fun (X : World) (inn : Nat → Bool) (hX : RowKit.Below w.heap.size w X) (hb : Bb X w.heap.size ps.length inn) => rfpart_gen hX sm pk hb)
 have HKY := hide (show ∀ X, RowKit.Below w.heap.size w X → ∀ i, i < ps.length → ∃ b o cs, va = some ⟨b, o, none⟩ ∧ b < X.heap.size ∧ X.rangeAt b (o + i * 43) cs ∧ (Tryz.prog.info? 46).map (·.size) = some cs.length ∧ cs.length = 43 ∧ (∀ x ∈ cs, x.oneCell' = true) ∧ (∀ Y, Calls Tryz.prog 52 #[.agg cs.toArray] Y fun e w' => e = .returned (.agg #[.string (pAt ps i).nm, .string (pAt ps i).vr]) ∧ RowKit.Below Y.heap.size Y w') from fun X hX i hi => by
  obtain ⟨vb, vo, vc', cs, dd, rr, cc, pv, ff, e, hvb, hr, hpc, hll⟩ := pk.at2 (pAt_at hi)
  injection e with e1 _ _
  exact ⟨vb, vo, cs, e1, Nat.lt_of_lt_of_le hvb hX.size, range_bel hr hvb hX, by rw [hpc.len]; exact info43, hpc.len, hpc.one, fun Y => rKeyOf_any cs _ _ Y hpc.c0 hpc.c1⟩)
 have HHS := hide (show ∀ X, RowKit.Below w.heap.size w X → ∀ n m : Nm, Calls Tryz.prog 51 #[u, .agg #[.string n, .string m]] X fun e w' => e = .returned (.bool (mK ks n m)) ∧ RowKit.Below X.heap.size X w' from fun X hX n m => rHas_any n m hkl (hk.later hX))
 have HSM := hide sm
 have HPK := hide pk
 have HS := hide (bb_new w ps.length)
 obtain ⟨ua, uc, rfl⟩ : ∃ a c, u = .slice a ks.length c := let ⟨a, c, e, _⟩ := hk; ⟨a, c, e⟩
 have HA0 := hide ((Below.refl w.heap.size w).alloc (Nat.le_refl _) (.cells (madeCells #[.bool false] ps.length) 4))
 clear sm pk hk
 obtain ⟨W1, hW1⟩ : ∃ W, W = w.alloc (.cells (madeCells #[.bool false] ps.length) 4) := ⟨_, rfl⟩
 rw [← hW1] at HS hmk HA0
 clear hW1
 go_enter Tryz.func17, Tryz.ntmps17
 go_wp2_with fail
 go_loopg [6] ps.length (fun gq iv wr => ∃ i : Nat, iv = .int .i64 i ∧ i ≤ ps.length ∧ ps.length - i ≤ gq ∧ Hid (Bb wr w.heap.size ps.length (fun p => decide (p < i) && lef ps ks p)) ∧ Hid (RowKit.Below w.heap.size w wr))
 case atStart => exact ⟨0, by go_num, by omega, by omega, hide (by simpa using unhide HS), HA0⟩
 case round =>
  clear HS HA0
  obtain ⟨i, rfl, hi, hgq, HF, HB0⟩ := hrel
  by_cases hlt : i < ps.length
  ·have hin : (i : Int) < (ps.length : Int) := by omega
   obtain ⟨b, o, cs, rfl, hbl, hrg, hinf, hlen, hone, hkey⟩ := unhide HKY _ (unhide HB0) i hlt
   have HRW := hide hrg
   have HI2 := hide hinf
   have CK := hide hkey
   have HH := hide (fun X hX => unhide HHS X hX (pAt ps i).nm (pAt ps i).vr)
   have HL1 : Hid (lef ps ks i = !mK ks (pAt ps i).nm (pAt ps i).vr) := hide (by unfold lef; rw [pAt_at hlt])
   generalize (pAt ps i).nm = n at *
   generalize (pAt ps i).vr = m at *
   clear hrg hinf hkey hone hlen
   go_wp2_with (first
    | ((with_reducible refine wpList_load_p (op := ⟨some 29, .load 46 (.tmp 28), 46, "ref.go:210", #[⟨5, .data⟩], none⟩) ?pxa 46 (.tmp 28) ?pxb b (o + i * 43) ?pxc cs _ (unhide HRW) Tryz.underlying46 ?pxd (unhide HI2) ?pxe); (case pxa => rfl); (case pxb => rfl); (case pxc => rfl); (case pxd => rfl))
    | (go_at_call 52; refine (unhide CK _).mono ?_; rintro e w5 ⟨rfl, hb5⟩; have HB5 := hide hb5; clear hb5)
    | (go_at_call 51; refine (unhide HH _ (bl_t (unhide HB0) (unhide HB5))).mono ?_; rintro e w6 ⟨rfl, hb6⟩; have HB6 := hide (bl_t (unhide HB5) hb6); obtain ⟨k1, k2⟩ := ((unhide HF).later (unhide HB6)).cell hlt; have k3 := ((unhide HF).later (unhide HB6)).lt; clear hb6))
   go_roundg (ps.length - (i + 1))
   case measure => omega
   case rel => exact ⟨i + 1, by go_num, by omega, by omega, hide (by
    have h1 := ((unhide HF).later (unhide HB6)).set hlt (!mK ks n m)
    rw [show (fun p => decide (p < i + 1) && lef ps ks p) = (fun x => if x = i then !mK ks n m else decide (x < i) && lef ps ks x) from by
     funext x
     by_cases e : x = i
     ·subst e; rw [if_pos rfl, unhide HL1]; simp
     ·rw [if_neg e]
      congr 1
      exact decide_eq_decide.2 (by omega)]
    exact h1), hide ((bl_t (unhide HB0) (unhide HB6)).setCell (p := ⟨w.heap.size, _, none⟩) (Nat.le_refl _) _)⟩
  ·obtain rfl : i = ps.length := by omega
   have CP' := hide (unhide CP _ _ (unhide HB0) (unhide HF))
   have hmi := plL_len (fun i => decide (i < ps.length) && lef ps ks i) ps.length
   clear CP HF HHS HKY
   generalize hin : (fun i => decide (i < ps.length) && lef ps ks i) = inn at *
   have HIN := hide hin
   clear hin
   go_wp2_with fail
   refine (unhide CP').mono ?_
   rintro e w1 ⟨r1, r2, rfl, hpk, hbl, hrow, hb1⟩
   have hbw1 := bl_t (unhide HB0) hb1
   have hpk1 := hpk w1 (fun _ _ => rfl) hbw1
   obtain ⟨ra, rc, rfl⟩ : ∃ a c, r1 = .slice a ((plL inn ps.length).map (pAt ps)).length c := let ⟨a, c, e, _⟩ := hpk1; ⟨a, c, e⟩
   obtain ⟨⟨la, ln, lk⟩, rfl, hln⟩ := slice_hd hrow
   simp only at hln
   subst hln
   unfold hv at *
   have HR := hide (And.intro hpk1 (And.intro hrow hbw1))
   clear hpk hpk1 hbl hrow hb1 hbw1 CP' HB0
   obtain ⟨M, hM⟩ : ∃ M, M = (plL inn ps.length).length := ⟨_, rfl⟩
   have HM := hide hM
   rw [List.length_map] at HR ⊢
   rw [← hM] at hmi HR ⊢
   clear hM
   have HKS := hide (And.intro (show w1.ownsRow w.heap.size 29 2 (.slice none 0 0) ([] : List (Nm × Nm)).length (kyC []) from ⟨rfl, .inl ⟨rfl, rfl⟩⟩) (Kn.start ps inn))
   go_wp2_with fail
   go_loopg [9, 10] M (fun gq kv iv X => ∃ (i : Nat) (K : List (Nm × Nm)), iv = .int .i64 i ∧ i ≤ M ∧ M - i ≤ gq ∧ Hid (X.ownsRow w.heap.size 29 2 kv K.length (kyC K) ∧ Kn ps inn i K) ∧ Hid (RowKit.Below w1.heap.size w1 X))
   case atStart => exact ⟨0, [], by go_num, by omega, by omega, HKS, hide (Below.refl _ _)⟩
   case round =>
    clear HKS
    obtain ⟨i, K, rfl, hi, hgi, HK, HBo⟩ := hrel
    by_cases hlt : i < M
    ·have hin : (i : Int) < (M : Int) := by omega
     have hik : i < (plL inn ps.length).length := by have := unhide HM; omega
     obtain ⟨p, hp⟩ : ∃ p, (plL inn ps.length)[i]? = some p := ⟨_, List.getElem?_eq_getElem hik⟩
     have hpl := ((plL_mem inn ps.length p).1 (List.mem_of_getElem? hp)).1
     have hq : ((plL inn ps.length).map (pAt ps))[i]? = some (pAt ps p) := by rw [List.getElem?_map, hp]; rfl
     obtain ⟨lb, lo, lc, cs, dd, rr, cc, pv, ff, e, hlb, hr, hpc, hll⟩ := (unhide HR).1.at2 hq
     injection e with e1 e2 e3
     subst e1 e3
     obtain ⟨da, dac, df, rfl, hcd⟩ := cv_of hll.dl
     obtain ⟨pa, pac, pf, rfl, hcp⟩ := cv_of hll.rl
     obtain ⟨ag, rfl, hat⟩ := row_at (unhide HR).2.1 (Below.refl _ _) hik
     rw [show (plL inn ps.length)[i] = p from (List.getElem?_eq_some_iff.1 hp).2] at hat
     have hmem := List.mem_of_getElem? (pAt_at hpl)
     have hagl := World.block_lt_of_cell? _ _ hat
     have HAT : Hid (∀ Y, RowKit.Below w1.heap.size w1 Y → Y.cell? ⟨ag, i, none⟩ = some (.int .i64 (p : Int))) := hide fun Y hY => (hY.cell (p := ⟨ag, i, none⟩) hagl).trans hat
     have HD : Hid (∀ Y, RowKit.Below w1.heap.size w1 Y → Y.cell? ⟨lb, lo + i * 43 + 3, none⟩ = some (.slice da (pAt ps p).dp.length dac) ∧ Y.cell? ⟨lb, lo + i * 43 + 4, none⟩ = some (.slice pa (pAt ps p).pr.length pac)) := hide fun Y hY => ⟨(hY.cell (p := ⟨lb, _, none⟩) hlb).trans (hr 3 _ hpc.c3), (hY.cell (p := ⟨lb, _, none⟩) hlb).trans (hr 4 _ hpc.c4)⟩
     have hzd : ∀ k, k < (pAt ps p).dp.length → ∀ a ∈ (pAt ps p).dp.getD k [], a.v.size ≤ maxLen := fun k hk a ha => (((unhide HSM).d _ hmem _ (getD_mem hk)).2 a ha).2
     have hzp : ∀ k, k < (pAt ps p).pr.length → ∀ a ∈ (pAt ps p).pr.getD k [], a.v.size ≤ maxLen := fun k hk a ha => (((unhide HSM).r _ hmem _ (getD_mem hk)).2 a ha).2
     obtain ⟨im1, hi1⟩ : ∃ F : Nat → Bool, F = fun k => imP ps (fun _ => true) (-1) ((pAt ps p).dp.getD k []) := ⟨_, rfl⟩
     obtain ⟨im2, hi2⟩ : ∃ F : Nat → Bool, F = fun k => imP ps inn (-1) ((pAt ps p).dp.getD k []) := ⟨_, rfl⟩
     obtain ⟨im3, hi3⟩ : ∃ F : Nat → Bool, F = fun k => imP ps (fun _ => true) (p : Int) ((pAt ps p).pr.getD k []) := ⟨_, rfl⟩
     obtain ⟨im4, hi4⟩ : ∃ F : Nat → Bool, F = fun k => imP ps inn (p : Int) ((pAt ps p).pr.getD k []) := ⟨_, rfl⟩
     have HMD : Hid (∀ k, k < (pAt ps p).dp.length → ∃ eb eo, da = some ⟨eb, eo, none⟩ ∧ (∀ Y, RowKit.Below w1.heap.size w1 Y → Y.cell? ⟨eb, eo + k, none⟩ = some (.slice (df k).a (df k).n (df k).c)) ∧ (∀ X, RowKit.Below w1.heap.size w1 X → Calls Tryz.prog 33 #[.slice va ps.length vc, .int .i64 (p : Int), .slice (df k).a (df k).n (df k).c, .bool false] X fun e w' => e = .returned (.bool (im1 k)) ∧ RowKit.Below X.heap.size X w') ∧ (∀ X, RowKit.Below w1.heap.size w1 X → Calls Tryz.prog 33 #[.slice (some ⟨lb, lo, none⟩) M rc, .int .i64 (i : Int), .slice (df k).a (df k).n (df k).c, .bool false] X fun e w' => e = .returned (.bool (im2 k)) ∧ RowKit.Below X.heap.size X w')) := hide fun k hk => by
      obtain ⟨eb, eo, h1, h2, h3, h4⟩ := hcd.at_ k hk
      rw [hi1, hi2]
      refine ⟨eb, eo, h1, fun Y hY => (hY.cell (p := ⟨eb, _, none⟩) h2).trans h3, fun X hX => rMet_dep _ (unhide HSM) ((unhide HPK).later (bl_t (unhide HR).2.2 hX)) (h4.later hX) (hzd k hk), fun X hX => ?_⟩
      have := rMet_dep (i : Int) (sm_part (unhide HSM) inn) ((unhide HR).1.later hX) (h4.later hX) (hzd k hk)
      rw [im_dep] at this
      exact this
     have HMP : Hid (∀ k, k < (pAt ps p).pr.length → ∃ eb eo, pa = some ⟨eb, eo, none⟩ ∧ (∀ Y, RowKit.Below w1.heap.size w1 Y → Y.cell? ⟨eb, eo + k, none⟩ = some (.slice (pf k).a (pf k).n (pf k).c)) ∧ (∀ X, RowKit.Below w1.heap.size w1 X → Calls Tryz.prog 33 #[.slice va ps.length vc, .int .i64 (p : Int), .slice (pf k).a (pf k).n (pf k).c, .bool true] X fun e w' => e = .returned (.bool (im3 k)) ∧ RowKit.Below X.heap.size X w') ∧ (∀ X, RowKit.Below w1.heap.size w1 X → Calls Tryz.prog 33 #[.slice (some ⟨lb, lo, none⟩) M rc, .int .i64 (i : Int), .slice (pf k).a (pf k).n (pf k).c, .bool true] X fun e w' => e = .returned (.bool (im4 k)) ∧ RowKit.Below X.heap.size X w')) := hide fun k hk => by
      obtain ⟨eb, eo, h1, h2, h3, h4⟩ := hcp.at_ k hk
      rw [hi3, hi4]
      refine ⟨eb, eo, h1, fun Y hY => (hY.cell (p := ⟨eb, _, none⟩) h2).trans h3, fun X hX => rMet_pre _ (unhide HSM) ((unhide HPK).later (bl_t (unhide HR).2.2 hX)) (h4.later hX) (hzp k hk), fun X hX => ?_⟩
      have := rMet_pre (i : Int) (sm_part (unhide HSM) inn) ((unhide HR).1.later hX) (h4.later hX) (hzp k hk)
      rw [im_pre ps inn _ hp] at this
      exact this
     have HLS3 : Hid (∀ k, lsD ps inn (pAt ps p) k = (im1 k && !im2 k)) := hide fun k => by rw [hi1, hi2]; rfl
     have HLS4 : Hid (∀ k, lsP ps inn p (pAt ps p) k = (im3 k && !im4 k)) := hide fun k => by rw [hi3, hi4]; rfl
     have HBR : Hid (brk ps inn p = (anyB (lsD ps inn (pAt ps p)) (pAt ps p).dp.length || anyB (lsP ps inn p (pAt ps p)) (pAt ps p).pr.length)) := hide rfl
     have HRW : Hid (∀ Y, RowKit.Below w1.heap.size w1 Y → Y.rangeAt lb (lo + i * 43) cs) := hide fun Y hY => range_bel hr hlb hY
     have HI2 := hide (show (Tryz.prog.info? 46).map (·.size) = some cs.length by rw [hpc.len]; exact info43)
     have CK := hide (fun Y => rKeyOf_any cs _ _ Y hpc.c0 hpc.c1)
     have HKP : Hid (kyP (pAt ps p) = ((pAt ps p).nm, (pAt ps p).vr)) := hide rfl
     have hDl : (pAt ps p).dp.length ≤ 1048576 := Nat.le_trans (le_sum (fun p : Pk => p.dp.length) hmem) (unhide HSM).sd
     have hPl : (pAt ps p).pr.length ≤ 1048576 := Nat.le_trans (le_sum (fun p : Pk => p.pr.length) hmem) (unhide HSM).sr
     have HP := hide hp
     clear hq hr hpc hll hcd hcp hat hagl hzd hzp hi1 hi2 hi3 hi4 hmem hp hpl e2
     generalize (pAt ps p).dp.length = D at *
     generalize (pAt ps p).pr.length = R at *
     generalize lsD ps inn (pAt ps p) = LD at *
     generalize lsP ps inn p (pAt ps p) = LP at *
     generalize (pAt ps p).nm = kn at *
     generalize (pAt ps p).vr = kw at *
     obtain ⟨wo, hwo⟩ : ∃ W, W = wr := ⟨_, rfl⟩
     subst hwo
     obtain ⟨y3, y4⟩ := unhide HD _ (unhide HBo)
     go_wp2_with fail
     go_loopg [11, 12] D (fun gq bv kv X => ∃ (k : Nat) (b' : Bool), kv = .int .i64 k ∧ bv = .bool b' ∧ k ≤ D ∧ D - k ≤ gq ∧ Hid (RowKit.Below wo.heap.size wo X) ∧ Hid (b' = (false || anyB LD k)))
     case atStart => exact ⟨0, _, by go_num, rfl, by omega, by omega, hide (Below.refl _ _), hide (by simp [anyB])⟩
     case round =>
      clear y3 y4
      obtain ⟨k, b3, rfl, rfl, hk, hgk, HBW, HV⟩ := hrel
      have HBX := hide (bl_t (unhide HBo) (unhide HBW))
      obtain ⟨y3, y4⟩ := unhide HD _ (unhide HBX)
      by_cases hlk : k < D
      ·have hkz : (k : Int) < (D : Int) := by omega
       obtain ⟨eb, eo, rfl, HE⟩ := unhide HMD k hlk
       have HSS : Hid (∀ Y, RowKit.Below w1.heap.size w1 Y → Y.cell? ⟨ag, i, none⟩ = some (.int .i64 (p : Int)) ∧ Y.cell? ⟨lb, lo + i * 43 + 3, none⟩ = some (.slice (some ⟨eb, eo, none⟩) D dac) ∧ Y.cell? ⟨eb, eo + k, none⟩ = some (.slice (df k).a (df k).n (df k).c)) := hide fun Y hY => ⟨unhide HAT Y hY, (unhide HD Y hY).1, (HE.1 Y hY)⟩
       have CA := hide (HE.2.1 wr.drew (bl_t (unhide HBX) (Below.refl wr.heap.size wr).drew))
       have CB := hide HE.2.2
       have HVn : Hid (∀ c : Bool, LD k = c → (b3 || c) = (false || anyB LD (k + 1))) := hide fun c hc => by
        rw [unhide HV]
        show _ = (false || (anyB LD k || LD k))
        rw [hc, Bool.or_assoc]
       have hls := unhide HLS3 k
       clear HE HV
       cases b3
       ·cases m1 : im1 k
        ·rw [m1] at CA
         have HV' := hide (unhide HVn false (by rw [hls, m1]; rfl))
         clear HVn hls
         go_wp2_with fail
         refine wp_region_held_drew (S := fun w' => w'.cell? ⟨ag, i, none⟩ = some (.int .i64 (p : Int)) ∧ w'.cell? ⟨lb, lo + i * 43 + 3, none⟩ = some (.slice (some ⟨eb, eo, none⟩) D dac) ∧ w'.cell? ⟨eb, eo + k, none⟩ = some (.slice (df k).a (df k).n (df k).c)) (by kernel_rfl) ?_ (fun hHeld => ?_)
         ·exact unhide HSS wr (unhide HBX)
         refine tk2 0 y43_1 ?_
         refine tk2 1 y43_2 ?_
         refine tk2 2 y43_3 ?_
         refine tk2 3 y43_4 ?_
         refine tk2 4 y43_5 ?_
         refine tk2 5 y43_6 ?_
         refine tk2 6 y43_7 ?_
         refine tk2 7 y43_8 ?_
         refine tk2 8 y43_9 ?_
         refine tk2 9 y43_10 ?_
         refine tk2 10 y43_11 ?_
         refine tk2 11 y43_12 ?_
         refine tk2 12 y43_13 ?_
         refine tk2 13 y43_14 ?_
         refine tk2 14 y43_15 ?_
         refine wpAnyH_ready (rs := [15]) (by kernel_rfl) (by simp) ?_
         refine AllReadyH.cons (o := y43_16) rfl (fun K hK => ?_) AllReadyH.nil
         go_simp
         refine (unhide CA).mono ?_
         rintro e w5 ⟨rfl, hb5⟩
         have hb6 := (Below.refl wr.heap.size wr).drew.trans (hb5.mono (by simp))
         have HB5 := hide hb6
         have h5 := unhide HSS w5 (bl_t (unhide HBX) hb6)
         refine hK.out _ _ h5 (fun hHeld => ?_)
         clear hb5 hb6
         clear hK K
         try simp only [Act.put, sqB, sq0, sq1]
         refine tk2 16 y43_17 ?_
         refine tkH 17 y43_18 (v := undef) (Or.inr ⟨by rfl, rfl⟩) ?_
         try simp only [Act.put, sqB, sq0, sq1]
         refine tkH 18 y43_19 (v := undef) (Or.inr ⟨by rfl, rfl⟩) ?_
         try simp only [Act.put, sqB, sq0, sq1]
         refine tkH 19 y43_20 (v := undef) (Or.inr ⟨by rfl, rfl⟩) ?_
         try simp only [Act.put, sqB, sq0, sq1]
         refine tkH 20 y43_21 (v := undef) (Or.inr ⟨by rfl, rfl⟩) ?_
         try simp only [Act.put, sqB, sq0, sq1]
         refine tkH 21 y43_22 (v := undef) (Or.inr ⟨by rfl, rfl⟩) ?_
         try simp only [Act.put, sqB, sq0, sq1]
         refine tkH 22 y43_23 (v := undef) (Or.inr ⟨by rfl, rfl⟩) ?_
         try simp only [Act.put, sqB, sq0, sq1]
         refine tkH 23 y43_24 (v := undef) (Or.inr ⟨by rfl, rfl⟩) ?_
         try simp only [Act.put, sqB, sq0, sq1]
         refine tkH 24 y43_25 (v := undef) (Or.inr ⟨by rfl, rfl⟩) ?_
         try simp only [Act.put, sqB, sq0, sq1]
         refine tkH 25 y43_26 (v := undef) (Or.inr ⟨by rfl, rfl⟩) ?_
         try simp only [Act.put, sqB, sq0, sq1]
         refine tkH 26 y43_27 (v := undef) (Or.inr ⟨by rfl, rfl⟩) ?_
         try simp only [Act.put, sqB, sq0, sq1]
         refine tkH 27 y43_28 (v := undef) (Or.inr ⟨by rfl, rfl⟩) ?_
         try simp only [Act.put, sqB, sq0, sq1]
         refine tkH 28 y43_29 (v := undef) (Or.inr ⟨by rfl, rfl⟩) ?_
         try simp only [Act.put, sqB, sq0, sq1]
         refine tk2 29 y43_30 ?_
         refine tk2 30 y43_31 ?_
         refine tk2 31 y43_32 ?_
         refine wpAnyH_done (by kernel_rfl) ?_ _
         have HB7 := hide (bl_t (unhide HBW) (unhide HB5))
         clear h5 hHeld HB5 CA CB
         go_wp2_with fail
         go_roundg (D - (k + 1))
         case measure => omega
         case rel => exact ⟨k + 1, false, by go_num, rfl, by omega, by omega, hide (unhide HB7), HV'⟩
        ·rw [m1] at CA
         cases m2 : im2 k
         ·rw [m2] at CB
          have HV' := hide (unhide HVn true (by rw [hls, m1, m2]; rfl))
          clear HVn hls
          go_wp2_with fail
          refine wp_region_held_drew (S := fun w' => w'.cell? ⟨ag, i, none⟩ = some (.int .i64 (p : Int)) ∧ w'.cell? ⟨lb, lo + i * 43 + 3, none⟩ = some (.slice (some ⟨eb, eo, none⟩) D dac) ∧ w'.cell? ⟨eb, eo + k, none⟩ = some (.slice (df k).a (df k).n (df k).c)) (by kernel_rfl) ?_ (fun hHeld => ?_)
          ·exact unhide HSS wr (unhide HBX)
          refine tk2 0 y43_1 ?_
          refine tk2 1 y43_2 ?_
          refine tk2 2 y43_3 ?_
          refine tk2 3 y43_4 ?_
          refine tk2 4 y43_5 ?_
          refine tk2 5 y43_6 ?_
          refine tk2 6 y43_7 ?_
          refine tk2 7 y43_8 ?_
          refine tk2 8 y43_9 ?_
          refine tk2 9 y43_10 ?_
          refine tk2 10 y43_11 ?_
          refine tk2 11 y43_12 ?_
          refine tk2 12 y43_13 ?_
          refine tk2 13 y43_14 ?_
          refine tk2 14 y43_15 ?_
          refine wpAnyH_ready (rs := [15]) (by kernel_rfl) (by simp) ?_
          refine AllReadyH.cons (o := y43_16) rfl (fun K hK => ?_) AllReadyH.nil
          go_simp
          refine (unhide CA).mono ?_
          rintro e w5 ⟨rfl, hb5⟩
          have hb6 := (Below.refl wr.heap.size wr).drew.trans (hb5.mono (by simp))
          have HB5 := hide hb6
          have h5 := unhide HSS w5 (bl_t (unhide HBX) hb6)
          refine hK.out _ _ h5 (fun hHeld => ?_)
          clear hb5 hb6
          clear hK K
          try simp only [Act.put, sqB, sq0, sq1]
          refine tk2 16 y43_17 ?_
          refine tk2 17 y43_18 ?_
          refine tk2 18 y43_19 ?_
          refine tk2 19 y43_20 ?_
          refine tk2 20 y43_21 ?_
          refine tk2 21 y43_22 ?_
          refine tk2 22 y43_23 ?_
          refine tk2 23 y43_24 ?_
          refine tk2 24 y43_25 ?_
          refine tk2 25 y43_26 ?_
          refine tk2 26 y43_27 ?_
          refine wpAnyH_ready (rs := [27]) (by kernel_rfl) (by simp) ?_
          refine AllReadyH.cons (o := y43_28) rfl (fun K hK => ?_) AllReadyH.nil
          go_simp
          refine (unhide CB w5 (bl_t (unhide HBX) (unhide HB5))).mono ?_
          rintro e w6 ⟨rfl, hb5⟩
          have HB6 := hide (bl_t (unhide HB5) hb5)
          have h6 := unhide HSS w6 (bl_t (unhide HBX) (unhide HB6))
          refine hK.out _ _ h6 (fun hHeld => ?_)
          clear hb5
          clear hK K
          try simp only [Act.put, sqB, sq0, sq1]
          refine tk2 28 y43_29 ?_
          refine tk2 29 y43_30 ?_
          refine tk2 30 y43_31 ?_
          refine tk2 31 y43_32 ?_
          refine wpAnyH_done (by kernel_rfl) ?_ _
          have HB7 := hide (bl_t (unhide HBW) (unhide HB6))
          clear h5 h6 hHeld HB5 HB6 CA CB
          go_wp2_with fail
          go_roundg (D - (k + 1))
          case measure => omega
          case rel => exact ⟨k + 1, true, by go_num, rfl, by omega, by omega, hide (unhide HB7), HV'⟩
         ·rw [m2] at CB
          have HV' := hide (unhide HVn false (by rw [hls, m1, m2]; rfl))
          clear HVn hls
          go_wp2_with fail
          refine wp_region_held_drew (S := fun w' => w'.cell? ⟨ag, i, none⟩ = some (.int .i64 (p : Int)) ∧ w'.cell? ⟨lb, lo + i * 43 + 3, none⟩ = some (.slice (some ⟨eb, eo, none⟩) D dac) ∧ w'.cell? ⟨eb, eo + k, none⟩ = some (.slice (df k).a (df k).n (df k).c)) (by kernel_rfl) ?_ (fun hHeld => ?_)
          ·exact unhide HSS wr (unhide HBX)
          refine tk2 0 y43_1 ?_
          refine tk2 1 y43_2 ?_
          refine tk2 2 y43_3 ?_
          refine tk2 3 y43_4 ?_
          refine tk2 4 y43_5 ?_
          refine tk2 5 y43_6 ?_
          refine tk2 6 y43_7 ?_
          refine tk2 7 y43_8 ?_
          refine tk2 8 y43_9 ?_
          refine tk2 9 y43_10 ?_
          refine tk2 10 y43_11 ?_
          refine tk2 11 y43_12 ?_
          refine tk2 12 y43_13 ?_
          refine tk2 13 y43_14 ?_
          refine tk2 14 y43_15 ?_
          refine wpAnyH_ready (rs := [15]) (by kernel_rfl) (by simp) ?_
          refine AllReadyH.cons (o := y43_16) rfl (fun K hK => ?_) AllReadyH.nil
          go_simp
          refine (unhide CA).mono ?_
          rintro e w5 ⟨rfl, hb5⟩
          have hb6 := (Below.refl wr.heap.size wr).drew.trans (hb5.mono (by simp))
          have HB5 := hide hb6
          have h5 := unhide HSS w5 (bl_t (unhide HBX) hb6)
          refine hK.out _ _ h5 (fun hHeld => ?_)
          clear hb5 hb6
          clear hK K
          try simp only [Act.put, sqB, sq0, sq1]
          refine tk2 16 y43_17 ?_
          refine tk2 17 y43_18 ?_
          refine tk2 18 y43_19 ?_
          refine tk2 19 y43_20 ?_
          refine tk2 20 y43_21 ?_
          refine tk2 21 y43_22 ?_
          refine tk2 22 y43_23 ?_
          refine tk2 23 y43_24 ?_
          refine tk2 24 y43_25 ?_
          refine tk2 25 y43_26 ?_
          refine tk2 26 y43_27 ?_
          refine wpAnyH_ready (rs := [27]) (by kernel_rfl) (by simp) ?_
          refine AllReadyH.cons (o := y43_28) rfl (fun K hK => ?_) AllReadyH.nil
          go_simp
          refine (unhide CB w5 (bl_t (unhide HBX) (unhide HB5))).mono ?_
          rintro e w6 ⟨rfl, hb5⟩
          have HB6 := hide (bl_t (unhide HB5) hb5)
          have h6 := unhide HSS w6 (bl_t (unhide HBX) (unhide HB6))
          refine hK.out _ _ h6 (fun hHeld => ?_)
          clear hb5
          clear hK K
          try simp only [Act.put, sqB, sq0, sq1]
          refine tk2 28 y43_29 ?_
          refine tk2 29 y43_30 ?_
          refine tk2 30 y43_31 ?_
          refine tk2 31 y43_32 ?_
          refine wpAnyH_done (by kernel_rfl) ?_ _
          have HB7 := hide (bl_t (unhide HBW) (unhide HB6))
          clear h5 h6 hHeld HB5 HB6 CA CB
          go_wp2_with fail
          go_roundg (D - (k + 1))
          case measure => omega
          case rel => exact ⟨k + 1, false, by go_num, rfl, by omega, by omega, hide (unhide HB7), HV'⟩
       ·have HV' := hide (unhide HVn (LD k) rfl)
        rw [Bool.true_or] at HV'
        have HBd := hide (fun n => bl_t (unhide HBW) (bl_drewN wr n))
        clear HVn hls CA CB HSS
        go_wp2_with fail
        go_quiet (fail)
        go_wp2
        go_roundg (D - (k + 1))
        case measure => omega
        case rel => exact ⟨k + 1, true, by go_num, rfl, by omega, by omega, hide (unhide HBd _), HV'⟩
      ·obtain rfl : k = D := by omega
       have HV3 := HV
       clear HV HMD
       go_wp2_with fail
       go_loopg [11, 13] R (fun gq bv kv X => ∃ (k : Nat) (b' : Bool), kv = .int .i64 k ∧ bv = .bool b' ∧ k ≤ R ∧ R - k ≤ gq ∧ Hid (RowKit.Below wo.heap.size wo X) ∧ Hid (b' = (b3 || anyB LP k)))
       case atStart => exact ⟨0, _, by go_num, rfl, by omega, by omega, HBW, hide (by simp [anyB])⟩
       case round =>
        clear y3 y4 HBW HBX
        obtain ⟨k, b4, rfl, rfl, hk, hgk, HBW, HV⟩ := hrel
        have HBX := hide (bl_t (unhide HBo) (unhide HBW))
        obtain ⟨y3, y4⟩ := unhide HD _ (unhide HBX)
        by_cases hlk : k < R
        ·have hkz : (k : Int) < (R : Int) := by omega
         obtain ⟨eb, eo, rfl, HE⟩ := unhide HMP k hlk
         have HSS : Hid (∀ Y, RowKit.Below w1.heap.size w1 Y → Y.cell? ⟨ag, i, none⟩ = some (.int .i64 (p : Int)) ∧ Y.cell? ⟨lb, lo + i * 43 + 4, none⟩ = some (.slice (some ⟨eb, eo, none⟩) R pac) ∧ Y.cell? ⟨eb, eo + k, none⟩ = some (.slice (pf k).a (pf k).n (pf k).c)) := hide fun Y hY => ⟨unhide HAT Y hY, (unhide HD Y hY).2, (HE.1 Y hY)⟩
         have CA := hide (HE.2.1 wr.drew (bl_t (unhide HBX) (Below.refl wr.heap.size wr).drew))
         have CB := hide HE.2.2
         have HVn : Hid (∀ c : Bool, LP k = c → (b4 || c) = (b3 || anyB LP (k + 1))) := hide fun c hc => by
          rw [unhide HV]
          show _ = (b3 || (anyB LP k || LP k))
          rw [hc, Bool.or_assoc]
         have hls := unhide HLS4 k
         clear HE HV
         cases b4
         ·cases m1 : im3 k
          ·rw [m1] at CA
           have HV' := hide (unhide HVn false (by rw [hls, m1]; rfl))
           clear HVn hls
           go_wp2_with fail
           refine wp_region_held_drew (S := fun w' => w'.cell? ⟨ag, i, none⟩ = some (.int .i64 (p : Int)) ∧ w'.cell? ⟨lb, lo + i * 43 + 4, none⟩ = some (.slice (some ⟨eb, eo, none⟩) R pac) ∧ w'.cell? ⟨eb, eo + k, none⟩ = some (.slice (pf k).a (pf k).n (pf k).c)) (by kernel_rfl) ?_ (fun hHeld => ?_)
           ·exact unhide HSS wr (unhide HBX)
           refine tk2 0 y43_33 ?_
           refine tk2 1 y43_34 ?_
           refine tk2 2 y43_35 ?_
           refine tk2 3 y43_36 ?_
           refine tk2 4 y43_37 ?_
           refine tk2 5 y43_38 ?_
           refine tk2 6 y43_39 ?_
           refine tk2 7 y43_40 ?_
           refine tk2 8 y43_41 ?_
           refine tk2 9 y43_42 ?_
           refine tk2 10 y43_43 ?_
           refine tk2 11 y43_44 ?_
           refine tk2 12 y43_45 ?_
           refine tk2 13 y43_46 ?_
           refine tk2 14 y43_47 ?_
           refine wpAnyH_ready (rs := [15]) (by kernel_rfl) (by simp) ?_
           refine AllReadyH.cons (o := y43_48) rfl (fun K hK => ?_) AllReadyH.nil
           go_simp
           refine (unhide CA).mono ?_
           rintro e w5 ⟨rfl, hb5⟩
           have hb6 := (Below.refl wr.heap.size wr).drew.trans (hb5.mono (by simp))
           have HB5 := hide hb6
           have h5 := unhide HSS w5 (bl_t (unhide HBX) hb6)
           refine hK.out _ _ h5 (fun hHeld => ?_)
           clear hb5 hb6
           clear hK K
           try simp only [Act.put, sqB, sq0, sq1]
           refine tk2 16 y43_49 ?_
           refine tkH 17 y43_50 (v := undef) (Or.inr ⟨by rfl, rfl⟩) ?_
           try simp only [Act.put, sqB, sq0, sq1]
           refine tkH 18 y43_51 (v := undef) (Or.inr ⟨by rfl, rfl⟩) ?_
           try simp only [Act.put, sqB, sq0, sq1]
           refine tkH 19 y43_52 (v := undef) (Or.inr ⟨by rfl, rfl⟩) ?_
           try simp only [Act.put, sqB, sq0, sq1]
           refine tkH 20 y43_53 (v := undef) (Or.inr ⟨by rfl, rfl⟩) ?_
           try simp only [Act.put, sqB, sq0, sq1]
           refine tkH 21 y43_54 (v := undef) (Or.inr ⟨by rfl, rfl⟩) ?_
           try simp only [Act.put, sqB, sq0, sq1]
           refine tkH 22 y43_55 (v := undef) (Or.inr ⟨by rfl, rfl⟩) ?_
           try simp only [Act.put, sqB, sq0, sq1]
           refine tkH 23 y43_56 (v := undef) (Or.inr ⟨by rfl, rfl⟩) ?_
           try simp only [Act.put, sqB, sq0, sq1]
           refine tkH 24 y43_57 (v := undef) (Or.inr ⟨by rfl, rfl⟩) ?_
           try simp only [Act.put, sqB, sq0, sq1]
           refine tkH 25 y43_58 (v := undef) (Or.inr ⟨by rfl, rfl⟩) ?_
           try simp only [Act.put, sqB, sq0, sq1]
           refine tkH 26 y43_59 (v := undef) (Or.inr ⟨by rfl, rfl⟩) ?_
           try simp only [Act.put, sqB, sq0, sq1]
           refine tkH 27 y43_60 (v := undef) (Or.inr ⟨by rfl, rfl⟩) ?_
           try simp only [Act.put, sqB, sq0, sq1]
           refine tkH 28 y43_61 (v := undef) (Or.inr ⟨by rfl, rfl⟩) ?_
           try simp only [Act.put, sqB, sq0, sq1]
           refine tk2 29 y43_62 ?_
           refine tk2 30 y43_63 ?_
           refine tk2 31 y43_64 ?_
           refine wpAnyH_done (by kernel_rfl) ?_ _
           have HB7 := hide (bl_t (unhide HBW) (unhide HB5))
           clear h5 hHeld HB5 CA CB
           go_wp2_with fail
           go_roundg (R - (k + 1))
           case measure => omega
           case rel => exact ⟨k + 1, false, by go_num, rfl, by omega, by omega, hide (unhide HB7), HV'⟩
          ·rw [m1] at CA
           cases m2 : im4 k
           ·rw [m2] at CB
            have HV' := hide (unhide HVn true (by rw [hls, m1, m2]; rfl))
            clear HVn hls
            go_wp2_with fail
            refine wp_region_held_drew (S := fun w' => w'.cell? ⟨ag, i, none⟩ = some (.int .i64 (p : Int)) ∧ w'.cell? ⟨lb, lo + i * 43 + 4, none⟩ = some (.slice (some ⟨eb, eo, none⟩) R pac) ∧ w'.cell? ⟨eb, eo + k, none⟩ = some (.slice (pf k).a (pf k).n (pf k).c)) (by kernel_rfl) ?_ (fun hHeld => ?_)
            ·exact unhide HSS wr (unhide HBX)
            refine tk2 0 y43_33 ?_
            refine tk2 1 y43_34 ?_
            refine tk2 2 y43_35 ?_
            refine tk2 3 y43_36 ?_
            refine tk2 4 y43_37 ?_
            refine tk2 5 y43_38 ?_
            refine tk2 6 y43_39 ?_
            refine tk2 7 y43_40 ?_
            refine tk2 8 y43_41 ?_
            refine tk2 9 y43_42 ?_
            refine tk2 10 y43_43 ?_
            refine tk2 11 y43_44 ?_
            refine tk2 12 y43_45 ?_
            refine tk2 13 y43_46 ?_
            refine tk2 14 y43_47 ?_
            refine wpAnyH_ready (rs := [15]) (by kernel_rfl) (by simp) ?_
            refine AllReadyH.cons (o := y43_48) rfl (fun K hK => ?_) AllReadyH.nil
            go_simp
            refine (unhide CA).mono ?_
            rintro e w5 ⟨rfl, hb5⟩
            have hb6 := (Below.refl wr.heap.size wr).drew.trans (hb5.mono (by simp))
            have HB5 := hide hb6
            have h5 := unhide HSS w5 (bl_t (unhide HBX) hb6)
            refine hK.out _ _ h5 (fun hHeld => ?_)
            clear hb5 hb6
            clear hK K
            try simp only [Act.put, sqB, sq0, sq1]
            refine tk2 16 y43_49 ?_
            refine tk2 17 y43_50 ?_
            refine tk2 18 y43_51 ?_
            refine tk2 19 y43_52 ?_
            refine tk2 20 y43_53 ?_
            refine tk2 21 y43_54 ?_
            refine tk2 22 y43_55 ?_
            refine tk2 23 y43_56 ?_
            refine tk2 24 y43_57 ?_
            refine tk2 25 y43_58 ?_
            refine tk2 26 y43_59 ?_
            refine wpAnyH_ready (rs := [27]) (by kernel_rfl) (by simp) ?_
            refine AllReadyH.cons (o := y43_60) rfl (fun K hK => ?_) AllReadyH.nil
            go_simp
            refine (unhide CB w5 (bl_t (unhide HBX) (unhide HB5))).mono ?_
            rintro e w6 ⟨rfl, hb5⟩
            have HB6 := hide (bl_t (unhide HB5) hb5)
            have h6 := unhide HSS w6 (bl_t (unhide HBX) (unhide HB6))
            refine hK.out _ _ h6 (fun hHeld => ?_)
            clear hb5
            clear hK K
            try simp only [Act.put, sqB, sq0, sq1]
            refine tk2 28 y43_61 ?_
            refine tk2 29 y43_62 ?_
            refine tk2 30 y43_63 ?_
            refine tk2 31 y43_64 ?_
            refine wpAnyH_done (by kernel_rfl) ?_ _
            have HB7 := hide (bl_t (unhide HBW) (unhide HB6))
            clear h5 h6 hHeld HB5 HB6 CA CB
            go_wp2_with fail
            go_roundg (R - (k + 1))
            case measure => omega
            case rel => exact ⟨k + 1, true, by go_num, rfl, by omega, by omega, hide (unhide HB7), HV'⟩
           ·rw [m2] at CB
            have HV' := hide (unhide HVn false (by rw [hls, m1, m2]; rfl))
            clear HVn hls
            go_wp2_with fail
            refine wp_region_held_drew (S := fun w' => w'.cell? ⟨ag, i, none⟩ = some (.int .i64 (p : Int)) ∧ w'.cell? ⟨lb, lo + i * 43 + 4, none⟩ = some (.slice (some ⟨eb, eo, none⟩) R pac) ∧ w'.cell? ⟨eb, eo + k, none⟩ = some (.slice (pf k).a (pf k).n (pf k).c)) (by kernel_rfl) ?_ (fun hHeld => ?_)
            ·exact unhide HSS wr (unhide HBX)
            refine tk2 0 y43_33 ?_
            refine tk2 1 y43_34 ?_
            refine tk2 2 y43_35 ?_
            refine tk2 3 y43_36 ?_
            refine tk2 4 y43_37 ?_
            refine tk2 5 y43_38 ?_
            refine tk2 6 y43_39 ?_
            refine tk2 7 y43_40 ?_
            refine tk2 8 y43_41 ?_
            refine tk2 9 y43_42 ?_
            refine tk2 10 y43_43 ?_
            refine tk2 11 y43_44 ?_
            refine tk2 12 y43_45 ?_
            refine tk2 13 y43_46 ?_
            refine tk2 14 y43_47 ?_
            refine wpAnyH_ready (rs := [15]) (by kernel_rfl) (by simp) ?_
            refine AllReadyH.cons (o := y43_48) rfl (fun K hK => ?_) AllReadyH.nil
            go_simp
            refine (unhide CA).mono ?_
            rintro e w5 ⟨rfl, hb5⟩
            have hb6 := (Below.refl wr.heap.size wr).drew.trans (hb5.mono (by simp))
            have HB5 := hide hb6
            have h5 := unhide HSS w5 (bl_t (unhide HBX) hb6)
            refine hK.out _ _ h5 (fun hHeld => ?_)
            clear hb5 hb6
            clear hK K
            try simp only [Act.put, sqB, sq0, sq1]
            refine tk2 16 y43_49 ?_
            refine tk2 17 y43_50 ?_
            refine tk2 18 y43_51 ?_
            refine tk2 19 y43_52 ?_
            refine tk2 20 y43_53 ?_
            refine tk2 21 y43_54 ?_
            refine tk2 22 y43_55 ?_
            refine tk2 23 y43_56 ?_
            refine tk2 24 y43_57 ?_
            refine tk2 25 y43_58 ?_
            refine tk2 26 y43_59 ?_
            refine wpAnyH_ready (rs := [27]) (by kernel_rfl) (by simp) ?_
            refine AllReadyH.cons (o := y43_60) rfl (fun K hK => ?_) AllReadyH.nil
            go_simp
            refine (unhide CB w5 (bl_t (unhide HBX) (unhide HB5))).mono ?_
            rintro e w6 ⟨rfl, hb5⟩
            have HB6 := hide (bl_t (unhide HB5) hb5)
            have h6 := unhide HSS w6 (bl_t (unhide HBX) (unhide HB6))
            refine hK.out _ _ h6 (fun hHeld => ?_)
            clear hb5
            clear hK K
            try simp only [Act.put, sqB, sq0, sq1]
            refine tk2 28 y43_61 ?_
            refine tk2 29 y43_62 ?_
            refine tk2 30 y43_63 ?_
            refine tk2 31 y43_64 ?_
            refine wpAnyH_done (by kernel_rfl) ?_ _
            have HB7 := hide (bl_t (unhide HBW) (unhide HB6))
            clear h5 h6 hHeld HB5 HB6 CA CB
            go_wp2_with fail
            go_roundg (R - (k + 1))
            case measure => omega
            case rel => exact ⟨k + 1, false, by go_num, rfl, by omega, by omega, hide (unhide HB7), HV'⟩
         ·have HV' := hide (unhide HVn (LP k) rfl)
          rw [Bool.true_or] at HV'
          have HBd := hide (fun n => bl_t (unhide HBW) (bl_drewN wr n))
          clear HVn hls CA CB HSS
          go_wp2_with fail
          go_quiet (fail)
          go_wp2
          go_roundg (R - (k + 1))
          case measure => omega
          case rel => exact ⟨k + 1, true, by go_num, rfl, by omega, by omega, hide (unhide HBd _), HV'⟩
        ·obtain rfl : k = R := by omega
         have HBK : Hid (brk ps inn p = b4) := hide (by rw [unhide HBR, unhide HV, unhide HV3, Bool.false_or])
         have HKy := hide (own_same (unhide HK).1 fun b e => (unhide HBW).block b (World.ownsRow.lt (unhide HK).1 b e).2)
         have HRW2 := hide (unhide HRW _ (unhide HBX))
         have hKl : K.length ≤ 1048576 := by have := (unhide HK).2.len; omega
         clear HV HV3 HBR HMP HLS3 HLS4
         cases b4
         ·have HKn := hide ((unhide HK).2.no (unhide HP) (unhide HBK))
          clear HBK
          go_wp2_with fail
          go_roundg (M - (i + 1))
          case measure => omega
          case rel => exact ⟨i + 1, K, by go_num, by omega, by omega, hide ⟨unhide HKy, unhide HKn⟩, HBX⟩
         ·have HKn := hide ((unhide HK).2.yes (unhide HP) (unhide HBK))
          rw [unhide HKP] at HKn
          clear HBK
          go_wp2_with (first
           | ((with_reducible refine wpList_load_p (op := ⟨some 133, .load 46 (.tmp 132), 46, "ref.go:223", #[⟨3, .data⟩], none⟩) ?pya 46 (.tmp 132) ?pyb lb (lo + i * 43) ?pyc cs _ (unhide HRW2) Tryz.underlying46 ?pyd (unhide HI2) ?pye); (case pya => rfl); (case pyb => rfl); (case pyc => rfl); (case pyd => rfl))
           | (go_at_call 52; refine (unhide CK _).mono ?_; rintro e w5 ⟨rfl, hb5⟩; have HB5 := hide hb5; clear hb5)
           | (go_at_call 53; refine (rinsert_any kn kw hKl ((row_kyl (unhide HKy)).later (unhide HB5))).mono ?_; rintro e w6 ⟨r6, rfl, hown, hb6⟩; have H6 := hide (And.intro (row_lo2 hown (bl_t (unhide HR).2.2 (bl_t (unhide HBX) (unhide HB5))).size) (bl_t (unhide HB5) hb6)); clear hown hb6))
          go_roundg (M - (i + 1))
          case measure => omega
          case rel => exact ⟨i + 1, insK (kn, kw) K, by go_num, by omega, by omega, hide ⟨(unhide H6).1, unhide HKn⟩, hide (bl_t (unhide HBX) (unhide H6).2)⟩
    ·have hie : i = M := by omega
     subst hie
     go_wp2_with fail
     go_ret
     exact ⟨_, K, rfl, (unhide HK).1, by rw [unhide HIN, ← unhide HM]; exact (unhide HK).2, bl_t (unhide HR).2.2 (unhide HBo)⟩
end Go.Proofs.YtdkpglmdncjnbaaGreatDoor
