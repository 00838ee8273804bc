import Derived.Test.YtijpcmplbpknlaaShJ
namespace Go.Proofs.Ytijpcmplbpknlaa
open Go.RowKit

set_option maxRecDepth 100000 in
set_option maxHeartbeats 4000000 in
theorem back2 (l : Bs) (hl : l.length = 32) (s : Bs) (at_ : Int) (k : Nat) (hk : k < 64) (hm : at_.tmod 64 = (k : Int)) (hok : okS s = true) (b : UInt8) (w : World) :
    Calls Try.prog 3 #[agB l, .string (ba s), .int .i64 at_, .int .u8 (b.toNat : Int)] w fun e w' => e = .returned (.bool true) ∧ Below w.heap.size w w' := by
  have nl := neq_b l l hl hl
  simp only [decide_true, Bool.not_true] at nl
  have gd := gd_b .neq
  have sz : (ba (txt l)).size = 64 := by simp [ba, ByteArray.size, txt_len, hl]
  have HL := hide hl
  have HK := hide hok
  have HTR := hide (txt_rd s hok)
  go_enter Try.func3, Try.ntmps3
  go_wp2_with (first
    | (with_reducible refine w_box l hl _ rfl rfl rfl ?_; intro w1 b1 l1 z1)
    | (with_reducible refine w_load _ rfl rfl w.heap.size rfl _ b1 ?_))
  refine (Text_any l hl _).mono ?_
  rintro e w2 ⟨rfl, hb2⟩
  have B0 := hide (b1.later hb2)
  have HB := hide (bl_t l1 hb2)
  clear b1 l1 z1 hb2 hl hok
  go_wp2_with fail
  refine (Parse_txt l (unhide HL) _).mono ?_
  rintro e w3 ⟨rfl, hb3⟩
  have C0 := hide ((unhide B0).later hb3)
  have HC := hide (bl_t (unhide HB) hb3)
  clear B0 HB hb3
  have ltw3 : w.heap.size < w3.heap.size := (unhide C0).lt
  go_wp2_with (first
    | (with_reducible refine w_alloc rfl rfl ?_; intro w4 b4 l4 z4)
    | (with_reducible refine w_store _ _ rfl rfl w3.heap.size rfl l rfl (unhide HL) zr b4 ?_; intro w5 b5 o5 l5 z5; have D0 := hide (((unhide C0).later l4).of (o5 _ (by omega))); have HD := hide (bl_t (unhide HC) (l4.trans (l5 _ (Nat.le_refl _)))))
    | (with_reducible refine w_load _ rfl rfl w3.heap.size rfl _ b5 ?_)
    | (with_reducible refine w_load _ rfl rfl w.heap.size rfl _ (unhide D0) ?_))
  clear C0 HC b4 l4 z4 b5 o5 l5 z5 ltw3
  refine (Parse_ok s (unhide HK) _).mono ?_
  rintro e w6 ⟨rfl, hb6⟩
  have E0 := hide ((unhide D0).later hb6)
  have HE := hide (bl_t (unhide HD) hb6)
  have ltw6 : w.heap.size < w6.heap.size := (unhide E0).lt
  clear D0 HD hb6
  have lt64 : (k : Int) < 64 := by omega
  have LTx := hide (show k < (txt l).length by rw [txt_len, unhide HL]; exact hk)
  go_wp2_with (first
    | (with_reducible refine w_alloc rfl rfl ?_; intro w7 b7 l7 z7)
    | (with_reducible refine w_build rfl rfl ?_)
    | (with_reducible refine w_store _ _ rfl rfl w6.heap.size rfl (rd s 32) rfl (rd_len _ _) zr b7 ?_; intro w8 b8 o8 l8 z8; have F0 := hide (((unhide E0).later l7).of (o8 _ (by omega))); have HF := hide (bl_t (unhide HE) (l7.trans (l8 _ (Nat.le_refl _)))); clear z7 z8)
    | (with_reducible refine w_load _ rfl rfl w6.heap.size rfl _ b8 ?_)
    | (go_at_call 5; refine (Text_any _ (rd_len _ _) _).mono ?_; rintro e w8b ⟨rfl, hb8⟩; rw [unhide HTR]; have F0b := hide ((unhide F0).later hb8); have HFb := hide (bl_t (unhide HF) hb8); clear hb8)
    | (with_reducible refine w_conv _ rfl rfl (txt l) rfl ?_; intro w9 qc b9 l9 z9; have gg : w.heap.size < w8b.heap.size := (unhide F0b).lt; have G0 := hide ((unhide F0b).later l9); have HG := hide (bl_t (unhide HFb) l9))
    | (with_reducible refine w_put _ _ rfl rfl w8b.heap.size k rfl b rfl _ (unhide LTx) b9 ?_; intro w10 b10 o10 l10 z10; have I0 := hide ((unhide G0).of (o10 _ (by omega))); have HI := hide ((unhide HG).trans (l10 _ (by omega))); have hcv := b10.rb.cv qc; rw [List.length_set] at hcv))
  have J2 := hide b10
  have LEN := hide (show ((txt l).set k b).length = (txt l).length from List.length_set)
  have ltg : w8b.heap.size < w10.heap.size := by omega
  generalize hg3 : w8b.heap.size = g3 at *
  clear F0b HFb G0 HG b9 l9 z9 hcv l10 o10 b10 z10 hg3 E0 HE b7 l7 b8 o8 l8 HK nl HTR F0 HF hm sz LTx ltw6 gg
  cases hd : isH b.toNat
  · have hno := no_hlf hd
    have n1 : ¬ (48 ≤ b.toNat ∧ b.toNat ≤ 57) := fun h => by unfold hv at hno; rw [if_pos h] at hno; omega
    have n2 : ¬ (97 ≤ b.toNat ∧ b.toNat ≤ 102) := fun h => by unfold hv at hno; rw [if_neg n1, if_pos h] at hno; omega
    refine (Parse_no _ (by rw [okS_set l (unhide HL) k hk]; exact hd) _).mono ?_
    rintro e w11 ⟨rfl, hb11⟩
    have HJ := hide (bl_t (unhide HI) hb11)
    have ze := eql_b zr zr rfl rfl
    simp only [decide_true] at ze
    have gde := gd_b .eql
    clear hd hno I0 HI J2 LEN hb11 ltg gd
    have hc : b.toNat < 48 ∨ (57 < b.toNat ∧ b.toNat < 97) ∨ 102 < b.toNat := by omega
    clear n1 n2
    rcases hc with hc | hc | hc
    · have c1' : (b.toNat : Int) < 48 := by omega
      have c2' : (b.toNat : Int) < 97 := by omega
      clear hc
      go_wp2_with (first
        | (with_reducible refine w_alloc rfl rfl ?_; intro w12 b12 l12 z12)
        | (with_reducible refine w_build rfl rfl ?_)
        | (with_reducible refine w_store _ _ rfl rfl w11.heap.size rfl zr rfl rfl zr b12 ?_; intro w13 b13 o13 l13 z13; have HF := hide (bl_t (unhide HJ) (l12.trans (l13 _ (Nat.le_refl _)))))
        | (with_reducible refine w_load _ rfl rfl w11.heap.size rfl _ b13 ?_))
      go_ret
      exact ⟨rfl, unhide HF⟩
    · have c1' : (48 : Int) ≤ (b.toNat : Int) := by omega
      have c2' : decide ((b.toNat : Int) ≤ 57) = false := by simp; omega
      have c3' : (b.toNat : Int) < 97 := by omega
      clear hc
      go_wp2_with (first
        | (with_reducible refine w_alloc rfl rfl ?_; intro w12 b12 l12 z12)
        | (with_reducible refine w_build rfl rfl ?_)
        | (with_reducible refine w_store _ _ rfl rfl w11.heap.size rfl zr rfl rfl zr b12 ?_; intro w13 b13 o13 l13 z13; have HF := hide (bl_t (unhide HJ) (l12.trans (l13 _ (Nat.le_refl _)))))
        | (with_reducible refine w_load _ rfl rfl w11.heap.size rfl _ b13 ?_))
      go_ret
      exact ⟨rfl, unhide HF⟩
    · have c1' : (48 : Int) ≤ (b.toNat : Int) := by omega
      have c2' : decide ((b.toNat : Int) ≤ 57) = false := by simp; omega
      have c3' : (97 : Int) ≤ (b.toNat : Int) := by omega
      have c4' : decide ((b.toNat : Int) ≤ 102) = false := by simp; omega
      clear hc
      go_wp2_with (first
        | (with_reducible refine w_alloc rfl rfl ?_; intro w12 b12 l12 z12)
        | (with_reducible refine w_build rfl rfl ?_)
        | (with_reducible refine w_store _ _ rfl rfl w11.heap.size rfl zr rfl rfl zr b12 ?_; intro w13 b13 o13 l13 z13; have HF := hide (bl_t (unhide HJ) (l12.trans (l13 _ (Nat.le_refl _)))))
        | (with_reducible refine w_load _ rfl rfl w11.heap.size rfl _ b13 ?_))
      go_ret
      exact ⟨rfl, unhide HF⟩
  · obtain ⟨q, hq⟩ : ∃ q, q = decide (rd ((txt l).set k b) 32 = l) := ⟨_, rfl⟩
    have EQ := hide (fun w => eql_b (rd ((txt l).set k b) 32) l (rd_len _ _) (unhide HL) w)
    rw [← hq] at EQ
    have EB := hide (show ((b.toNat : Int) == ((cd (txt l) k : Nat) : Int)) = q by
      rw [hq, set_same l (unhide HL) k hk b hd, Bool.eq_iff_iff, decide_eq_true_iff, beq_iff_eq]
      omega)
    have TR := hide (txt_rd ((txt l).set k b) (by rw [okS_set l (unhide HL) k hk]; exact hd))
    have IX := hide (fun w => str_ix (txt l) k (by rw [txt_len, unhide HL]; exact hk) w)
    have hc : (48 ≤ b.toNat ∧ b.toNat ≤ 57) ∨ (97 ≤ b.toNat ∧ b.toNat ≤ 102) := by
      have := (hlf_of hd).2.1
      unfold hv at this
      by_cases h1 : 48 ≤ b.toNat ∧ b.toNat ≤ 57
      · exact Or.inl h1
      · by_cases h2 : 97 ≤ b.toNat ∧ b.toNat ≤ 102
        · exact Or.inr h2
        · rw [if_neg h1, if_neg h2] at this; exact absurd rfl this
    refine (Parse_ok _ (by rw [okS_set l (unhide HL) k hk]; exact hd) _).mono ?_
    rintro e w11 ⟨rfl, hb11⟩
    have K0 := hide ((unhide I0).later hb11)
    have K2 := hide ((unhide J2).of (hb11.block _ ltg))
    have HJ0 := hide (bl_t (unhide HI) hb11)
    have lt0 : w.heap.size < w11.heap.size := (unhide K0).lt
    have lt3 : g3 < w11.heap.size := Nat.lt_of_lt_of_le ltg hb11.size
    clear hd hq I0 HI J2 hb11 ltg gd
    rcases hc with ⟨c1, c2⟩ | ⟨c1, c2⟩
    · have c1' : (48 : Int) ≤ (b.toNat : Int) := by omega
      have c2' : (b.toNat : Int) ≤ 57 := by omega
      clear c1 c2
      go_wp2_with (first
        | (with_reducible refine w_alloc rfl rfl ?_; intro w12 b12 l12 z12)
        | (with_reducible refine w_store _ _ rfl rfl w11.heap.size rfl (rd ((txt l).set k b) 32) rfl (rd_len _ _) zr b12 ?_; intro w13 b13 o13 l13 z13))
      have J0 := hide (((unhide K0).later l12).of (o13 _ (by omega)))
      have J1 := hide b13
      have J2 := hide (((unhide K2).of (l12.block _ lt3)).of (o13 _ (by omega)))
      have HJ := hide (bl_t (unhide HJ0) (l12.trans (l13 _ (Nat.le_refl _))))
      have LT3 := hide (show g3 < w13.heap.size by omega)
      clear K0 K2 HJ0 b12 l12 z12 b13 o13 l13 z13 lt0 lt3
      refine wp_region_held_drew (S := fun w' => Bk w' w.heap.size l ∧ Bk w' w11.heap.size (rd ((txt l).set k b) 32) ∧ Sl w' g3 ((txt l).set k b)) (by kernel_rfl) ?_ (fun hHeld => ?_)
      · exact ⟨(unhide J0).of rfl, (unhide J1).of rfl, (unhide J2).of rfl⟩
      refine wpAnyH_take (i := 0) (oi := { dst := some 105, op := Op.move (Operand.tmp 17), type := 24, pos := "law.go:202", after := #[], guard := none }) (v := ?_) rfl (by kernel_rfl) (by kernel_rfl) (by kernel_rfl) (fun _ _ _ h => h) (Or.inl ⟨by rfl, ?_⟩) (by assumption) ?_
      rotate_left
      · intro w hSw; (try dsimp only at hSw); go_simp; (try with_reducible rfl)
      try simp only [Act.put, List.setIfInBounds_toArray, List.set_cons_zero, List.set_cons_succ]
      refine wpAnyH_take (i := 1) (oi := { dst := some 106, op := Op.binOp BinOp.eql 24 (Operand.tmp 105) (Operand.const (Value.int IntKind.i64 0)) 24, type := 4, pos := "law.go:202", after := #[{ on := 0, ground := Ground.data }], guard := none }) (v := .bool true) rfl (by kernel_rfl) (by kernel_rfl) (by kernel_rfl) (fun _ _ _ h => h) (Or.inl ⟨by rfl, by intro w hSw; go_simp⟩) (by assumption) ?_
      try simp only [Act.put, List.setIfInBounds_toArray, List.set_cons_zero, List.set_cons_succ]
      refine wpAnyH_take (i := 2) (oi := { dst := some 107, op := Op.move (Operand.tmp 106), type := 4, pos := "law.go:202", after := #[{ on := 1, ground := Ground.data }], guard := none }) (v := ?_) rfl (by kernel_rfl) (by kernel_rfl) (by kernel_rfl) (fun _ _ _ h => h) (Or.inl ⟨by rfl, ?_⟩) (by assumption) ?_
      rotate_left
      · intro w hSw; (try dsimp only at hSw); go_simp; (try with_reducible rfl)
      try simp only [Act.put, List.setIfInBounds_toArray, List.set_cons_zero, List.set_cons_succ]
      refine wpAnyH_take (i := 3) (oi := { dst := some 108, op := Op.load 22 (Operand.tmp 16), type := 22, pos := "law.go:202", after := #[{ on := 2, ground := Ground.guard }], guard := some (2, true) }) (v := agB (rd ((txt l).set k b) 32)) rfl (by kernel_rfl) (by kernel_rfl) (by kernel_rfl) (fun _ _ _ h => h) (Or.inl ⟨by rfl, by intro w hSw; exact ex_load rfl rfl hSw.2.1⟩) (by assumption) ?_
      try simp only [Act.put, List.setIfInBounds_toArray, List.set_cons_zero, List.set_cons_succ]
      refine wpAnyH_take (i := 4) (oi := { dst := some 109, op := Op.load 22 (Operand.tmp 4), type := 22, pos := "law.go:202", after := #[{ on := 2, ground := Ground.guard }], guard := some (2, true) }) (v := agB l) rfl (by kernel_rfl) (by kernel_rfl) (by kernel_rfl) (fun _ _ _ h => h) (Or.inl ⟨by rfl, by intro w hSw; exact ex_load rfl rfl hSw.1⟩) (by assumption) ?_
      try simp only [Act.put, List.setIfInBounds_toArray, List.set_cons_zero, List.set_cons_succ]
      refine wpAnyH_take (i := 5) (oi := { dst := some 110, op := Op.binOp BinOp.eql 22 (Operand.tmp 108) (Operand.tmp 109) 22, type := 4, pos := "law.go:202", after := #[{ on := 3, ground := Ground.data }, { on := 4, ground := Ground.data }, { on := 2, ground := Ground.guard }], guard := some (2, true) }) (v := .bool q) rfl (by kernel_rfl) (by kernel_rfl) (by kernel_rfl) (fun _ _ _ h => h) (Or.inl ⟨by rfl, by intro w hSw; have g1 := gd_b .eql; have g2 := unhide EQ w; go_simp⟩) (by assumption) ?_
      try simp only [Act.put, List.setIfInBounds_toArray, List.set_cons_zero, List.set_cons_succ]
      refine wpAnyH_take (i := 6) (oi := { dst := some 111, op := Op.move (Operand.tmp 3), type := 5, pos := "law.go:202", after := #[{ on := 2, ground := Ground.guard }], guard := some (2, true) }) (v := ?_) rfl (by kernel_rfl) (by kernel_rfl) (by kernel_rfl) (fun _ _ _ h => h) (Or.inl ⟨by rfl, ?_⟩) (by assumption) ?_
      rotate_left
      · intro w hSw; (try dsimp only at hSw); go_simp; (try with_reducible rfl)
      try simp only [Act.put, List.setIfInBounds_toArray, List.set_cons_zero, List.set_cons_succ]
      refine wpAnyH_take (i := 7) (oi := { dst := some 112, op := Op.move (Operand.tmp 9), type := 9, pos := "law.go:202", after := #[{ on := 2, ground := Ground.guard }], guard := some (2, true) }) (v := ?_) rfl (by kernel_rfl) (by kernel_rfl) (by kernel_rfl) (fun _ _ _ h => h) (Or.inl ⟨by rfl, ?_⟩) (by assumption) ?_
      rotate_left
      · intro w hSw; (try dsimp only at hSw); go_simp; (try with_reducible rfl)
      try simp only [Act.put, List.setIfInBounds_toArray, List.set_cons_zero, List.set_cons_succ]
      refine wpAnyH_take (i := 8) (oi := { dst := some 113, op := Op.move (Operand.tmp 14), type := 3, pos := "law.go:202", after := #[{ on := 2, ground := Ground.guard }], guard := some (2, true) }) (v := ?_) rfl (by kernel_rfl) (by kernel_rfl) (by kernel_rfl) (fun _ _ _ h => h) (Or.inl ⟨by rfl, ?_⟩) (by assumption) ?_
      rotate_left
      · intro w hSw; (try dsimp only at hSw); go_simp; (try with_reducible rfl)
      try simp only [Act.put, List.setIfInBounds_toArray, List.set_cons_zero, List.set_cons_succ]
      refine wpAnyH_take (i := 9) (oi := { dst := some 114, op := Op.index 9 (Operand.tmp 112) (Operand.tmp 113), type := 5, pos := "law.go:202", after := #[{ on := 7, ground := Ground.data }, { on := 8, ground := Ground.data }, { on := 2, ground := Ground.guard }], guard := some (2, true) }) (v := .int .u8 ((cd (txt l) k : Nat) : Int)) rfl (by kernel_rfl) (by kernel_rfl) (by kernel_rfl) (fun _ _ _ h => h) (Or.inl ⟨by rfl, by intro w hSw; have g2 := unhide IX w; go_simp⟩) (by assumption) ?_
      try simp only [Act.put, List.setIfInBounds_toArray, List.set_cons_zero, List.set_cons_succ]
      refine wpAnyH_take (i := 10) (oi := { dst := some 115, op := Op.binOp BinOp.eql 5 (Operand.tmp 111) (Operand.tmp 114) 5, type := 4, pos := "law.go:202", after := #[{ on := 6, ground := Ground.data }, { on := 9, ground := Ground.data }, { on := 2, ground := Ground.guard }], guard := some (2, true) }) (v := .bool q) rfl (by kernel_rfl) (by kernel_rfl) (by kernel_rfl) (fun _ _ _ h => h) (Or.inl ⟨by rfl, by intro w hSw; have g2 := unhide EB; go_simp⟩) (by assumption) ?_
      try simp only [Act.put, List.setIfInBounds_toArray, List.set_cons_zero, List.set_cons_succ]
      refine wpAnyH_take (i := 11) (oi := { dst := some 116, op := Op.binOp BinOp.eql 4 (Operand.tmp 110) (Operand.tmp 115) 4, type := 4, pos := "law.go:202", after := #[{ on := 5, ground := Ground.data }, { on := 10, ground := Ground.data }, { on := 2, ground := Ground.guard }], guard := some (2, true) }) (v := .bool true) rfl (by kernel_rfl) (by kernel_rfl) (by kernel_rfl) (fun _ _ _ h => h) (Or.inl ⟨by rfl, by intro w hSw; cases q <;> go_simp⟩) (by assumption) ?_
      try simp only [Act.put, List.setIfInBounds_toArray, List.set_cons_zero, List.set_cons_succ]
      refine wpAnyH_take (i := 12) (oi := { dst := some 117, op := Op.pick (Operand.tmp 107) (Operand.tmp 116) (Operand.const (Value.bool false)), type := 4, pos := "law.go:202", after := #[{ on := 2, ground := Ground.data }, { on := 11, ground := Ground.data }], guard := none }) (v := .bool true) rfl (by kernel_rfl) (by kernel_rfl) (by kernel_rfl) (fun _ _ _ h => h) (Or.inl ⟨by rfl, by intro w hSw; go_simp⟩) (by assumption) ?_
      try simp only [Act.put, List.setIfInBounds_toArray, List.set_cons_zero, List.set_cons_succ]
      refine wpAnyH_take (i := 13) (oi := { dst := some 118, op := Op.move (Operand.tmp 117), type := 4, pos := "law.go:202", after := #[{ on := 12, ground := Ground.data }, { on := 2, ground := Ground.chain }], guard := none }) (v := ?_) rfl (by kernel_rfl) (by kernel_rfl) (by kernel_rfl) (fun _ _ _ h => h) (Or.inl ⟨by rfl, ?_⟩) (by assumption) ?_
      rotate_left
      · intro w hSw; (try dsimp only at hSw); go_simp; (try with_reducible rfl)
      try simp only [Act.put, List.setIfInBounds_toArray, List.set_cons_zero, List.set_cons_succ]
      refine wpAnyH_take (i := 14) (oi := { dst := some 119, op := Op.load 22 (Operand.tmp 16), type := 22, pos := "law.go:202", after := #[{ on := 13, ground := Ground.guard }], guard := some (13, true) }) (v := agB (rd ((txt l).set k b) 32)) rfl (by kernel_rfl) (by kernel_rfl) (by kernel_rfl) (fun _ _ _ h => h) (Or.inl ⟨by rfl, by intro w hSw; exact ex_load rfl rfl hSw.2.1⟩) (by assumption) ?_
      try simp only [Act.put, List.setIfInBounds_toArray, List.set_cons_zero, List.set_cons_succ]
      refine wpAnyH_take (i := 16) (oi := { dst := some 121, op := Op.move (Operand.tmp 15), type := 27, pos := "law.go:202", after := #[{ on := 13, ground := Ground.guard }], guard := some (13, true) }) (v := ?_) rfl (by kernel_rfl) (by kernel_rfl) (by kernel_rfl) (fun _ _ _ h => h) (Or.inl ⟨by rfl, ?_⟩) (by assumption) ?_
      rotate_left
      · intro w hSw; (try dsimp only at hSw); go_simp; (try with_reducible rfl)
      try simp only [Act.put, List.setIfInBounds_toArray, List.set_cons_zero, List.set_cons_succ]
      refine wpAnyH_take (i := 17) (oi := { dst := some 122, op := Op.convert 27 9 (Operand.tmp 121), type := 9, pos := "law.go:202", after := #[{ on := 16, ground := Ground.data }, { on := 13, ground := Ground.guard }], guard := some (13, true) }) (v := .string (ba ((txt l).set k b))) rfl (by kernel_rfl) (by kernel_rfl) (by kernel_rfl) (fun _ _ _ h => h) (Or.inl ⟨by rfl, by intro w hSw; have g2 := hSw.2.2.rb.cv qc; rw [unhide LEN] at g2; go_simp⟩) (by assumption) ?_
      try simp only [Act.put, List.setIfInBounds_toArray, List.set_cons_zero, List.set_cons_succ]
      refine wpAnyH_ready (rs := [15]) (by kernel_rfl) (by simp) ?_
      refine AllReadyH.cons (o := { dst := some 120, op := Op.call { callee := Callee.value (Operand.func 5), args := #[Operand.tmp 119], argTypes := #[22] }, type := 9, pos := "law.go:202", after := #[{ on := 14, ground := Ground.data }, { on := 13, ground := Ground.chain }, { on := 13, ground := Ground.guard }], guard := some (13, true) }) rfl (fun K hK => ?_) AllReadyH.nil
      go_simp
      refine (Text_any _ (rd_len _ _) _).mono ?_
      rintro e wa ⟨rfl, hba⟩
      rw [unhide TR]
      go_wp2_with fail
      refine hK.out _ _ ⟨hHeld.1.later hba, hHeld.2.1.later hba, hHeld.2.2.of (hba.block _ (unhide LT3))⟩ (fun hHeld2 => ?_)
      clear hK K hHeld
      have hHeld := hHeld2
      clear hHeld2
      have HX := hide (bl_t ((unhide HJ).drew) hba)
      clear hba
      try simp only [Act.put, List.setIfInBounds_toArray, List.set_cons_zero, List.set_cons_succ]
      refine wpAnyH_take (i := 18) (oi := { dst := some 123, op := Op.binOp BinOp.eql 9 (Operand.tmp 120) (Operand.tmp 122) 9, type := 4, pos := "law.go:202", after := #[{ on := 15, ground := Ground.data }, { on := 17, ground := Ground.data }, { on := 13, ground := Ground.guard }], guard := some (13, true) }) (v := .bool true) rfl (by kernel_rfl) (by kernel_rfl) (by kernel_rfl) (fun _ _ _ h => h) (Or.inl ⟨by rfl, by intro w hSw; go_simp⟩) (by assumption) ?_
      try simp only [Act.put, List.setIfInBounds_toArray, List.set_cons_zero, List.set_cons_succ]
      refine wpAnyH_take (i := 19) (oi := { dst := some 124, op := Op.pick (Operand.tmp 118) (Operand.tmp 123) (Operand.const (Value.bool false)), type := 4, pos := "law.go:202", after := #[{ on := 13, ground := Ground.data }, { on := 18, ground := Ground.data }], guard := none }) (v := .bool true) rfl (by kernel_rfl) (by kernel_rfl) (by kernel_rfl) (fun _ _ _ h => h) (Or.inl ⟨by rfl, by intro w hSw; go_simp⟩) (by assumption) ?_
      try simp only [Act.put, List.setIfInBounds_toArray, List.set_cons_zero, List.set_cons_succ]
      refine wpAnyH_take (i := 20) (oi := { dst := some 8, op := Op.assign (Operand.tmp 124), type := 4, pos := "law.go:202", after := #[{ on := 19, ground := Ground.data }, { on := 15, ground := Ground.chain }, { on := 0, ground := Ground.phase }, { on := 1, ground := Ground.phase }, { on := 2, ground := Ground.phase }, { on := 3, ground := Ground.phase }, { on := 4, ground := Ground.phase }, { on := 5, ground := Ground.phase }, { on := 6, ground := Ground.phase }, { on := 7, ground := Ground.phase }, { on := 8, ground := Ground.phase }, { on := 9, ground := Ground.phase }, { on := 10, ground := Ground.phase }, { on := 11, ground := Ground.phase }, { on := 12, ground := Ground.phase }, { on := 13, ground := Ground.phase }, { on := 14, ground := Ground.phase }, { on := 15, ground := Ground.phase }, { on := 16, ground := Ground.phase }, { on := 17, ground := Ground.phase }, { on := 18, ground := Ground.phase }, { on := 19, ground := Ground.phase }], guard := none }) (v := ?_) rfl (by kernel_rfl) (by kernel_rfl) (by kernel_rfl) (fun _ _ _ h => h) (Or.inl ⟨by rfl, ?_⟩) (by assumption) ?_
      rotate_left
      · intro w hSw; (try dsimp only at hSw); go_simp; (try with_reducible rfl)
      try simp only [Act.put, List.setIfInBounds_toArray, List.set_cons_zero, List.set_cons_succ]
      refine wpAnyH_done (by kernel_rfl) ?_ _
      go_wp2
      go_ret
      exact ⟨rfl, unhide HX⟩
    · have c1' : (97 : Int) ≤ (b.toNat : Int) := by omega
      have c2' : (b.toNat : Int) ≤ 102 := by omega
      have c3' : ¬ (b.toNat : Int) ≤ 57 := by omega
      have c4' : (48 : Int) ≤ (b.toNat : Int) := by omega
      clear c1 c2
      go_wp2_with (first
        | (with_reducible refine w_alloc rfl rfl ?_; intro w12 b12 l12 z12)
        | (with_reducible refine w_store _ _ rfl rfl w11.heap.size rfl (rd ((txt l).set k b) 32) rfl (rd_len _ _) zr b12 ?_; intro w13 b13 o13 l13 z13))
      have J0 := hide (((unhide K0).later l12).of (o13 _ (by omega)))
      have J1 := hide b13
      have J2 := hide (((unhide K2).of (l12.block _ lt3)).of (o13 _ (by omega)))
      have HJ := hide (bl_t (unhide HJ0) (l12.trans (l13 _ (Nat.le_refl _))))
      have LT3 := hide (show g3 < w13.heap.size by omega)
      clear K0 K2 HJ0 b12 l12 z12 b13 o13 l13 z13 lt0 lt3
      refine wp_region_held_drew (S := fun w' => Bk w' w.heap.size l ∧ Bk w' w11.heap.size (rd ((txt l).set k b) 32) ∧ Sl w' g3 ((txt l).set k b)) (by kernel_rfl) ?_ (fun hHeld => ?_)
      · exact ⟨(unhide J0).of rfl, (unhide J1).of rfl, (unhide J2).of rfl⟩
      refine wpAnyH_take (i := 0) (oi := { dst := some 105, op := Op.move (Operand.tmp 17), type := 24, pos := "law.go:202", after := #[], guard := none }) (v := ?_) rfl (by kernel_rfl) (by kernel_rfl) (by kernel_rfl) (fun _ _ _ h => h) (Or.inl ⟨by rfl, ?_⟩) (by assumption) ?_
      rotate_left
      · intro w hSw; (try dsimp only at hSw); go_simp; (try with_reducible rfl)
      try simp only [Act.put, List.setIfInBounds_toArray, List.set_cons_zero, List.set_cons_succ]
      refine wpAnyH_take (i := 1) (oi := { dst := some 106, op := Op.binOp BinOp.eql 24 (Operand.tmp 105) (Operand.const (Value.int IntKind.i64 0)) 24, type := 4, pos := "law.go:202", after := #[{ on := 0, ground := Ground.data }], guard := none }) (v := .bool true) rfl (by kernel_rfl) (by kernel_rfl) (by kernel_rfl) (fun _ _ _ h => h) (Or.inl ⟨by rfl, by intro w hSw; go_simp⟩) (by assumption) ?_
      try simp only [Act.put, List.setIfInBounds_toArray, List.set_cons_zero, List.set_cons_succ]
      refine wpAnyH_take (i := 2) (oi := { dst := some 107, op := Op.move (Operand.tmp 106), type := 4, pos := "law.go:202", after := #[{ on := 1, ground := Ground.data }], guard := none }) (v := ?_) rfl (by kernel_rfl) (by kernel_rfl) (by kernel_rfl) (fun _ _ _ h => h) (Or.inl ⟨by rfl, ?_⟩) (by assumption) ?_
      rotate_left
      · intro w hSw; (try dsimp only at hSw); go_simp; (try with_reducible rfl)
      try simp only [Act.put, List.setIfInBounds_toArray, List.set_cons_zero, List.set_cons_succ]
      refine wpAnyH_take (i := 3) (oi := { dst := some 108, op := Op.load 22 (Operand.tmp 16), type := 22, pos := "law.go:202", after := #[{ on := 2, ground := Ground.guard }], guard := some (2, true) }) (v := agB (rd ((txt l).set k b) 32)) rfl (by kernel_rfl) (by kernel_rfl) (by kernel_rfl) (fun _ _ _ h => h) (Or.inl ⟨by rfl, by intro w hSw; exact ex_load rfl rfl hSw.2.1⟩) (by assumption) ?_
      try simp only [Act.put, List.setIfInBounds_toArray, List.set_cons_zero, List.set_cons_succ]
      refine wpAnyH_take (i := 4) (oi := { dst := some 109, op := Op.load 22 (Operand.tmp 4), type := 22, pos := "law.go:202", after := #[{ on := 2, ground := Ground.guard }], guard := some (2, true) }) (v := agB l) rfl (by kernel_rfl) (by kernel_rfl) (by kernel_rfl) (fun _ _ _ h => h) (Or.inl ⟨by rfl, by intro w hSw; exact ex_load rfl rfl hSw.1⟩) (by assumption) ?_
      try simp only [Act.put, List.setIfInBounds_toArray, List.set_cons_zero, List.set_cons_succ]
      refine wpAnyH_take (i := 5) (oi := { dst := some 110, op := Op.binOp BinOp.eql 22 (Operand.tmp 108) (Operand.tmp 109) 22, type := 4, pos := "law.go:202", after := #[{ on := 3, ground := Ground.data }, { on := 4, ground := Ground.data }, { on := 2, ground := Ground.guard }], guard := some (2, true) }) (v := .bool q) rfl (by kernel_rfl) (by kernel_rfl) (by kernel_rfl) (fun _ _ _ h => h) (Or.inl ⟨by rfl, by intro w hSw; have g1 := gd_b .eql; have g2 := unhide EQ w; go_simp⟩) (by assumption) ?_
      try simp only [Act.put, List.setIfInBounds_toArray, List.set_cons_zero, List.set_cons_succ]
      refine wpAnyH_take (i := 6) (oi := { dst := some 111, op := Op.move (Operand.tmp 3), type := 5, pos := "law.go:202", after := #[{ on := 2, ground := Ground.guard }], guard := some (2, true) }) (v := ?_) rfl (by kernel_rfl) (by kernel_rfl) (by kernel_rfl) (fun _ _ _ h => h) (Or.inl ⟨by rfl, ?_⟩) (by assumption) ?_
      rotate_left
      · intro w hSw; (try dsimp only at hSw); go_simp; (try with_reducible rfl)
      try simp only [Act.put, List.setIfInBounds_toArray, List.set_cons_zero, List.set_cons_succ]
      refine wpAnyH_take (i := 7) (oi := { dst := some 112, op := Op.move (Operand.tmp 9), type := 9, pos := "law.go:202", after := #[{ on := 2, ground := Ground.guard }], guard := some (2, true) }) (v := ?_) rfl (by kernel_rfl) (by kernel_rfl) (by kernel_rfl) (fun _ _ _ h => h) (Or.inl ⟨by rfl, ?_⟩) (by assumption) ?_
      rotate_left
      · intro w hSw; (try dsimp only at hSw); go_simp; (try with_reducible rfl)
      try simp only [Act.put, List.setIfInBounds_toArray, List.set_cons_zero, List.set_cons_succ]
      refine wpAnyH_take (i := 8) (oi := { dst := some 113, op := Op.move (Operand.tmp 14), type := 3, pos := "law.go:202", after := #[{ on := 2, ground := Ground.guard }], guard := some (2, true) }) (v := ?_) rfl (by kernel_rfl) (by kernel_rfl) (by kernel_rfl) (fun _ _ _ h => h) (Or.inl ⟨by rfl, ?_⟩) (by assumption) ?_
      rotate_left
      · intro w hSw; (try dsimp only at hSw); go_simp; (try with_reducible rfl)
      try simp only [Act.put, List.setIfInBounds_toArray, List.set_cons_zero, List.set_cons_succ]
      refine wpAnyH_take (i := 9) (oi := { dst := some 114, op := Op.index 9 (Operand.tmp 112) (Operand.tmp 113), type := 5, pos := "law.go:202", after := #[{ on := 7, ground := Ground.data }, { on := 8, ground := Ground.data }, { on := 2, ground := Ground.guard }], guard := some (2, true) }) (v := .int .u8 ((cd (txt l) k : Nat) : Int)) rfl (by kernel_rfl) (by kernel_rfl) (by kernel_rfl) (fun _ _ _ h => h) (Or.inl ⟨by rfl, by intro w hSw; have g2 := unhide IX w; go_simp⟩) (by assumption) ?_
      try simp only [Act.put, List.setIfInBounds_toArray, List.set_cons_zero, List.set_cons_succ]
      refine wpAnyH_take (i := 10) (oi := { dst := some 115, op := Op.binOp BinOp.eql 5 (Operand.tmp 111) (Operand.tmp 114) 5, type := 4, pos := "law.go:202", after := #[{ on := 6, ground := Ground.data }, { on := 9, ground := Ground.data }, { on := 2, ground := Ground.guard }], guard := some (2, true) }) (v := .bool q) rfl (by kernel_rfl) (by kernel_rfl) (by kernel_rfl) (fun _ _ _ h => h) (Or.inl ⟨by rfl, by intro w hSw; have g2 := unhide EB; go_simp⟩) (by assumption) ?_
      try simp only [Act.put, List.setIfInBounds_toArray, List.set_cons_zero, List.set_cons_succ]
      refine wpAnyH_take (i := 11) (oi := { dst := some 116, op := Op.binOp BinOp.eql 4 (Operand.tmp 110) (Operand.tmp 115) 4, type := 4, pos := "law.go:202", after := #[{ on := 5, ground := Ground.data }, { on := 10, ground := Ground.data }, { on := 2, ground := Ground.guard }], guard := some (2, true) }) (v := .bool true) rfl (by kernel_rfl) (by kernel_rfl) (by kernel_rfl) (fun _ _ _ h => h) (Or.inl ⟨by rfl, by intro w hSw; cases q <;> go_simp⟩) (by assumption) ?_
      try simp only [Act.put, List.setIfInBounds_toArray, List.set_cons_zero, List.set_cons_succ]
      refine wpAnyH_take (i := 12) (oi := { dst := some 117, op := Op.pick (Operand.tmp 107) (Operand.tmp 116) (Operand.const (Value.bool false)), type := 4, pos := "law.go:202", after := #[{ on := 2, ground := Ground.data }, { on := 11, ground := Ground.data }], guard := none }) (v := .bool true) rfl (by kernel_rfl) (by kernel_rfl) (by kernel_rfl) (fun _ _ _ h => h) (Or.inl ⟨by rfl, by intro w hSw; go_simp⟩) (by assumption) ?_
      try simp only [Act.put, List.setIfInBounds_toArray, List.set_cons_zero, List.set_cons_succ]
      refine wpAnyH_take (i := 13) (oi := { dst := some 118, op := Op.move (Operand.tmp 117), type := 4, pos := "law.go:202", after := #[{ on := 12, ground := Ground.data }, { on := 2, ground := Ground.chain }], guard := none }) (v := ?_) rfl (by kernel_rfl) (by kernel_rfl) (by kernel_rfl) (fun _ _ _ h => h) (Or.inl ⟨by rfl, ?_⟩) (by assumption) ?_
      rotate_left
      · intro w hSw; (try dsimp only at hSw); go_simp; (try with_reducible rfl)
      try simp only [Act.put, List.setIfInBounds_toArray, List.set_cons_zero, List.set_cons_succ]
      refine wpAnyH_take (i := 14) (oi := { dst := some 119, op := Op.load 22 (Operand.tmp 16), type := 22, pos := "law.go:202", after := #[{ on := 13, ground := Ground.guard }], guard := some (13, true) }) (v := agB (rd ((txt l).set k b) 32)) rfl (by kernel_rfl) (by kernel_rfl) (by kernel_rfl) (fun _ _ _ h => h) (Or.inl ⟨by rfl, by intro w hSw; exact ex_load rfl rfl hSw.2.1⟩) (by assumption) ?_
      try simp only [Act.put, List.setIfInBounds_toArray, List.set_cons_zero, List.set_cons_succ]
      refine wpAnyH_take (i := 16) (oi := { dst := some 121, op := Op.move (Operand.tmp 15), type := 27, pos := "law.go:202", after := #[{ on := 13, ground := Ground.guard }], guard := some (13, true) }) (v := ?_) rfl (by kernel_rfl) (by kernel_rfl) (by kernel_rfl) (fun _ _ _ h => h) (Or.inl ⟨by rfl, ?_⟩) (by assumption) ?_
      rotate_left
      · intro w hSw; (try dsimp only at hSw); go_simp; (try with_reducible rfl)
      try simp only [Act.put, List.setIfInBounds_toArray, List.set_cons_zero, List.set_cons_succ]
      refine wpAnyH_take (i := 17) (oi := { dst := some 122, op := Op.convert 27 9 (Operand.tmp 121), type := 9, pos := "law.go:202", after := #[{ on := 16, ground := Ground.data }, { on := 13, ground := Ground.guard }], guard := some (13, true) }) (v := .string (ba ((txt l).set k b))) rfl (by kernel_rfl) (by kernel_rfl) (by kernel_rfl) (fun _ _ _ h => h) (Or.inl ⟨by rfl, by intro w hSw; have g2 := hSw.2.2.rb.cv qc; rw [unhide LEN] at g2; go_simp⟩) (by assumption) ?_
      try simp only [Act.put, List.setIfInBounds_toArray, List.set_cons_zero, List.set_cons_succ]
      refine wpAnyH_ready (rs := [15]) (by kernel_rfl) (by simp) ?_
      refine AllReadyH.cons (o := { dst := some 120, op := Op.call { callee := Callee.value (Operand.func 5), args := #[Operand.tmp 119], argTypes := #[22] }, type := 9, pos := "law.go:202", after := #[{ on := 14, ground := Ground.data }, { on := 13, ground := Ground.chain }, { on := 13, ground := Ground.guard }], guard := some (13, true) }) rfl (fun K hK => ?_) AllReadyH.nil
      go_simp
      refine (Text_any _ (rd_len _ _) _).mono ?_
      rintro e wa ⟨rfl, hba⟩
      rw [unhide TR]
      go_wp2_with fail
      refine hK.out _ _ ⟨hHeld.1.later hba, hHeld.2.1.later hba, hHeld.2.2.of (hba.block _ (unhide LT3))⟩ (fun hHeld2 => ?_)
      clear hK K hHeld
      have hHeld := hHeld2
      clear hHeld2
      have HX := hide (bl_t ((unhide HJ).drew) hba)
      clear hba
      try simp only [Act.put, List.setIfInBounds_toArray, List.set_cons_zero, List.set_cons_succ]
      refine wpAnyH_take (i := 18) (oi := { dst := some 123, op := Op.binOp BinOp.eql 9 (Operand.tmp 120) (Operand.tmp 122) 9, type := 4, pos := "law.go:202", after := #[{ on := 15, ground := Ground.data }, { on := 17, ground := Ground.data }, { on := 13, ground := Ground.guard }], guard := some (13, true) }) (v := .bool true) rfl (by kernel_rfl) (by kernel_rfl) (by kernel_rfl) (fun _ _ _ h => h) (Or.inl ⟨by rfl, by intro w hSw; go_simp⟩) (by assumption) ?_
      try simp only [Act.put, List.setIfInBounds_toArray, List.set_cons_zero, List.set_cons_succ]
      refine wpAnyH_take (i := 19) (oi := { dst := some 124, op := Op.pick (Operand.tmp 118) (Operand.tmp 123) (Operand.const (Value.bool false)), type := 4, pos := "law.go:202", after := #[{ on := 13, ground := Ground.data }, { on := 18, ground := Ground.data }], guard := none }) (v := .bool true) rfl (by kernel_rfl) (by kernel_rfl) (by kernel_rfl) (fun _ _ _ h => h) (Or.inl ⟨by rfl, by intro w hSw; go_simp⟩) (by assumption) ?_
      try simp only [Act.put, List.setIfInBounds_toArray, List.set_cons_zero, List.set_cons_succ]
      refine wpAnyH_take (i := 20) (oi := { dst := some 8, op := Op.assign (Operand.tmp 124), type := 4, pos := "law.go:202", after := #[{ on := 19, ground := Ground.data }, { on := 15, ground := Ground.chain }, { on := 0, ground := Ground.phase }, { on := 1, ground := Ground.phase }, { on := 2, ground := Ground.phase }, { on := 3, ground := Ground.phase }, { on := 4, ground := Ground.phase }, { on := 5, ground := Ground.phase }, { on := 6, ground := Ground.phase }, { on := 7, ground := Ground.phase }, { on := 8, ground := Ground.phase }, { on := 9, ground := Ground.phase }, { on := 10, ground := Ground.phase }, { on := 11, ground := Ground.phase }, { on := 12, ground := Ground.phase }, { on := 13, ground := Ground.phase }, { on := 14, ground := Ground.phase }, { on := 15, ground := Ground.phase }, { on := 16, ground := Ground.phase }, { on := 17, ground := Ground.phase }, { on := 18, ground := Ground.phase }, { on := 19, ground := Ground.phase }], guard := none }) (v := ?_) rfl (by kernel_rfl) (by kernel_rfl) (by kernel_rfl) (fun _ _ _ h => h) (Or.inl ⟨by rfl, ?_⟩) (by assumption) ?_
      rotate_left
      · intro w hSw; (try dsimp only at hSw); go_simp; (try with_reducible rfl)
      try simp only [Act.put, List.setIfInBounds_toArray, List.set_cons_zero, List.set_cons_succ]
      refine wpAnyH_done (by kernel_rfl) ?_ _
      go_wp2
      go_ret
      exact ⟨rfl, unhide HX⟩

end Go.Proofs.Ytijpcmplbpknlaa
