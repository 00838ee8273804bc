import Derived.Test.YtijpcmplbpknlaaShE
namespace Go.Proofs.Ytijpcmplbpknlaa
open Go.RowKit

theorem wr16 : ∀ n < 256, IntKind.u8.wrap (((n : Nat) : Int) / 16) = ((n / 16 : Nat) : Int) := by decide +kernel

set_option maxRecDepth 100000 in
set_option maxHeartbeats 2000000 in
theorem rText_any (l : Bs) (hl : l.length = 32) (w : World) :
    Calls Try.prog 9 #[agB l] w fun e w' => e = .returned (.string (ba (txt l))) ∧ Below w.heap.size w w' := by
  obtain ⟨i0, hi, hz0, hz1, hz2⟩ := info_parts info5
  go_enter Try.func9, Try.ntmps9
  go_wp2_with (first
    | (with_reducible refine w_box l hl _ rfl rfl rfl ?_; intro w1 b1 l1 z1))
  go_loopw [3, 4] (fun lv iv wr => ∃ (k : Nat) (qa : Option Addr) (qc : Nat), k ≤ 32 ∧ iv = .int .i64 k ∧ lv = .slice qa (2 * k) qc ∧ Hid (wr.ownsRow (w.heap.size + 1) 5 1 (.slice qa (2 * k) qc) (2 * k) (encB (txt (l.take k)))) ∧ Hid (Bk wr w.heap.size l) ∧ Hid (Below w.heap.size w wr)) (fun _ iv _ => 32 - (intOf iv).toNat)
  case atStart => exact ⟨0, none, 0, Nat.zero_le _, rfl, rfl, hide (World.ownsRow_nil _ _ _ _), hide b1, hide l1⟩
  case round =>
    obtain ⟨k, qa, qc, hk, rfl, rfl, HO, BK, HB⟩ := hrel
    have hz : w.heap.size < wr.heap.size := (unhide BK).lt
    clear b1 l1 z1
    by_cases hlt : k < 32
    · have hix := ix22 w.heap.size k hlt
      obtain ⟨c, hc⟩ : ∃ c, l[k]?.getD 0 = c := ⟨_, rfl⟩
      have HT := hide (show l.take (k + 1) = l.take k ++ [c] by
        have hk' : k < l.length := by omega
        rw [List.take_succ_eq_append_getElem hk', ← hc, List.getElem?_eq_getElem hk']; rfl)
      have HC := hide hc
      clear hc
      have hcl := c.toNat_lt
      obtain ⟨H, hH⟩ : ∃ H, H = c.toNat / 16 := ⟨_, rfl⟩
      obtain ⟨L, hL⟩ : ∃ L, L = c.toNat % 16 := ⟨_, rfl⟩
      have v2 := hide (show IntKind.u8.wrap ((c.toNat : Int) / 16) = (H : Int) by rw [wr16 _ hcl, hH])
      have v5 := hide (show ((c.toNat : Int) % 16) = (L : Int) by omega)
      have hH16 : H < 16 := by omega
      have hL16 : L < 16 := by omega
      have HT2 := hide (show txt (l.take (k + 1)) = txt (l.take k) ++ [dg H, dg L] by rw [unhide HT, txt_snoc, hH, hL])
      clear hH hL HT hcl
      go_wp2_with fail
      refine wp_region_held_drew (S := fun w' => Bk w' w.heap.size l) (by kernel_rfl) ?_ (fun hHeld => ?_)
      · exact (unhide BK).of rfl
      refine wpAnyH_take (i := 0) (oi := { dst := some 9, op := Op.move (Operand.tmp 3), type := 27, pos := "ref.go:192", after := #[], guard := none }) (v := ?_) rfl (by kernel_rfl) (by kernel_rfl) (by kernel_rfl) (fun _ _ _ h => h) (Or.inl ⟨by rfl, ?_⟩) (by assumption) ?_
      rotate_left
      · intro w hSw; (try dsimp only at hSw); go_simp; (try with_reducible rfl)
      try simp only [Act.put, List.setIfInBounds_toArray, List.set_cons_zero, List.set_cons_succ]
      refine wpAnyH_take (i := 1) (oi := { dst := some 10, op := Op.move (Operand.tmp 4), type := 3, pos := "ref.go:192", after := #[], guard := none }) (v := ?_) rfl (by kernel_rfl) (by kernel_rfl) (by kernel_rfl) (fun _ _ _ h => h) (Or.inl ⟨by rfl, ?_⟩) (by assumption) ?_
      rotate_left
      · intro w hSw; (try dsimp only at hSw); go_simp; (try with_reducible rfl)
      try simp only [Act.put, List.setIfInBounds_toArray, List.set_cons_zero, List.set_cons_succ]
      refine wpAnyH_take (i := 2) (oi := { dst := some 11, op := Op.indexAddr 22 (Operand.tmp 1) (Operand.tmp 10), type := 0, pos := "ref.go:192", after := #[{ on := 1, ground := Ground.data }], guard := none }) (v := ?_) rfl (by kernel_rfl) (by kernel_rfl) (by kernel_rfl) (fun _ _ _ h => h) (Or.inl ⟨by rfl, ?_⟩) (by assumption) ?_
      rotate_left
      · intro w hSw; (try dsimp only at hSw); go_simp; (try with_reducible rfl)
      try simp only [Act.put, List.setIfInBounds_toArray, List.set_cons_zero, List.set_cons_succ]
      refine wpAnyH_take (i := 3) (oi := { dst := some 12, op := Op.load 5 (Operand.tmp 11), type := 5, pos := "ref.go:192", after := #[{ on := 2, ground := Ground.data }], guard := none }) (v := .int .u8 (c.toNat : Int)) rfl (by kernel_rfl) (by kernel_rfl) (by kernel_rfl) (fun _ _ _ h => h) (Or.inl ⟨by rfl, by intro w hSw; have hc := bk_cell hSw k hlt; rw [unhide HC] at hc; unfold pt; go_simp⟩) (by assumption) ?_
      try simp only [Act.put, List.setIfInBounds_toArray, List.set_cons_zero, List.set_cons_succ]
      refine wpAnyH_take (i := 4) (oi := { dst := some 13, op := Op.binOp BinOp.quo 5 (Operand.tmp 12) (Operand.const (Value.int IntKind.u8 16)) 5, type := 5, pos := "ref.go:192", after := #[{ on := 3, ground := Ground.data }], guard := none }) (v := .int .u8 ((H : Nat) : Int)) rfl (by kernel_rfl) (by kernel_rfl) (by kernel_rfl) (fun _ _ _ h => h) (Or.inl ⟨by rfl, by intro w hSw; go_simp; exact unhide v2⟩) (by assumption) ?_
      try simp only [Act.put, List.setIfInBounds_toArray, List.set_cons_zero, List.set_cons_succ]
      refine wpAnyH_take (i := 6) (oi := { dst := some 15, op := Op.move (Operand.tmp 4), type := 3, pos := "ref.go:192", after := #[], guard := none }) (v := ?_) rfl (by kernel_rfl) (by kernel_rfl) (by kernel_rfl) (fun _ _ _ h => h) (Or.inl ⟨by rfl, ?_⟩) (by assumption) ?_
      rotate_left
      · intro w hSw; (try dsimp only at hSw); go_simp; (try with_reducible rfl)
      try simp only [Act.put, List.setIfInBounds_toArray, List.set_cons_zero, List.set_cons_succ]
      refine wpAnyH_take (i := 7) (oi := { dst := some 16, op := Op.indexAddr 22 (Operand.tmp 1) (Operand.tmp 15), type := 0, pos := "ref.go:192", after := #[{ on := 6, ground := Ground.data }], guard := none }) (v := ?_) rfl (by kernel_rfl) (by kernel_rfl) (by kernel_rfl) (fun _ _ _ h => h) (Or.inl ⟨by rfl, ?_⟩) (by assumption) ?_
      rotate_left
      · intro w hSw; (try dsimp only at hSw); go_simp; (try with_reducible rfl)
      try simp only [Act.put, List.setIfInBounds_toArray, List.set_cons_zero, List.set_cons_succ]
      refine wpAnyH_take (i := 8) (oi := { dst := some 17, op := Op.load 5 (Operand.tmp 16), type := 5, pos := "ref.go:192", after := #[{ on := 7, ground := Ground.data }], guard := none }) (v := .int .u8 (c.toNat : Int)) rfl (by kernel_rfl) (by kernel_rfl) (by kernel_rfl) (fun _ _ _ h => h) (Or.inl ⟨by rfl, by intro w hSw; have hc := bk_cell hSw k hlt; rw [unhide HC] at hc; unfold pt; go_simp⟩) (by assumption) ?_
      try simp only [Act.put, List.setIfInBounds_toArray, List.set_cons_zero, List.set_cons_succ]
      refine wpAnyH_take (i := 9) (oi := { dst := some 18, op := Op.binOp BinOp.rem 5 (Operand.tmp 17) (Operand.const (Value.int IntKind.u8 16)) 5, type := 5, pos := "ref.go:192", after := #[{ on := 8, ground := Ground.data }], guard := none }) (v := .int .u8 ((L : Nat) : Int)) rfl (by kernel_rfl) (by kernel_rfl) (by kernel_rfl) (fun _ _ _ h => h) (Or.inl ⟨by rfl, by intro w hSw; go_simp; exact unhide v5⟩) (by assumption) ?_
      try simp only [Act.put, List.setIfInBounds_toArray, List.set_cons_zero, List.set_cons_succ]
      refine wpAnyH_ready (rs := [5]) (by kernel_rfl) (by simp) ?_
      refine AllReadyH.cons (o := { dst := some 14, op := Op.call { callee := Callee.value (Operand.func 12), args := #[Operand.tmp 13], argTypes := #[5] }, type := 5, pos := "ref.go:192", after := #[{ on := 4, ground := Ground.data }], guard := none }) rfl (fun K hK => ?_) AllReadyH.nil
      go_simp
      refine (rdigit_any H (by omega) _).mono ?_
      rintro e w4 ⟨rfl, rfl⟩
      go_wp2_with fail
      refine hK.out _ _ (by assumption) (fun hHeld2 => ?_)
      clear hK K hHeld2
      try simp only [Act.put, List.setIfInBounds_toArray, List.set_cons_zero, List.set_cons_succ]
      refine wpAnyH_ready (rs := [10]) (by kernel_rfl) (by simp) ?_
      refine AllReadyH.cons (o := { dst := some 19, op := Op.call { callee := Callee.value (Operand.func 12), args := #[Operand.tmp 18], argTypes := #[5] }, type := 5, pos := "ref.go:192", after := #[{ on := 9, ground := Ground.data }, { on := 5, ground := Ground.chain }], guard := none }) rfl (fun K hK => ?_) AllReadyH.nil
      go_simp
      refine (rdigit_any L (by omega) _).mono ?_
      rintro e w4 ⟨rfl, rfl⟩
      go_wp2_with fail
      refine hK.out _ _ (by assumption) (fun hHeld2 => ?_)
      clear hK K hHeld2
      try simp only [Act.put, List.setIfInBounds_toArray, List.set_cons_zero, List.set_cons_succ]
      refine wpAnyH_ready (rs := [11]) (by kernel_rfl) (by simp) ?_
      refine AllReadyH.cons (o := { dst := some 20, op := Op.buildSlice 27 2 #[(0, Operand.tmp 14), (1, Operand.tmp 19)], type := 27, pos := "ref.go:192", after := #[{ on := 5, ground := Ground.data }, { on := 10, ground := Ground.data }], guard := none }) rfl (fun K hK => ?_) AllReadyH.nil
      go_simp
      refine hK.out _ _ ((unhide BK).of (Below.heap_alloc _ _ _ hz)) (fun hHeld2 => ?_)
      clear hHeld
      clear hK K
      try simp only [Act.put, List.setIfInBounds_toArray, List.set_cons_zero, List.set_cons_succ]
      refine wpAnyH_ready (rs := [12]) (by kernel_rfl) (by simp) ?_
      refine AllReadyH.cons (o := { dst := some 21, op := Op.call { callee := Callee.builtin Builtin.append, args := #[Operand.tmp 9, Operand.tmp 20], argTypes := #[27, 27] }, type := 27, pos := "ref.go:192", after := #[{ on := 0, ground := Ground.data }, { on := 11, ground := Ground.data }, { on := 10, ground := Ground.chain }], guard := none }) rfl (fun K hK => ?_) AllReadyH.nil
      rw [if_pos (by rfl)]
      refine wp_append_own _ (.tmp 9) (.tmp 20) 27 rfl (w.heap.size + 1) 5 i0 (.int .u8 0) 1 1 Try.underlying27 hi hz0 hz1 hz2 rfl (by decide) _ _ _ rfl ((unhide HO).drew.alloc _) ⟨wr.heap.size, 0, none⟩ 2 2 [.int .u8 ((dg H).toNat : Int), .int .u8 ((dg L).toNat : Int)] rfl rfl (two_new _ _ _ _) (by simp [Value.oneCell']) (by unfold maxLen; omega) (by omega) (by simp; omega) ?_
      intro v2 w2 hown2 hgrow2 _
      have HO2 := hide hown2
      have HB2 := hide (((unhide HB).drew.alloc (by simp; omega) _).grown hgrow2 (by simp; omega) (fun j e => by have := ((unhide HO).lt j e).1; omega))
      have BK2 : Bk w2 w.heap.size l := hHeld2.of (hgrow2.block _ (by simp; omega) (fun e => by have := ((unhide HO).lt _ e.symm).1; omega))
      obtain ⟨g2, cap2, rfl⟩ := ownsRow_succ hown2
      clear hown2 hgrow2
      refine hK.out _ _ BK2 (fun hHeld3 => ?_)
      clear hK K
      try simp only [Act.put, List.setIfInBounds_toArray, List.set_cons_zero, List.set_cons_succ]
      refine wpAnyH_take (i := 13) (oi := { dst := some 3, op := Op.assign (Operand.tmp 21), type := 27, pos := "ref.go:192", after := #[{ on := 12, ground := Ground.data }, { on := 12, ground := Ground.chain }, { on := 0, ground := Ground.phase }, { on := 1, ground := Ground.phase }, { on := 2, ground := Ground.phase }, { on := 3, ground := Ground.phase }, { on := 4, ground := Ground.phase }, { on := 5, ground := Ground.phase }, { on := 6, ground := Ground.phase }, { on := 7, ground := Ground.phase }, { on := 8, ground := Ground.phase }, { on := 9, ground := Ground.phase }, { on := 10, ground := Ground.phase }, { on := 11, ground := Ground.phase }, { on := 12, ground := Ground.phase }], guard := none }) (v := ?_) rfl (by kernel_rfl) (by kernel_rfl) (by kernel_rfl) (fun _ _ _ h => h) (Or.inl ⟨by rfl, ?_⟩) (by assumption) ?_
      rotate_left
      · intro w hSw; (try dsimp only at hSw); go_simp; (try with_reducible rfl)
      try simp only [Act.put, List.setIfInBounds_toArray, List.set_cons_zero, List.set_cons_succ]
      refine wpAnyH_done (by kernel_rfl) ?_ _
      go_wp2
      go_roundw
      case rel => exact ⟨k + 1, some ⟨g2, 0, none⟩, cap2, by omega, by go_num, rfl, hide (by rw [unhide HT2, encB_two]; exact unhide HO2), hide BK2, HB2⟩
      case measure => simp [intOf]; omega
    · obtain rfl : k = 32 := by omega
      have ht : l.take 32 = l := by rw [← hl]; exact List.take_length
      have HO' := unhide HO
      rw [ht] at HO'
      have hlen : (txt l).length = 2 * 32 := by rw [txt_len, hl]
      have hR := Rb.of_owns (t := txt l) (by rw [hlen]; exact HO')
      have hcv := hR.2.cv qc
      rw [hlen] at hcv
      have hcv : ∀ _ : Unit, (convert 27 9 (.slice qa 64 qc)).run Try.prog wr = .ok (.string (ba (txt l))) wr := fun _ => hcv
      replace hcv := hcv ()
      clear HO' hR hlen ht HO hl
      go_wp2_with fail
      go_ret
      exact ⟨rfl, unhide HB⟩

end Go.Proofs.Ytijpcmplbpknlaa
