import Derived.Test.YtijpcmplbpknlaaShC
import Derived.Laws.IdiomStrings
import Derived.Laws.BytesArg
import Derived.OwnWalk
import Derived.RangeFuncBox
namespace Go.Proofs.Ytijpcmplbpknlaa
open Go.RowKit

/-- A DIGIT OF A HALF BYTE. -/
def dg (v : Nat) : UInt8 := UInt8.ofNat (if v < 10 then 48 + v else 87 + v)
def txt (l : Bs) : Bs := l.flatMap fun c => [dg (c.toNat / 16), dg (c.toNat % 16)]
theorem txt_len : ∀ l : Bs, (txt l).length = 2 * l.length
  | [] => rfl
  | c :: l => by
    have h := txt_len l
    simp only [txt, List.flatMap_cons, List.length_append, List.length_cons, List.length_nil] at h ⊢
    omega
theorem txt_snoc (l : Bs) (c : UInt8) : txt (l ++ [c]) = txt l ++ [dg (c.toNat / 16), dg (c.toNat % 16)] := by simp [txt]

/-- BYTES AS THEY LIE. -/
def Rb (W : World) (pa : Option Addr) (t : Bs) : Prop := 0 < t.length → ∃ b o, pa = some ⟨b, o, none⟩ ∧ ∀ i (hi : i < t.length), W.cell? ⟨b, o + i, none⟩ = some (.int .u8 (t[i].toNat : Int))
theorem Rb.cv {W : World} {pa : Option Addr} {t : Bs} (h : Rb W pa t) (c : Nat) : (convert 27 9 (.slice pa t.length c)).run Try.prog W = .ok (.string (ba t)) W := by
  rcases Nat.eq_zero_or_pos t.length with h0 | h0
  · have ht : t = [] := List.length_eq_zero_iff.1 h0
    subst ht
    cases pa with
    | none => exact run_convert_bytes_nil W 27 5 Try.underlying27 Try.underlying5 0 c 9 Try.underlying9
    | some a => exact run_convert_bytes_back W 27 9 5 a c [] Try.underlying27 Try.underlying5 Try.underlying9 (fun j hj => absurd hj (Nat.not_lt_zero _))
  · obtain ⟨b, o, rfl, h2⟩ := h h0
    exact run_convert_bytes_back W 27 9 5 ⟨b, o, none⟩ c t Try.underlying27 Try.underlying5 Try.underlying9 (fun j hj => by
      have e : (⟨b, o, none⟩ : Addr).add j = ⟨b, o + j, none⟩ := by unfold Addr.add; split <;> simp_all
      rw [e]
      exact h2 j hj)
theorem take_get' {cur : Array Value} {n : Nat} {xs : List Value} (h : cur.toList.take n = xs) {j : Nat} {u : Value} (hj : xs[j]? = some u) : cur[j]? = some u := by
  have hlt : j < n := by
    have := (List.getElem?_eq_some_iff.1 hj).1
    rw [← h, List.length_take] at this
    omega
  rw [← h, List.getElem?_take_of_lt hlt, Array.getElem?_toList] at hj
  exact hj
theorem Rb.of_owns {W : World} {base : Nat} {pa : Option Addr} {n c : Nat} {t : Bs} (h : W.ownsRow base 5 1 (.slice pa n c) t.length (encB t)) : n = t.length ∧ Rb W pa t := by
  rcases h.2 with ⟨h1, h2⟩ | ⟨g, cap, cur, h1, _, hg, _, _, _, h6⟩
  · cases h1
    exact ⟨h2.symm, fun h0 => by omega⟩
  · cases h1
    refine ⟨rfl, fun _ => ⟨g, 0, rfl, fun i hi => ?_⟩⟩
    have := take_get' h6 (j := i) (u := .int .u8 (t[i].toNat : Int)) (by simp [encB, hi])
    have hb : W.cell? ⟨g, i, none⟩ = cur[i]? := by simp [World.cell?, hg]
    rw [Nat.zero_add, hb]
    exact this

theorem encB_two (l : Bs) (b c : UInt8) : encB (l ++ [b, c]) = encB l ++ [.int .u8 (b.toNat : Int), .int .u8 (c.toNat : Int)] := by simp [encB]
theorem two_new (w : World) (u v : Value) (t : TypeId) : ∀ (j : Nat) x, ([u, v] : List Value)[j]? = some x → (w.alloc (.cells #[u, v] t)).cell? ((⟨w.heap.size, 0, none⟩ : Addr).add j) = some x := fun j x h => by
  have e : (⟨w.heap.size, 0, none⟩ : Addr).add j = ⟨w.heap.size, j, none⟩ := by unfold Addr.add; split <;> simp_all
  rw [e, cell_of_row _ _ j _ t (0, 0) (heap_alloc_new w _)]
  simpa using h

theorem info5 : (Try.prog.info? 5).map (fun i => (i.zero, i.size, i.bytes)) = some (some (.int .u8 0), 1, 1) := by kernel_rfl
def digs : ByteArray := { data := #[48, 49, 50, 51, 52, 53, 54, 55, 56, 57, 97, 98, 99, 100, 101, 102] }
theorem digs_at : ∀ n (h : n < 16), (digs[n]'h).toNat = (dg n).toNat := by decide +kernel
theorem dig_ix (n : Nat) (hn : n < 16) (w : World) : (Instr.index 9 (.string { data := #[48, 49, 50, 51, 52, 53, 54, 55, 56, 57, 97, 98, 99, 100, 101, 102] }) (.int .u8 (n : Int))).run Try.prog w = .ok (.int .u8 ((dg n).toNat : Int)) w := by
  have h : (0 : Int) ≤ (n : Int) ∧ (n : Int) < digs.size := ⟨by omega, by show (n : Int) < 16; omega⟩
  show (Instr.index 9 (.string digs) (.int .u8 (n : Int))).run Try.prog w = _
  rw [run_index_string w 9 digs .u8 n Try.underlying9, dif_pos h]
  exact congrArg (fun x : Nat => Result.ok (Value.int .u8 (x : Int)) w) (digs_at n hn)
theorem and15 : ∀ n < 256, bits .and .u8 ((n : Nat) : Int) 15 = ((n % 16 : Nat) : Int) := by decide +kernel
theorem ag_ix (l : Bs) (hl : l.length = 32) (k : Nat) (hk : k < 32) (w : World) : (Instr.index 22 (agB l) (.int .i64 (k : Int))).run Try.prog w = .ok (.int .u8 ((l[k]?.getD 0).toNat : Int)) w := by
  have hk' : k < l.length := by omega
  obtain ⟨i0, hi, _, hz1, _⟩ := info_parts info5
  simp [Instr.index, asIntOf, run_underlying Try.underlying22, agB, part, sizeOf, typeInfo, isAgg, run_underlying Try.underlying5, hk, encB, hk', hi, hz1]


set_option maxRecDepth 100000 in
set_option maxHeartbeats 800000 in
theorem Text_any (l : Bs) (hl : l.length = 32) (w : World) :
    Calls Try.prog 5 #[agB l] w fun e w' => e = .returned (.string (ba (txt l))) ∧ Below w.heap.size w w' := by
  obtain ⟨i0, hi, hz0, hz1, hz2⟩ := info_parts info5
  go_enter Try.func5, Try.ntmps5
  go_wp2_with (first
    | (with_reducible refine w_box l hl _ rfl rfl rfl ?_; intro w1 b1 l1 z1)
    | (at_make; go_must (refine wpList_make_own _ rfl _ _ 27 rfl w.heap.size 5 i0 (.int .u8 0) 1 Try.underlying27 hi hz0 hz1 _ _ _ 64 rfl rfl rfl (by rw [hz2]; omega) (by unfold maxLen; omega) (by omega) ?_); intro w2 hown hgrow; have b2 : Bk w2 w.heap.size l := b1.of (hgrow.block _ (by omega) (fun e => by cases e)); have HB := hide (l1.grown hgrow (by omega) (fun _ e => by cases e)); rw [z1] at hown; have HO := hide hown; clear hown hgrow b1)
    | (with_reducible refine w_load _ rfl rfl w.heap.size rfl _ b2 ?_))
  go_loopw [3, 8] (fun lv iv wr => ∃ (k : Nat) (qa : Option Addr) (qc : Nat), k ≤ 32 ∧ iv = .int .i64 k ∧ lv = .slice qa (2 * k) qc ∧ Hid (wr.ownsRow w.heap.size 5 1 (.slice qa (2 * k) qc) (2 * k) (encB (txt (l.take k)))) ∧ Hid (Below w.heap.size w wr)) (fun _ iv _ => 32 - (intOf iv).toNat)
  case atStart => exact ⟨0, _, _, Nat.zero_le _, rfl, rfl, HO, HB⟩
  case round =>
    clear HB HO
    obtain ⟨k, qa, qc, hk, rfl, rfl, HO, HB⟩ := hrel
    have hz := (unhide HB).size
    by_cases hlt : k < 32
    · have hix := ag_ix l hl k hlt
      obtain ⟨c, hc⟩ : ∃ c, c = l[k]?.getD 0 := ⟨_, rfl⟩
      rw [← hc] at hix
      have HT := hide (show l.take (k + 1) = l.take k ++ [c] by
        have hk' : k < l.length := by omega
        rw [List.take_succ_eq_append_getElem hk', hc, List.getElem?_eq_getElem hk']; rfl)
      clear hc
      have hcl := c.toNat_lt
      obtain ⟨H, hH⟩ : ∃ H, H = c.toNat / 16 := ⟨_, rfl⟩
      obtain ⟨L, hL⟩ : ∃ L, L = c.toNat % 16 := ⟨_, rfl⟩
      have d1 := dig_ix H (by omega)
      have d2 := dig_ix L (by omega)
      have v2 := hide (show ((c.toNat : Int) / 16) = (H : Int) by omega)
      have v5 := hide (show bits .and .u8 (c.toNat : Int) 15 = (L : Int) by rw [and15 _ hcl, hL])
      have HT2 := hide (show txt (l.take (k + 1)) = txt (l.take k) ++ [dg H, dg L] by rw [unhide HT, txt_snoc, hH, hL])
      clear hH hL HT hcl
      go_wp2_with fail
      refine wp_region_held_drew (S := fun _ => True) (by kernel_rfl) ?_ (fun hHeld => ?_)
      · trivial
      refine wpAnyH_take (i := 0) (oi := { dst := some 11, op := Op.move (Operand.tmp 3), type := 27, pos := "sha.go:24", after := #[], guard := none }) (v := ?_) rfl (by kernel_rfl) (by kernel_rfl) (by kernel_rfl) (fun _ _ _ h => h) (Or.inl ⟨by rfl, ?_⟩) (by assumption) ?_
      rotate_left
      · intro w hSw; (try dsimp only at hSw); go_simp; (try with_reducible rfl)
      try simp only [Act.put, List.setIfInBounds_toArray, List.set_cons_zero, List.set_cons_succ]
      refine wpAnyH_take (i := 1) (oi := { dst := some 12, op := Op.move (Operand.tmp 5), type := 5, pos := "sha.go:24", after := #[], guard := none }) (v := ?_) rfl (by kernel_rfl) (by kernel_rfl) (by kernel_rfl) (fun _ _ _ h => h) (Or.inl ⟨by rfl, ?_⟩) (by assumption) ?_
      rotate_left
      · intro w hSw; (try dsimp only at hSw); go_simp; (try with_reducible rfl)
      try simp only [Act.put, List.setIfInBounds_toArray, List.set_cons_zero, List.set_cons_succ]
      refine wpAnyH_take (i := 2) (oi := { dst := some 13, op := Op.binOp BinOp.shr 5 (Operand.tmp 12) (Operand.const (Value.int IntKind.u64 4)) 33, type := 5, pos := "sha.go:24", after := #[{ on := 1, ground := Ground.data }], guard := none }) (v := .int .u8 ((H : Nat) : Int)) rfl (by kernel_rfl) (by kernel_rfl) (by kernel_rfl) (fun _ _ _ h => h) (Or.inl ⟨by rfl, by intro w _; go_simp; exact unhide v2⟩) (by assumption) ?_
      try simp only [Act.put, List.setIfInBounds_toArray, List.set_cons_zero, List.set_cons_succ]
      refine wpAnyH_take (i := 3) (oi := { dst := some 14, op := Op.index 9 (Operand.const (Value.string { data := #[48, 49, 50, 51, 52, 53, 54, 55, 56, 57, 97, 98, 99, 100, 101, 102] })) (Operand.tmp 13), type := 5, pos := "sha.go:24", after := #[{ on := 2, ground := Ground.data }], guard := none }) (v := .int .u8 ((dg H).toNat : Int)) rfl (by kernel_rfl) (by kernel_rfl) (by kernel_rfl) (fun _ _ _ h => h) (Or.inl ⟨by rfl, by intro w _; have := d1 w; go_simp⟩) (by assumption) ?_
      try simp only [Act.put, List.setIfInBounds_toArray, List.set_cons_zero, List.set_cons_succ]
      refine wpAnyH_take (i := 4) (oi := { dst := some 15, op := Op.move (Operand.tmp 5), type := 5, pos := "sha.go:24", after := #[], guard := none }) (v := ?_) rfl (by kernel_rfl) (by kernel_rfl) (by kernel_rfl) (fun _ _ _ h => h) (Or.inl ⟨by rfl, ?_⟩) (by assumption) ?_
      rotate_left
      · intro w hSw; (try dsimp only at hSw); go_simp; (try with_reducible rfl)
      try simp only [Act.put, List.setIfInBounds_toArray, List.set_cons_zero, List.set_cons_succ]
      refine wpAnyH_take (i := 5) (oi := { dst := some 16, op := Op.binOp BinOp.and 5 (Operand.tmp 15) (Operand.const (Value.int IntKind.u8 15)) 5, type := 5, pos := "sha.go:24", after := #[{ on := 4, ground := Ground.data }], guard := none }) (v := .int .u8 ((L : Nat) : Int)) rfl (by kernel_rfl) (by kernel_rfl) (by kernel_rfl) (fun _ _ _ h => h) (Or.inl ⟨by rfl, by intro w _; go_simp; exact unhide v5⟩) (by assumption) ?_
      try simp only [Act.put, List.setIfInBounds_toArray, List.set_cons_zero, List.set_cons_succ]
      refine wpAnyH_take (i := 6) (oi := { dst := some 17, op := Op.index 9 (Operand.const (Value.string { data := #[48, 49, 50, 51, 52, 53, 54, 55, 56, 57, 97, 98, 99, 100, 101, 102] })) (Operand.tmp 16), type := 5, pos := "sha.go:24", after := #[{ on := 5, ground := Ground.data }], guard := none }) (v := .int .u8 ((dg L).toNat : Int)) rfl (by kernel_rfl) (by kernel_rfl) (by kernel_rfl) (fun _ _ _ h => h) (Or.inl ⟨by rfl, by intro w _; have := d2 w; go_simp⟩) (by assumption) ?_
      try simp only [Act.put, List.setIfInBounds_toArray, List.set_cons_zero, List.set_cons_succ]
      refine wpAnyH_ready (rs := [7]) (by kernel_rfl) (by simp) ?_
      refine AllReadyH.cons (o := { dst := some 18, op := Op.buildSlice 27 2 #[(0, Operand.tmp 14), (1, Operand.tmp 17)], type := 27, pos := "sha.go:24", after := #[{ on := 3, ground := Ground.data }, { on := 6, ground := Ground.data }], guard := none }) rfl (fun K hK => ?_) AllReadyH.nil
      go_simp
      refine hK.out _ _ trivial (fun hHeld2 => ?_)
      clear hHeld hHeld2
      have hHeld := trivial
      clear hK K
      try simp only [Act.put, List.setIfInBounds_toArray, List.set_cons_zero, List.set_cons_succ]
      refine wpAnyH_ready (rs := [8]) (by kernel_rfl) (by simp) ?_
      refine AllReadyH.cons (o := { dst := some 19, op := Op.call { callee := Callee.builtin Builtin.append, args := #[Operand.tmp 11, Operand.tmp 18], argTypes := #[27, 27] }, type := 27, pos := "sha.go:24", after := #[{ on := 0, ground := Ground.data }, { on := 7, ground := Ground.data }], guard := none }) rfl (fun K hK => ?_) AllReadyH.nil
      rw [if_pos (by rfl)]
      refine wp_append_own _ (.tmp 11) (.tmp 18) 27 rfl w.heap.size 5 i0 (.int .u8 0) 1 1 Try.underlying27 hi hz0 hz1 hz2 rfl (by decide) _ _ _ rfl ((unhide HO).drew.alloc _) ⟨wr.heap.size, 0, none⟩ 2 2 [.int .u8 ((dg H).toNat : Int), .int .u8 ((dg L).toNat : Int)] rfl rfl (two_new _ _ _ _) (by simp [Value.oneCell']) (by unfold maxLen; omega) (by omega) (by simp; omega) ?_
      intro v2 w2 hown2 hgrow2 _
      have HO2 := hide hown2
      have HB2 := hide (((unhide HB).drew.alloc (by simp; omega) _).grown hgrow2 (by simp; omega) (fun j e => ((unhide HO).lt j e).1))
      obtain ⟨g2, cap2, rfl⟩ := ownsRow_succ hown2
      clear hown2 hgrow2
      refine hK.out _ _ trivial (fun hHeld2 => ?_)
      clear hK K
      try simp only [Act.put, List.setIfInBounds_toArray, List.set_cons_zero, List.set_cons_succ]
      refine wpAnyH_take (i := 9) (oi := { dst := some 3, op := Op.assign (Operand.tmp 19), type := 27, pos := "sha.go:24", after := #[{ on := 8, ground := Ground.data }, { on := 8, ground := Ground.chain }, { on := 0, ground := Ground.phase }, { on := 1, ground := Ground.phase }, { on := 2, ground := Ground.phase }, { on := 3, ground := Ground.phase }, { on := 4, ground := Ground.phase }, { on := 5, ground := Ground.phase }, { on := 6, ground := Ground.phase }, { on := 7, ground := Ground.phase }, { on := 8, ground := Ground.phase }], guard := none }) (v := ?_) rfl (by kernel_rfl) (by kernel_rfl) (by kernel_rfl) (fun _ _ _ h => h) (Or.inl ⟨by rfl, ?_⟩) (by assumption) ?_
      rotate_left
      · intro w hSw; (try dsimp only at hSw); go_simp; (try with_reducible rfl)
      try simp only [Act.put, List.setIfInBounds_toArray, List.set_cons_zero, List.set_cons_succ]
      refine wpAnyH_done (by kernel_rfl) ?_ _
      go_wp2
      go_roundw
      case rel => exact ⟨k + 1, some ⟨g2, 0, none⟩, cap2, by omega, by go_num, rfl, hide (by rw [unhide HT2, encB_two]; exact unhide HO2), HB2⟩
      case measure => simp [intOf]; omega
    · obtain rfl : k = 32 := by omega
      have ht : l.take 32 = l := by rw [← hl]; exact List.take_length
      have HO' := unhide HO
      rw [ht] at HO'
      have hlen : (txt l).length = 2 * 32 := by rw [txt_len, hl]
      have hR := Rb.of_owns (t := txt l) (by rw [hlen]; exact HO')
      have hcv := hR.2.cv qc
      rw [hlen] at hcv
      have hcv : ∀ _ : Unit, (convert 27 9 (.slice qa 64 qc)).run Try.prog wr = .ok (.string (ba (txt l))) wr := fun _ => hcv
      replace hcv := hcv ()
      clear HO' hR hlen ht HO hl
      go_wp2_with fail
      go_ret
      exact ⟨rfl, unhide HB⟩

end Go.Proofs.Ytijpcmplbpknlaa
