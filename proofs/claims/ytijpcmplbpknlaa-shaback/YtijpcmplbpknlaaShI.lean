import Derived.Test.YtijpcmplbpknlaaShG
import Derived.Lib.ConvBytes
namespace Go.Proofs.Ytijpcmplbpknlaa
open Go.RowKit

theorem hv_dg : ∀ n < 16, hv (dg n).toNat = n := by decide +kernel
theorem dg_hv : ∀ c < 256, hv c ≠ 16 → (dg (hv c)).toNat = c := by decide +kernel
theorem txt_even : ∀ (l : Bs) (i : Nat), (txt l)[2 * i]? = l[i]?.map fun c => dg (c.toNat / 16)
  | [], i => by simp [txt]
  | c :: l, 0 => by simp [txt]
  | c :: l, i + 1 => by
    have h := txt_even l i
    have e : 2 * (i + 1) = 2 * i + 1 + 1 := by omega
    rw [e]
    simpa [txt] using h
theorem txt_odd : ∀ (l : Bs) (i : Nat), (txt l)[2 * i + 1]? = l[i]?.map fun c => dg (c.toNat % 16)
  | [], i => by simp [txt]
  | c :: l, 0 => by simp [txt]
  | c :: l, i + 1 => by
    have h := txt_odd l i
    have e : 2 * (i + 1) + 1 = (2 * i + 1) + 1 + 1 := by omega
    rw [e]
    simpa [txt] using h
theorem cd_even (l : Bs) (i : Nat) (hi : i < l.length) : cd (txt l) (2 * i) = (dg (l[i].toNat / 16)).toNat := by
  unfold cd; rw [txt_even, List.getElem?_eq_getElem hi]; rfl
theorem cd_odd (l : Bs) (i : Nat) (hi : i < l.length) : cd (txt l) (2 * i + 1) = (dg (l[i].toNat % 16)).toNat := by
  unfold cd; rw [txt_odd, List.getElem?_eq_getElem hi]; rfl
theorem okS_txt (l : Bs) (hl : l.length = 32) : okS (txt l) = true := by
  rw [okS_iff]
  refine ⟨by rw [txt_len, hl], fun k hk => ?_⟩
  rcases Nat.mod_two_eq_zero_or_one k with h | h
  · obtain ⟨i, rfl⟩ : ∃ i, k = 2 * i := ⟨k / 2, by omega⟩
    have hi : i < l.length := by omega
    have := l[i].toNat_lt
    rw [cd_even l i hi, hv_dg _ (by omega)]
    omega
  · obtain ⟨i, rfl⟩ : ∃ i, k = 2 * i + 1 := ⟨k / 2, by omega⟩
    have hi : i < l.length := by omega
    rw [cd_odd l i hi, hv_dg _ (by omega)]
    omega
theorem rd_txt (l : Bs) (hl : l.length = 32) : rd (txt l) 32 = l := by
  refine List.ext_getElem (by rw [rd_len, hl]) fun i h1 h2 => ?_
  have hi : i < 32 := by rw [rd_len] at h1; exact h1
  have := l[i].toNat_lt
  simp only [rd, List.getElem_map, List.getElem_range, if_pos hi]
  apply UInt8.toNat_inj.1
  have e1 := cd_even l i h2
  have e2 := cd_odd l i h2
  have f1 := hv_dg (l[i].toNat / 16) (by omega)
  have f2 := hv_dg (l[i].toNat % 16) (by omega)
  rw [pb_nat _ _ (by rw [e1, f1]; omega) (by rw [e2, f2]; omega), e1, e2, f1, f2]
  omega
theorem txt_rd (s : Bs) (h : okS s = true) : txt (rd s 32) = s := by
  obtain ⟨h1, h2⟩ := (okS_iff s).1 h
  refine List.ext_getElem (by rw [txt_len, rd_len, h1]) fun k k1 k2 => ?_
  have hk : k < 64 := by omega
  apply UInt8.toNat_inj.1
  have hc : s[k].toNat = cd s k := by unfold cd; rw [List.getElem?_eq_getElem k2]; rfl
  rcases Nat.mod_two_eq_zero_or_one k with h0 | h0
  · obtain ⟨i, rfl⟩ : ∃ i, k = 2 * i := ⟨k / 2, by omega⟩
    have hi : i < (rd s 32).length := by rw [rd_len]; omega
    have e := cd_even (rd s 32) i hi
    have e0 : ((txt (rd s 32))[2 * i]'k1).toNat = cd (txt (rd s 32)) (2 * i) := by unfold cd; rw [List.getElem?_eq_getElem k1]; rfl
    have eb : ((rd s 32)[i]'hi) = pb s i := by simp only [rd, List.getElem_map, List.getElem_range]; rw [if_pos (by omega)]
    have a1 := h2 (2 * i) (by omega)
    have a2 := h2 (2 * i + 1) (by omega)
    have b1 := hv_le (cd s (2 * i))
    have b2 := hv_le (cd s (2 * i + 1))
    refine e0.trans (Eq.trans ?_ hc.symm)
    rw [e, eb, pb_nat s i a1 a2, show (hv (cd s (2 * i)) * 16 + hv (cd s (2 * i + 1))) / 16 = hv (cd s (2 * i)) by omega]
    exact dg_hv _ (cd_lt _ _) a1
  · obtain ⟨i, rfl⟩ : ∃ i, k = 2 * i + 1 := ⟨k / 2, by omega⟩
    have hi : i < (rd s 32).length := by rw [rd_len]; omega
    have e := cd_odd (rd s 32) i hi
    have e0 : ((txt (rd s 32))[2 * i + 1]'k1).toNat = cd (txt (rd s 32)) (2 * i + 1) := by unfold cd; rw [List.getElem?_eq_getElem k1]; rfl
    have eb : ((rd s 32)[i]'hi) = pb s i := by simp only [rd, List.getElem_map, List.getElem_range]; rw [if_pos (by omega)]
    have a1 := h2 (2 * i) (by omega)
    have a2 := h2 (2 * i + 1) (by omega)
    have b1 := hv_le (cd s (2 * i))
    have b2 := hv_le (cd s (2 * i + 1))
    refine e0.trans (Eq.trans ?_ hc.symm)
    rw [e, eb, pb_nat s i a1 a2, show (hv (cd s (2 * i)) * 16 + hv (cd s (2 * i + 1))) % 16 = hv (cd s (2 * i + 1)) by omega]
    exact dg_hv _ (cd_lt _ _) a2

theorem cd_set (t : Bs) (k : Nat) (b : UInt8) (hk : k < t.length) (j : Nat) : cd (t.set k b) j = if k = j then b.toNat else cd t j := by
  unfold cd
  rw [List.getElem?_set]
  by_cases e : k = j
  · subst e; simp [hk]
  · simp [e]
theorem okS_set (l : Bs) (hl : l.length = 32) (k : Nat) (hk : k < 64) (b : UInt8) : okS ((txt l).set k b) = isH b.toNat := by
  have hlen : (txt l).length = 64 := by rw [txt_len, hl]
  rw [Bool.eq_iff_iff, okS_iff, isH, decide_eq_true_iff]
  constructor
  · intro h
    have := h.2 k hk
    rw [cd_set _ _ _ (by omega), if_pos rfl] at this
    exact this
  · intro h
    refine ⟨by rw [List.length_set, hlen], fun j hj => ?_⟩
    rw [cd_set _ _ _ (by omega)]
    split
    · exact h
    · exact ((okS_iff _).1 (okS_txt l hl)).2 j hj
theorem set_same (l : Bs) (hl : l.length = 32) (k : Nat) (hk : k < 64) (b : UInt8) (hb : isH b.toNat = true) : decide (rd ((txt l).set k b) 32 = l) = decide (b.toNat = cd (txt l) k) := by
  have hlen : (txt l).length = 64 := by rw [txt_len, hl]
  rw [Bool.eq_iff_iff, decide_eq_true_iff, decide_eq_true_iff]
  have hu := txt_rd ((txt l).set k b) (by rw [okS_set l hl k hk]; exact hb)
  constructor
  · intro h
    rw [h] at hu
    have : cd (txt l) k = cd ((txt l).set k b) k := by rw [← hu]
    rw [cd_set _ _ _ (by omega), if_pos rfl] at this
    exact this.symm
  · intro h
    have e : (txt l).set k b = txt l := by
      have : b = (txt l)[k]'(by omega) := by
        apply UInt8.toNat_inj.1
        rw [h]
        unfold cd
        rw [List.getElem?_eq_getElem (by omega)]
        rfl
      rw [this]
      exact List.set_getElem_self _
    rw [e]
    exact rd_txt l hl

/-- BYTES IN A BLOCK OF THEIR OWN. -/
structure Sl (w : World) (g : Nat) (t : Bs) : Prop where
  cell : ∀ i, i < t.length → w.cell? ⟨g, i, none⟩ = some (.int .u8 ((t[i]?.getD 0).toNat : Int))
  free : ∀ i, i < t.length → w.frozen? ⟨g, i, none⟩ = false
theorem Sl.of {w w2 : World} {g : Nat} {t : Bs} (h : Sl w g t) (e : w2.heap[g]? = w.heap[g]?) : Sl w2 g t :=
  ⟨fun i hi => (World.cell?_of_block (w := w) (a := ⟨g, i, none⟩) e).trans (h.cell i hi), fun i hi => (World.frozen?_of_block (w := w) (a := ⟨g, i, none⟩) e).trans (h.free i hi)⟩
theorem Sl.rb {w : World} {g : Nat} {t : Bs} (h : Sl w g t) : Rb w (some ⟨g, 0, none⟩) t := fun _ => ⟨g, 0, rfl, fun i hi => by
  rw [Nat.zero_add, h.cell i hi, List.getElem?_eq_getElem hi]; rfl⟩

section
variable {ops : Array Oper} {rest : List Oper} {o : Oper} {a : Act} {w : World} {Q : Exit → Act → World → Prop}
theorem w_conv (x : Operand) (ho : o.op = .convert 9 27 x) (hw : Region.wanted o (yielded ops a.tmps) = true) (t : Bs) (hx : a.eval x = .string (ba t))
    (h : ∀ w2 qc, Sl w2 w.heap.size t → Below w.heap.size w w2 → w2.heap.size = w.heap.size + 1 → wpList Try.prog ops Q rest (a.put o.dst (.slice (some ⟨w.heap.size, 0, none⟩) t.length qc)) w2) : wpList Try.prog ops Q (o :: rest) a w := by
  refine BigFrame.wpList_want hw fun K hK => ?_
  have hr := Lib.run_convert_string_bytes (P := Try.prog) w 9 27 5 (ba t) Try.underlying9 Try.underlying27 Try.underlying5
  have hs : (ba t).size = t.length := by simp [ba, ByteArray.size]
  unfold Oper.wp execOp
  simp only [ho, hx, hr, Sem.run_bind, Sem.run_pure, Result.andThen_ok]
  rw [hs]
  refine hK _ _ (h _ _ ⟨fun i hi => ?_, fun i hi => ?_⟩ ⟨?_, ?_, ?_, ?_, ?_⟩ (Lib.bytesWorld_size w 5 (ba t)))
  · rw [Lib.bytesWorld_cell w 5 (ba t) i (by omega)]
    simp [ba, List.getD]
  · have hlt : i < (Lib.bytesCells w 5 (ba t)).size := by simp [Lib.bytesCells]; omega
    simp [World.frozen?, Lib.bytesWorld_at_new]
    omega
  · rfl
  · rfl
  · rfl
  · rw [Lib.bytesWorld_size]; omega
  · exact fun k hk => Lib.bytesWorld_at_old w 5 (ba t) k hk

theorem w_put (x y : Operand) (ho : o.op = .store 5 x y) (hw : Region.wanted o (yielded ops a.tmps) = true) (g k : Nat) (hx : a.eval x = .pointer (some ⟨g, k, none⟩)) (b : UInt8) (hy : a.eval y = .int .u8 (b.toNat : Int)) (t : Bs) (hk : k < t.length) (hb : Sl w g t)
    (h : ∀ w2, Sl w2 g (t.set k b) → (∀ j, j ≠ g → w2.heap[j]? = w.heap[j]?) → (∀ B, B ≤ g → Below B w w2) → w2.heap.size = w.heap.size → wpList Try.prog ops Q rest (a.put o.dst undef) w2) : wpList Try.prog ops Q (o :: rest) a w := by
  refine BigFrame.wpList_want hw fun K hK => ?_
  have hz := hb.free k hk
  have hc := hb.cell k hk
  unfold Oper.wp execOp
  simp only [ho, hx, hy, Instr.storeAt, Instr.sureAddr, Sem.run_bind, Sem.run_pure, Result.andThen_ok]
  have hst : (storeVar 5 ⟨g, k, none⟩ (.int .u8 (b.toNat : Int))).run Try.prog w = .ok () (w.setCell ⟨g, k, none⟩ (.int .u8 (b.toNat : Int))) := by
    simp [go_sem, hc, hz]
  rw [hst]
  refine hK _ _ (h _ ⟨fun i hi => ?_, fun i hi => ?_⟩ (fun j hj => Below.heap_setCell w _ _ j hj) (fun B hB => (Below.refl _ _).setCell (p := ⟨g, k, none⟩) hB _) (by simp))
  · rw [List.length_set] at hi
    by_cases e : k = i
    · subst e
      rw [World.cell?_setCell_same w ⟨g, k, none⟩ _ hc, List.getElem?_set, if_pos rfl, if_pos hk]
      rfl
    · rw [World.cell?_setCell_other w ⟨g, k, none⟩ _ (b := ⟨g, i, none⟩) (fun h => e (by injection h)), hb.cell i hi, List.getElem?_set, if_neg e]
  · rw [List.length_set] at hi
    rw [World.frozen?_setCell]
    exact hb.free i hi
end

end Go.Proofs.Ytijpcmplbpknlaa
