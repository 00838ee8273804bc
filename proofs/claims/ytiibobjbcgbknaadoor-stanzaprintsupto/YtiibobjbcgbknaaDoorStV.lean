import Derived.Test.YtiibobjbcgbknaaDoorStD
import Derived.Test.YtiibobjbcgbknaaDoorStU
import Derived.Laws.IdiomStrings
import Derived.Laws.BytesArg
namespace Go.Proofs.YtiibobjbcgbknaaDoor
open Go.RowKit

/-- BYTES AS THEY LIE. -/
def Rb (W : World) (pa : Option Addr) (t : Bs) : Prop := 0 < t.length → ∃ b o, pa = some ⟨b, o, none⟩ ∧ ∀ i (hi : i < t.length), W.cell? ⟨b, o + i, none⟩ = some (.int .u8 (t[i].toNat : Int))
theorem Rb.later {W W2 : World} {pa : Option Addr} {t : Bs} (h : Rb W pa t) (hb : Below W.heap.size W W2) : Rb W2 pa t := fun h0 => by
  obtain ⟨b, o, h1, h2⟩ := h h0
  refine ⟨b, o, h1, fun i hi => ?_⟩
  have hc := h2 i hi
  have hlt : b < W.heap.size := by
    by_cases hl : b < W.heap.size
    · exact hl
    · rw [World.cell?] at hc
      simp [Array.getElem?_eq_none (Nat.le_of_not_lt hl)] at hc
  exact (hb.cell (p := ⟨b, o + i, none⟩) hlt).trans hc
theorem Rb.cv {W : World} {pa : Option Addr} {t : Bs} (h : Rb W pa t) (c : Nat) : (convert 22 9 (.slice pa t.length c)).run Tryd.prog W = .ok (.string (ba t)) W := by
  rcases Nat.eq_zero_or_pos t.length with h0 | h0
  · have ht : t = [] := List.length_eq_zero_iff.1 h0
    subst ht
    cases pa with
    | none => exact run_convert_bytes_nil W 22 5 Tryd.underlying22 Tryd.underlying5 0 c 9 Tryd.underlying9
    | some a => exact run_convert_bytes_back W 22 9 5 a c [] Tryd.underlying22 Tryd.underlying5 Tryd.underlying9 (fun j hj => absurd hj (Nat.not_lt_zero _))
  · obtain ⟨b, o, rfl, h2⟩ := h h0
    exact run_convert_bytes_back W 22 9 5 ⟨b, o, none⟩ c t Tryd.underlying22 Tryd.underlying5 Tryd.underlying9 (fun j hj => by
      have e : (⟨b, o, none⟩ : Addr).add j = ⟨b, o + j, none⟩ := by unfold Addr.add; split <;> simp_all
      rw [e]
      exact h2 j hj)
theorem take_get' {cur : Array Value} {n : Nat} {xs : List Value} (h : cur.toList.take n = xs) {j : Nat} {u : Value} (hj : xs[j]? = some u) : cur[j]? = some u := by
  have hlt : j < n := by
    have := (List.getElem?_eq_some_iff.1 hj).1
    rw [← h, List.length_take] at this
    omega
  rw [← h, List.getElem?_take_of_lt hlt, Array.getElem?_toList] at hj
  exact hj
def encB (l : Bs) : List Value := l.map fun c => Value.int .u8 (c.toNat : Int)
theorem Rb.of_owns {W : World} {base : Nat} {pa : Option Addr} {n c : Nat} {t : Bs} (h : W.ownsRow base 5 1 (.slice pa n c) t.length (encB t)) : n = t.length ∧ Rb W pa t := by
  rcases h.2 with ⟨h1, h2⟩ | ⟨g, cap, cur, h1, _, hg, _, _, _, h6⟩
  · cases h1
    exact ⟨h2.symm, fun h0 => by omega⟩
  · cases h1
    refine ⟨rfl, fun _ => ⟨g, 0, rfl, fun i hi => ?_⟩⟩
    have := take_get' h6 (j := i) (u := .int .u8 (t[i].toNat : Int)) (by simp [encB, hi])
    have hb : W.cell? ⟨g, i, none⟩ = cur[i]? := by simp [World.cell?, hg]
    rw [Nat.zero_add, hb]
    exact this

theorem encB_snoc (l : Bs) (b : UInt8) : encB (l ++ [b]) = encB l ++ [.int .u8 (b.toNat : Int)] := by simp [encB]
theorem encB_len (l : Bs) : (encB l).length = l.length := by simp [encB]

set_option maxRecDepth 100000 in
set_option maxHeartbeats 2000000 in
theorem copied_any (t : Bs) (pa : Option Addr) (c : Nat) (w : World) (ht : t.length ≤ 16777216) (hR : Rb w pa t) :
    Calls Tryd.prog 12 #[.slice pa t.length c] w fun e w' => ∃ qa qc, e = .returned (.slice qa t.length qc) ∧ w'.ownsRow w.heap.size 5 1 (.slice qa t.length qc) t.length (encB t) ∧ Below w.heap.size w w' := by
  obtain ⟨i0, hi, hz0, hz1, hz2⟩ := info_parts info5
  have HR := hide hR
  clear hR
  go_enter Tryd.func12, Tryd.ntmps12
  go_wp2
  go_loopw [3, 4] (fun lv iv wr => ∃ (k : Nat) (qa : Option Addr) (qc : Nat), k ≤ t.length ∧ iv = .int .i64 k ∧ lv = .slice qa k qc ∧ Hid (wr.ownsRow w.heap.size 5 1 (.slice qa k qc) k (encB (t.take k))) ∧ Hid (Below w.heap.size w wr)) (fun _ iv _ => t.length - (intOf iv).toNat)
  case atStart => exact ⟨0, none, 0, Nat.zero_le _, rfl, rfl, hide (World.ownsRow_nil _ _ _ _), hide (Below.refl _ _)⟩
  case round =>
    obtain ⟨k, qa, qc, hk, rfl, rfl, HO, HB⟩ := hrel
    by_cases hlt : k < t.length
    · obtain ⟨b, o, rfl, hcell⟩ := (unhide HR).later (unhide HB) (by omega)
      have ck := hcell k hlt
      have hz := (unhide HB).size
      have HT := hide (show t.take (k + 1) = t.take k ++ [t[k]] from List.take_succ_eq_append_getElem hlt)
      clear hcell
      go_wp2_with (at_builtin; go_must (refine wpList_append_own _ rfl _ _ 22 rfl w.heap.size 5 i0 (.int .u8 0) 1 1 Tryd.underlying22 hi hz0 hz1 hz2 rfl (by decide) _ _ _ rfl ((unhide HO).alloc _) ⟨wr.heap.size, 0, none⟩ 1 1 [.int .u8 (t[k].toNat : Int)] rfl rfl (cell_one_new _ _ _) (by simp [Value.oneCell']) (by unfold maxLen; omega) (by omega) (by simp; omega) ?_); intro v2 w2 hown2 hgrow2 _; have HO2 := hide hown2; have HB2 := hide (((unhide HB).alloc hz _).grown hgrow2 (by simp; omega) (fun j e => ((unhide HO).lt j e).1)); obtain ⟨g2, cap2, rfl⟩ := ownsRow_succ hown2; clear hown2 hgrow2)
      go_roundw
      case rel => exact ⟨k + 1, some ⟨g2, 0, none⟩, cap2, by omega, by go_num, rfl, hide (by rw [unhide HT, encB_snoc]; exact unhide HO2), HB2⟩
      case measure => simp [intOf]; omega
    · obtain rfl : k = t.length := by omega
      have HT := hide (show t.take t.length = t from List.take_length)
      go_wp2
      go_ret
      exact ⟨qa, qc, rfl, by have := unhide HO; rw [unhide HT] at this; exact this, unhide HB⟩

theorem upToL_len : ∀ (l : Bs) (n : Nat), (upToL n l).length ≤ l.length + 1
  | l, 0 => by rw [upToL_zero]; simp
  | [], n + 1 => by simp [upToL]
  | b :: l, n + 1 => by
    have := upToL_len l (if b = 10 then n else n + 1)
    show (b :: upToL (if b = 10 then n else n + 1) l).length ≤ _
    simp
    exact this

set_option maxRecDepth 100000 in
set_option maxHeartbeats 4000000 in
theorem upTo_any (t : Bs) (n : Nat) (pa : Option Addr) (c : Nat) (w : World) (ht : t.length ≤ 16777216) (hn : n ≤ 16777217) (hR : Rb w pa t) :
    Calls Tryd.prog 13 #[.slice pa t.length c, .int .i64 n] w fun e w' => ∃ qa qc, e = .returned (.slice qa (upToL n t).length qc) ∧ w'.ownsRow w.heap.size 5 1 (.slice qa (upToL n t).length qc) (upToL n t).length (encB (upToL n t)) ∧ Below w.heap.size w w' := by
  obtain ⟨i0, hi, hz0, hz1, hz2⟩ := info_parts info5
  have HR := hide hR
  clear hR
  go_enter Tryd.func13, Tryd.ntmps13
  go_wp2
  go_loopw [1, 5, 6] (fun nv lv iv wr => ∃ (k m : Nat) (qa : Option Addr) (qc : Nat), k ≤ t.length ∧ m ≤ 16777217 ∧ nv = .int .i64 m ∧ iv = .int .i64 k ∧ lv = .slice qa k qc ∧ Hid (wr.ownsRow w.heap.size 5 1 (.slice qa k qc) k (encB (t.take k))) ∧ Hid (upToL n t = t.take k ++ upToL m (t.drop k)) ∧ Hid (Below w.heap.size w wr)) (fun _ _ iv _ => t.length - (intOf iv).toNat)
  case atStart => exact ⟨0, n, none, 0, Nat.zero_le _, hn, rfl, rfl, rfl, hide (World.ownsRow_nil _ _ _ _), hide (by simp), hide (Below.refl _ _)⟩
  case round =>
    obtain ⟨k, m, qa, qc, hk, hm, rfl, rfl, rfl, HO, HU, HB⟩ := hrel
    have hz := (unhide HB).size
    by_cases hlt : k < t.length
    · by_cases hm0 : 0 < m
      · obtain ⟨b, o, rfl, hcell⟩ := (unhide HR).later (unhide HB) (by omega)
        have ck := hcell k hlt
        have HT := hide (show t.take (k + 1) = t.take k ++ [t[k]] from List.take_succ_eq_append_getElem hlt)
        have hd : t.drop k = t[k] :: t.drop (k + 1) := List.drop_eq_getElem_cons hlt
        obtain ⟨m', rfl⟩ : ∃ m', m = m' + 1 := ⟨m - 1, by omega⟩
        have HU2 := hide (show upToL n t = t.take (k + 1) ++ upToL (if t[k] = 10 then m' else m' + 1) (t.drop (k + 1)) by
          rw [unhide HU, hd, unhide HT, List.append_assoc]
          rfl)
        have ck2 : ∀ (w2 : World), (wr.alloc (.cells #[.int .u8 (t[k].toNat : Int)] 5)).grownBy w2 (Value.slice qa k qc).ownBlock → w2.cell? ⟨b, o + k, none⟩ = some (.int .u8 (t[k].toNat : Int)) := fun w2 hg => by
          have hbl : b < w.heap.size := by
            obtain ⟨b2, o2, e2, h2⟩ := (unhide HR) (by omega)
            cases e2
            have hc := h2 k hlt
            by_cases hl : b < w.heap.size
            · exact hl
            · rw [World.cell?] at hc
              simp [Array.getElem?_eq_none (Nat.le_of_not_lt hl)] at hc
          have hne : some b ≠ (Value.slice qa k qc).ownBlock := fun e => by have := ((unhide HO).lt b e.symm).1; omega
          exact (World.cell?_of_block (w := wr) (a := ⟨b, o + k, none⟩) ((hg.block b (by simp; omega) hne).trans (Below.heap_alloc wr _ b (by omega)))).trans ck
        have HCK := hide ck2
        clear hcell hd ck2
        have hm1 : (0 : Int) < ((m' + 1 : Nat) : Int) := by omega
        by_cases h10 : t[k].toNat = 10
        · have e10 : (t[k].toNat : Int) = 10 := by omega
          have t10 : t[k] = 10 := UInt8.toNat_inj.1 h10
          have HU3 := hide (show upToL n t = t.take (k + 1) ++ upToL m' (t.drop (k + 1)) by rw [unhide HU2, if_pos t10])
          have HT10 := hide (show t.take (k + 1) = t.take k ++ [10] by rw [unhide HT, t10])
          rw [e10] at ck HCK
          clear HU HU2 h10 t10 e10 HT
          go_wp2_with (at_builtin; go_must (refine wpList_append_own _ rfl _ _ 22 rfl w.heap.size 5 i0 (.int .u8 0) 1 1 Tryd.underlying22 hi hz0 hz1 hz2 rfl (by decide) _ _ _ rfl ((unhide HO).alloc _) ⟨wr.heap.size, 0, none⟩ 1 1 [.int .u8 10] rfl rfl (cell_one_new _ _ _) (by simp [Value.oneCell']) (by unfold maxLen; omega) (by omega) (by simp; omega) ?_); intro v2 w2 hown2 hgrow2 _; have HO2 := hide hown2; have c2 := unhide HCK w2 hgrow2; have HB2 := hide (((unhide HB).alloc hz _).grown hgrow2 (by simp; omega) (fun j e => ((unhide HO).lt j e).1)); obtain ⟨g2, cap2, rfl⟩ := ownsRow_succ hown2; clear hown2 hgrow2)
          go_roundw
          case rel => exact ⟨k + 1, m', some ⟨g2, 0, none⟩, cap2, by omega, by omega, by go_num, by go_num, rfl, hide (by rw [unhide HT10, encB_snoc]; exact unhide HO2), HU3, HB2⟩
          case measure => simp [intOf]; omega
        · have e10 : ¬ (t[k].toNat : Int) = 10 := by omega
          have t10 : ¬ t[k] = 10 := fun h => h10 (by rw [h]; rfl)
          have HU3 := hide (show upToL n t = t.take (k + 1) ++ upToL (m' + 1) (t.drop (k + 1)) by rw [unhide HU2, if_neg t10])
          clear HU HU2 h10 t10
          go_wp2_with (at_builtin; go_must (refine wpList_append_own _ rfl _ _ 22 rfl w.heap.size 5 i0 (.int .u8 0) 1 1 Tryd.underlying22 hi hz0 hz1 hz2 rfl (by decide) _ _ _ rfl ((unhide HO).alloc _) ⟨wr.heap.size, 0, none⟩ 1 1 [.int .u8 (t[k].toNat : Int)] rfl rfl (cell_one_new _ _ _) (by simp [Value.oneCell']) (by unfold maxLen; omega) (by omega) (by simp; omega) ?_); intro v2 w2 hown2 hgrow2 _; have HO2 := hide hown2; have c2 := unhide HCK w2 hgrow2; have HB2 := hide (((unhide HB).alloc hz _).grown hgrow2 (by simp; omega) (fun j e => ((unhide HO).lt j e).1)); obtain ⟨g2, cap2, rfl⟩ := ownsRow_succ hown2; clear hown2 hgrow2)
          go_roundw
          case rel => exact ⟨k + 1, m' + 1, some ⟨g2, 0, none⟩, cap2, by omega, by omega, rfl, by go_num, rfl, hide (by rw [unhide HT, encB_snoc]; exact unhide HO2), HU3, HB2⟩
          case measure => simp [intOf]; omega
      · obtain rfl : m = 0 := by omega
        have HF := hide (show upToL n t = t.take k by rw [unhide HU, upToL_zero, List.append_nil])
        have hlen : (t.take k).length = k := by rw [List.length_take]; omega
        go_wp2
        go_ret
        refine ⟨qa, qc, ?_, ?_, unhide HB⟩
        · rw [unhide HF, hlen]; rfl
        · rw [unhide HF, hlen]; exact unhide HO
    · obtain rfl : k = t.length := by omega
      have ht2 : t.take t.length = t := List.take_length
      have hd2 : t.drop t.length = [] := List.drop_length
      by_cases hm0 : 0 < m
      · obtain ⟨m', rfl⟩ : ∃ m', m = m' + 1 := ⟨m - 1, by omega⟩
        have HF := hide (show upToL n t = t ++ [10] by rw [unhide HU, ht2, hd2]; rfl)
        have hm1 : (0 : Int) < ((m' + 1 : Nat) : Int) := by omega
        have HT := hide ht2
        clear ht2 hd2 HU
        go_wp2_with (at_builtin; go_must (refine wpList_append_own _ rfl _ _ 22 rfl w.heap.size 5 i0 (.int .u8 0) 1 1 Tryd.underlying22 hi hz0 hz1 hz2 rfl (by decide) _ _ _ rfl ((unhide HO).alloc _) ⟨wr.heap.size, 0, none⟩ 1 1 [.int .u8 10] rfl rfl (cell_one_new _ _ _) (by simp [Value.oneCell']) (by unfold maxLen; omega) (by omega) (by simp; omega) ?_); intro v2 w2 hown2 hgrow2 _; have HO2 := hide hown2; have HB2 := hide (((unhide HB).alloc hz _).grown hgrow2 (by simp; omega) (fun j e => ((unhide HO).lt j e).1)); obtain ⟨g2, cap2, rfl⟩ := ownsRow_succ hown2; clear hown2 hgrow2)
        go_ret
        refine ⟨some ⟨g2, 0, none⟩, cap2, ?_, ?_, unhide HB2⟩
        · rw [unhide HF, List.length_append]; rfl
        · have h := unhide HO2
          rw [unhide HT] at h
          rw [unhide HF, List.length_append, encB_snoc]
          exact h
      · obtain rfl : m = 0 := by omega
        have HF := hide (show upToL n t = t by rw [unhide HU, upToL_zero, List.append_nil, ht2])
        have HT := hide ht2
        clear ht2 hd2
        go_wp2
        go_ret
        refine ⟨qa, qc, ?_, ?_, unhide HB⟩
        · rw [unhide HF]; rfl
        · have h := unhide HO
          rw [unhide HT] at h
          rw [unhide HF]
          exact h

end Go.Proofs.YtiibobjbcgbknaaDoor
