import Derived.Test.YtocjcbdkihbbiaaDoorRsE
import Derived.Test.YtocjcbdkihbbiaaDoorStV
namespace Go.Proofs.YtocjcbdkihbbiaaDoor
open Go.RowKit Go.Shelf

theorem bef_take (c : UInt8) : ∀ (l : Bs) (k : Nat) (hk : k < l.length), (∀ j (hj : j < l.length), j < k → l[j] ≠ c) → l[k] = c → bef c l = l.take k ∧ aft c l = l.drop (k + 1)
  | [], k, hk, _, _ => absurd hk (Nat.not_lt_zero _)
  | b :: l, 0, _, _, h => by
    have h' : b = c := h
    unfold bef aft
    rw [if_pos h', if_pos h']
    exact ⟨rfl, rfl⟩
  | b :: l, k + 1, hk, hz, h => by
    obtain ⟨h1, h2⟩ := bef_take c l k (by simpa using hk) (fun j hj hjk => hz (j + 1) (by simpa using hj) (by omega)) h
    have hb : b ≠ c := hz 0 (by simp) (by omega)
    unfold bef aft
    rw [if_neg hb, if_neg hb, h1, h2]
    exact ⟨rfl, rfl⟩
theorem bef_whole (c : UInt8) : ∀ (l : Bs), (∀ j (hj : j < l.length), l[j] ≠ c) → bef c l = l ∧ aft c l = []
  | [], _ => ⟨rfl, rfl⟩
  | b :: l, hz => by
    obtain ⟨h1, h2⟩ := bef_whole c l (fun j hj => hz (j + 1) (by simpa using hj))
    have hb : b ≠ c := hz 0 (by simp)
    unfold bef aft
    rw [if_neg hb, if_neg hb, h1, h2]
    exact ⟨rfl, rfl⟩
theorem lines_step (t : Bs) (a i : Nat) (ha : a ≤ i) (hi : i < t.length) (hz : ∀ j (hj : j < t.length), a ≤ j → j < i → t[j] ≠ 10) (h : t[i] = 10) : linesL (t.drop a) = (t.drop a).take (i - a) :: linesL (t.drop (i + 1)) := by
  have hne : t.drop a ≠ [] := by intro e; have := congrArg List.length e; rw [List.length_drop] at this; simp at this; omega
  obtain ⟨h1, h2⟩ := bef_take 10 (t.drop a) (i - a) (by rw [List.length_drop]; omega) (fun j hj hjk => by rw [List.getElem_drop]; exact hz (a + j) (by rw [List.length_drop] at hj; omega) (by omega) (by omega)) (by rw [List.getElem_drop]; simp only [show a + (i - a) = i by omega]; exact h)
  rw [linesL_cons _ hne, h1, h2, List.drop_drop, show a + (i - a + 1) = i + 1 by omega]
theorem lines_last (t : Bs) (a : Nat) (ha : a < t.length) (hz : ∀ j (hj : j < t.length), a ≤ j → t[j] ≠ 10) : linesL (t.drop a) = [t.drop a] := by
  have hne : t.drop a ≠ [] := by intro e; have := congrArg List.length e; rw [List.length_drop] at this; simp at this; omega
  obtain ⟨h1, h2⟩ := bef_whole 10 (t.drop a) (fun j hj => by rw [List.getElem_drop]; exact hz (a + j) (by rw [List.length_drop] at hj; omega) (by omega))
  rw [linesL_cons _ hne, h1, h2]
  rfl
theorem strs_snoc (l : List Bs) (x : Bs) : strs (l ++ [x]) = strs l ++ [.string (ba x)] := by simp [strs]
theorem Rb.lt {W : World} {b o : Nat} {t : Bs} (h : ∀ i (hi : i < t.length), W.cell? ⟨b, o + i, none⟩ = some (.int .u8 (t[i].toNat : Int))) (ht : 0 < t.length) : b < W.heap.size := by
  by_cases hl : b < W.heap.size
  · exact hl
  · have hc := h 0 ht
    rw [World.cell?] at hc
    simp [Array.getElem?_eq_none (Nat.le_of_not_lt hl)] at hc

set_option maxRecDepth 100000 in
set_option maxHeartbeats 2000000 in
theorem rLines_any (t : Bs) (pa : Option Addr) (c : Nat) (w : World) (ht : t.length ≤ 16777216) (hc : t.length ≤ c) (hR : Rb w pa t) :
    Calls Tryd.prog 68 #[.slice pa t.length c] w fun e w' => ∃ qa qc, e = .returned (.slice qa (linesL t).length qc) ∧ w'.ownsRow w.heap.size 9 1 (.slice qa (linesL t).length qc) (linesL t).length (strs (linesL t)) ∧ Below w.heap.size w w' := by
  obtain ⟨i0, hi, hz0, hz1, hz2⟩ := info_parts infoS46
  have HR := hide hR
  clear hR
  go_enter Tryd.func68, Tryd.ntmps68
  go_wp2_with fail
  go_loopw [3, 4, 5] (fun lv av iv wr => ∃ (a i : Nat) (dn : List Bs) (qa : Option Addr) (qc : Nat), a ≤ i ∧ i ≤ t.length ∧ dn.length ≤ a ∧ lv = .slice qa dn.length qc ∧ av = .int .i64 a ∧ iv = .int .i64 i ∧ Hid (wr.ownsRow w.heap.size 9 1 (.slice qa dn.length qc) dn.length (strs dn)) ∧ Hid (linesL t = dn ++ linesL (t.drop a)) ∧ Hid (∀ j (hj : j < t.length), a ≤ j → j < i → t[j] ≠ 10) ∧ Hid (Below w.heap.size w wr)) (fun _ _ iv _ => t.length - (intOf iv).toNat)
  case atStart => exact ⟨0, 0, [], none, 0, Nat.le_refl _, Nat.zero_le _, Nat.le_refl _, rfl, rfl, rfl, hide (World.ownsRow_nil _ _ _ _), hide (by simp), hide (fun j _ _ h => absurd h (Nat.not_lt_zero _)), hide (Below.refl _ _)⟩
  case round =>
    obtain ⟨a, i, dn, qa, qc, hai, hil, hdl, rfl, rfl, rfl, HO, HL, HZ, HB⟩ := hrel
    have hz := (unhide HB).size
    by_cases hlt : i < t.length
    · have hltz : (i : Int) < (t.length : Int) := by omega
      obtain ⟨b, o, rfl, hcell⟩ := (unhide HR).later (unhide HB) (by omega)
      have ck := hcell i hlt
      by_cases h10 : t[i].toNat = 10
      · have e10 : (t[i].toNat : Int) = 10 := by omega
        have t10 : t[i] = 10 := UInt8.toNat_inj.1 h10
        have HS := hide (lines_step t a i hai hlt (unhide HZ) t10)
        have hsl : ((t.drop a).take (i - a)).length = i - a := by rw [List.length_take, List.length_drop]; omega
        have hRs : Rb wr (some ⟨b, o + a, none⟩) ((t.drop a).take (i - a)) := fun _ => ⟨b, o + a, rfl, fun j hj => by
          have := hcell (a + j) (by omega)
          rw [show o + a + j = o + (a + j) by omega, this]
          simp⟩
        have hcv := hRs.cv (c - a)
        rw [hsl] at hcv
        generalize hsub : (t.drop a).take (i - a) = sub at *
        rw [e10] at ck
        have b1 : (a : Int) ≤ (i : Int) := by omega
        have b2 : (i : Int) ≤ (c : Int) := by omega
        have HN := hide (show linesL t = (dn ++ [sub]) ++ linesL (t.drop (i + 1)) by rw [unhide HL, unhide HS, List.append_assoc]; rfl)
        have HSN := hide (strs_snoc dn sub)
        clear hcell HL HZ HS hRs hsub h10 t10 e10 hsl
        go_wp2_with (at_builtin; go_must (refine wpList_append_own _ rfl _ _ 46 rfl w.heap.size 9 i0 (.string ⟨#[]⟩) 1 16 Tryd.underlying46 hi hz0 hz1 hz2 rfl (by decide) _ _ _ rfl ((unhide HO).alloc _) ⟨wr.heap.size, 0, none⟩ 1 1 [.string (ba sub)] rfl rfl (cell_one_new _ _ _) (by simp [Value.oneCell']) (by unfold maxLen; omega) (by omega) (by simp; omega) ?_); intro v2 w2 hown2 hgrow2 _; have HO2 := hide hown2; have HB2 := hide (((unhide HB).alloc hz (.cells #[.string (ba sub)] 9)).grown hgrow2 (by simp; omega) (fun j e => ((unhide HO).lt j e).1)); obtain ⟨g2, cap2, cur2, rfl, -⟩ := slice_of hown2; clear hown2 hgrow2)
        go_roundw
        case rel => exact ⟨i + 1, i + 1, dn ++ [sub], some ⟨g2, 0, none⟩, cap2, Nat.le_refl _, by omega, by rw [List.length_append]; show dn.length + 1 ≤ i + 1; omega, by rw [List.length_append]; rfl, by go_num, by go_num, hide (by rw [List.length_append, unhide HSN]; exact unhide HO2), HN, hide (fun j _ h1 h2 => by omega), HB2⟩
        case measure => simp [intOf]; omega
      · have e10 : ¬ (t[i].toNat : Int) = 10 := by omega
        have t10 : ¬ t[i] = 10 := fun h => h10 (by rw [h]; rfl)
        have HZ2 := hide (show ∀ j (hj : j < t.length), a ≤ j → j < i + 1 → t[j] ≠ 10 from fun j hj h1 h2 => by
          by_cases e : j < i
          · exact unhide HZ j hj h1 e
          · obtain rfl : j = i := by omega
            exact t10)
        clear hcell HZ h10 t10
        go_wp2_with fail
        go_roundw
        case rel => exact ⟨a, i + 1, dn, qa, qc, by omega, by omega, hdl, rfl, rfl, by go_num, HO, HL, HZ2, HB⟩
        case measure => simp [intOf]; omega
    · have hltz : ¬ (i : Int) < (t.length : Int) := by omega
      obtain rfl : i = t.length := by omega
      by_cases hat : a < t.length
      · have hatz : (a : Int) < (t.length : Int) := by omega
        obtain ⟨b, o, rfl, hcell⟩ := (unhide HR).later (unhide HB) (by omega)
        have hlast := lines_last t a hat (fun j hj h1 => unhide HZ j hj h1 hj)
        have hsl : (t.drop a).length = t.length - a := List.length_drop
        have hRs : Rb wr (some ⟨b, o + a, none⟩) (t.drop a) := fun _ => ⟨b, o + a, rfl, fun j hj => by
          have := hcell (a + j) (by omega)
          rw [show o + a + j = o + (a + j) by omega, this]
          simp⟩
        have hcv := hRs.cv (c - a)
        rw [hsl] at hcv
        have HN := hide (show linesL t = dn ++ [t.drop a] by rw [unhide HL, hlast])
        generalize t.drop a = sub at *
        have HSN := hide (strs_snoc dn sub)
        have b1 : (a : Int) ≤ (t.length : Int) := by omega
        have b2 : (t.length : Int) ≤ (c : Int) := by omega
        have hdn : dn.length + 1 = (linesL t).length := by rw [unhide HN, List.length_append]; rfl
        have HDN := hide hdn
        clear hcell HL HZ hRs hlast hsl hdn
        go_wp2_with (at_builtin; go_must (refine wpList_append_own _ rfl _ _ 46 rfl w.heap.size 9 i0 (.string ⟨#[]⟩) 1 16 Tryd.underlying46 hi hz0 hz1 hz2 rfl (by decide) _ _ _ rfl ((unhide HO).alloc _) ⟨wr.heap.size, 0, none⟩ 1 1 [.string (ba sub)] rfl rfl (cell_one_new _ _ _) (by simp [Value.oneCell']) (by unfold maxLen; omega) (by omega) (by simp; omega) ?_); intro v2 w2 hown2 hgrow2 _; have HO2 := hide hown2; have HB2 := hide (((unhide HB).alloc hz (.cells #[.string (ba sub)] 9)).grown hgrow2 (by simp; omega) (fun j e => ((unhide HO).lt j e).1)); obtain ⟨g2, cap2, cur2, rfl, -⟩ := slice_of hown2; clear hown2 hgrow2)
        go_ret
        refine ⟨some ⟨g2, 0, none⟩, cap2, by rw [← unhide HDN]; rfl, ?_, unhide HB2⟩
        rw [← unhide HDN, unhide HN, unhide HSN]
        exact unhide HO2
      · have hatz : ¬ (a : Int) < (t.length : Int) := by omega
        have HN := hide (show linesL t = dn by rw [unhide HL, List.drop_eq_nil_of_le (by omega), linesL_nil, List.append_nil])
        clear HL HZ
        go_wp2_with fail
        go_ret
        rw [unhide HN]
        exact ⟨_, _, rfl, unhide HO, unhide HB⟩
end Go.Proofs.YtocjcbdkihbbiaaDoor
