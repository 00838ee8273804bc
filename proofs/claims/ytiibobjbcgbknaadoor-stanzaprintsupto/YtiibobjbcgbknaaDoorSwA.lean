import Derived.Test.YtiibobjbcgbknaaDoorStY
import Derived.Deep.DeepAppendWide
namespace Go.Proofs.YtiibobjbcgbknaaDoor
open Go.RowKit

set_option maxRecDepth 100000 in
set_option maxHeartbeats 2000000 in
theorem copied_wide (t : Bs) (pa : Option Addr) (c : Nat) (w : World) (ht : t.length ≤ 140737488351232) (hR : Rb w pa t) :
    Calls Tryd.prog 12 #[.slice pa t.length c] w fun e w' => ∃ qa qc, e = .returned (.slice qa t.length qc) ∧ w'.ownsRow w.heap.size 5 1 (.slice qa t.length qc) t.length (encB t) ∧ Below w.heap.size w w' := by
  obtain ⟨i0, hi, hz0, hz1, hz2⟩ := info_parts info5
  have HR := hide hR
  clear hR
  go_enter Tryd.func12, Tryd.ntmps12
  go_wp2
  go_loopw [3, 4] (fun lv iv wr => ∃ (k : Nat) (qa : Option Addr) (qc : Nat), k ≤ t.length ∧ iv = .int .i64 k ∧ lv = .slice qa k qc ∧ Hid (wr.ownsRow w.heap.size 5 1 (.slice qa k qc) k (encB (t.take k))) ∧ Hid (Below w.heap.size w wr)) (fun _ iv _ => t.length - (intOf iv).toNat)
  case atStart => exact ⟨0, none, 0, Nat.zero_le _, rfl, rfl, hide (World.ownsRow_nil _ _ _ _), hide (Below.refl _ _)⟩
  case round =>
    obtain ⟨k, qa, qc, hk, rfl, rfl, HO, HB⟩ := hrel
    by_cases hlt : k < t.length
    · obtain ⟨b, o, rfl, hcell⟩ := (unhide HR).later (unhide HB) (by omega)
      have ck := hcell k hlt
      have hz := (unhide HB).size
      have HT := hide (show t.take (k + 1) = t.take k ++ [t[k]] from List.take_succ_eq_append_getElem hlt)
      clear hcell
      go_wp2_with (at_builtin; go_must (refine wpList_append_own _ rfl _ _ 22 rfl w.heap.size 5 i0 (.int .u8 0) 1 1 Tryd.underlying22 hi hz0 hz1 hz2 rfl (by decide) _ _ _ rfl ((unhide HO).alloc _) ⟨wr.heap.size, 0, none⟩ 1 1 [.int .u8 (t[k].toNat : Int)] rfl rfl (cell_one_new _ _ _) (by simp [Value.oneCell']) (by unfold maxLen; omega) (by omega) (by simp; omega) ?_); intro v2 w2 hown2 hgrow2 _; have HO2 := hide hown2; have HB2 := hide (((unhide HB).alloc hz _).grown hgrow2 (by simp; omega) (fun j e => ((unhide HO).lt j e).1)); obtain ⟨g2, cap2, rfl⟩ := ownsRow_succ hown2; clear hown2 hgrow2)
      go_roundw
      case rel => exact ⟨k + 1, some ⟨g2, 0, none⟩, cap2, by omega, by go_num, rfl, hide (by rw [unhide HT, encB_snoc]; exact unhide HO2), HB2⟩
      case measure => simp [intOf]; omega
    · obtain rfl : k = t.length := by omega
      have HT := hide (show t.take t.length = t from List.take_length)
      go_wp2
      go_ret
      exact ⟨qa, qc, rfl, by have := unhide HO; rw [unhide HT] at this; exact this, unhide HB⟩

set_option maxRecDepth 100000 in
set_option maxHeartbeats 4000000 in
theorem ahead_whole (t m : Bs) (pa ma : Option Addr) (tc mc : Nat) (w : World) (ht : t.length ≤ 140737488351232) (hm : m.length ≤ 140737488351232) (hR : Rb w pa t) (hM : Rb w ma m) (hG : Glob w) :
    Calls Tryd.prog 3 #[.slice pa t.length tc, .slice ma m.length mc] w fun e w' => e = .returned (.bool true) ∧ Below w.heap.size w w' := by
  obtain ⟨i0, hi, hz0, hz1, hz2⟩ := info_parts info5
  obtain ⟨n, er, hne⟩ : ∃ n er, pOut t = (n, er) := ⟨_, _, rfl⟩
  have cL := hide (lives_any w hG)
  have cC := hide (fun (w1 : World) (hb : Below w.heap.size w w1) => copied_wide t pa tc w1 (by omega) (hR.later hb))
  have cP := hide (show ∀ (w2 : World), Below w.heap.size w w2 → ∀ qa qc, Rb w2 qa t → Calls Tryd.prog 11 #[.slice qa t.length qc] w2 fun e W2 => ∃ lv, e = .returned (.tuple #[lv, .int .i64 n, .int .i64 er]) ∧ Below w2.heap.size w2 W2 from fun w2 hb qa qc hq => by
    refine (Parse_any t qa qc w2 (by omega) (hG.later (n := w.heap.size) hG.big hb) (fun W hbW => (hq.later hbW).cv qc)).mono ?_
    rintro e W2 ⟨lv, h1, h2, _⟩
    rw [hne] at h1
    exact ⟨lv, h1, h2⟩)
  by_cases h02 : er = 0 ∨ er = 2
  · clear hne
    go_enter Tryd.func3, Tryd.ntmps3
    rcases h02 with rfl | rfl
    all_goals
      go_wp2_with (first | (go_at_call 10; refine (unhide cL).mono ?_; rintro e w1 ⟨rfl, hb1⟩; have HB1 := hide hb1; clear hb1) | (go_at_call 12; refine (unhide cC w1 (unhide HB1)).mono ?_; rintro e w2 ⟨qa, qc, rfl, ho2, hb2⟩; have HR2 := hide (Rb.of_owns ho2).2; have HB2 := hide (bl_t (unhide HB1) hb2); clear ho2 hb2) | (go_at_call 11; refine (unhide cP w2 (unhide HB2) qa qc (unhide HR2)).mono ?_; rintro e w3 ⟨lv, rfl, hb3⟩; have HB3 := hide (bl_t (unhide HB2) hb3); clear hb3))
      first | exact ⟨rfl, unhide HB3⟩ | (go_ret; exact ⟨rfl, unhide HB3⟩) | exact ⟨rfl, _, results_tmp (t := 4) (by kernel_rfl) _ _ _, rfl, unhide HB3⟩
  · have hlt : ¬ 16777216 < t.length := fun hl => by
      unfold pOut at hne
      rw [if_pos hl] at hne
      cases hne
      exact h02 (Or.inr rfl)
    have hts : t.length ≤ 16777216 := by omega
    have herr : (parseT t).err = some (n, er) := by
      have h := hne
      unfold pOut at h
      rw [if_neg hlt] at h
      cases hx : (parseT t).err with
      | none => rw [hx] at h; cases h; exact absurd (Or.inl rfl) h02
      | some x => rw [hx] at h; exact congrArg some h
    have hn : n ≤ t.length := err_small t n er herr
    have hah : (parseT (upToL n t ++ m)).err = some (n, er) := parse_ahead t m n er herr
    have hul := upToL_len t n
    have cU := hide (fun (w3 : World) (hb : Below w.heap.size w w3) => upTo_any t n pa tc w3 (by omega) (by omega) (hR.later hb))
    have hM2 := hide (fun (W : World) (hb : Below w.heap.size w W) => hM.later hb)
    generalize upToL n t = u at *
    have hpo : u.length + m.length ≤ 16777216 → pOut (u ++ m) = (n, er) := fun hle => by
      unfold pOut
      rw [if_neg (by rw [List.length_append]; omega), hah]
    have cQ := hide (show u.length + m.length ≤ 16777216 → ∀ (W : World), Below w.heap.size w W → ∀ qa qc, Rb W qa (u ++ m) → Calls Tryd.prog 11 #[.slice qa (u.length + m.length) qc] W fun e W2 => e = .returned (.tuple #[.slice none 0 0, .int .i64 n, .int .i64 er]) ∧ Below W.heap.size W W2 from fun hle W hb qa qc hq => by
      rw [← List.length_append]
      refine (Parse_any (u ++ m) qa qc W (by rw [List.length_append]; omega) (hG.later (n := w.heap.size) hG.big hb) (fun W3 hbW => (hq.later hbW).cv qc)).mono ?_
      rintro e W2 ⟨lv, h1, hbq, h3, _⟩
      rw [hpo hle] at h1 h3
      rw [h1, h3 (fun h => h02 (Or.inl h))]
      exact ⟨rfl, hbq⟩)
    have e0 : ((er : Int) == 0) = false := by simp; omega
    have e2 : ((er : Int) == 2) = false := by simp; omega
    clear hpo hah herr hne hR hM h02 hlt
    go_enter Tryd.func3, Tryd.ntmps3
    go_wp2_with (first | (go_at_call 10; refine (unhide cL).mono ?_; rintro e w1 ⟨rfl, hb1⟩; have HB1 := hide hb1; clear hb1) | (go_at_call 12; refine (unhide cC w1 (unhide HB1)).mono ?_; rintro e w2 ⟨qa, qc, rfl, ho2, hb2⟩; have HR2 := hide (Rb.of_owns ho2).2; have HB2 := hide (bl_t (unhide HB1) hb2); clear ho2 hb2) | (go_at_call 11; refine (unhide cP w2 (unhide HB2) qa qc (unhide HR2)).mono ?_; rintro e w3 ⟨lv, rfl, hb3⟩; have HB3 := hide (bl_t (unhide HB2) hb3); clear hb3) | (go_at_call 13; refine (unhide cU w3 (unhide HB3)).mono ?_; rintro e w4 ⟨ua, uc, rfl, ho4, hb4⟩; have HO4 := hide ho4; have HB4 := hide hb4; clear ho4 hb4))
    have hu4 := hide (show w.heap.size ≤ w3.heap.size from (unhide HB3).size)
    clear cL cC cP cU HR2 HB1 HB2
    go_loopw [8, 9] (fun lv iv wr => ∃ (k : Nat) (qa : Option Addr) (qc : Nat), k ≤ m.length ∧ iv = .int .i64 k ∧ lv = .slice qa (u.length + k) qc ∧ Hid (wr.ownsRow w3.heap.size 5 1 (.slice qa (u.length + k) qc) (u.length + k) (encB (u ++ m.take k))) ∧ Hid (Below w3.heap.size w3 wr)) (fun _ iv _ => m.length - (intOf iv).toNat)
    case atStart => exact ⟨0, ua, uc, Nat.zero_le _, rfl, rfl, hide (by have := unhide HO4; simpa using this), HB4⟩
    case round =>
      obtain ⟨k, qa, qc, hk, rfl, rfl, HO, HB⟩ := hrel
      by_cases hlt : k < m.length
      · obtain ⟨b, o, rfl, hcell⟩ := unhide hM2 wr (bl_t (unhide HB3) (unhide HB)) (by omega)
        have ck := hcell k hlt
        have hz := (unhide HB).size
        have HT := hide (show u ++ m.take (k + 1) = (u ++ m.take k) ++ [m[k]] by rw [List.take_succ_eq_append_getElem hlt, List.append_assoc])
        clear hcell
        go_wp2_with (at_builtin; go_must (refine wpList_append_own_wide _ rfl _ _ 22 rfl w3.heap.size 5 i0 (.int .u8 0) 1 1 Tryd.underlying22 hi hz0 hz1 hz2 rfl (by decide) _ _ _ rfl ((unhide HO).alloc _) ⟨wr.heap.size, 0, none⟩ 1 1 [.int .u8 (m[k].toNat : Int)] rfl rfl (cell_one_new _ _ _) (by simp [Value.oneCell']) (by unfold maxLen; omega) (by omega) (by simp; omega) ?_); intro v2 w2 hown2 hgrow2 _; have HO2 := hide hown2; have HB2 := hide (((unhide HB).alloc hz _).grown hgrow2 (by simp; omega) (fun j e => ((unhide HO).lt j e).1)); obtain ⟨g2, cap2, rfl⟩ := ownsRow_succ hown2; clear hown2 hgrow2)
        go_roundw
        case rel => exact ⟨k + 1, some ⟨g2, 0, none⟩, cap2, by omega, by go_num, rfl, hide (by rw [unhide HT, encB_snoc]; exact unhide HO2), HB2⟩
        case measure => simp [intOf]; omega
      · obtain rfl : k = m.length := by omega
        have HQ := hide (show Rb wr qa (u ++ m) by
          have h := unhide HO
          rw [List.take_length, ← List.length_append] at h
          exact (Rb.of_owns h).2)
        have HB5 := hide (bl_t (unhide HB3) (unhide HB))
        clear HO HB
        by_cases hbig : u.length + m.length ≤ 16777216
        · have hsz : ¬ (16777216 : Int) < ((u.length + m.length : Nat) : Int) := by omega
          have cQ2 := hide (unhide cQ hbig)
          clear cQ
          go_wp2_with (first | (go_at_call 11; refine (unhide cQ2 wr (unhide HB5) qa qc (unhide HQ)).mono ?_; rintro e w6 ⟨rfl, hb6⟩; have HB6 := hide (bl_t (unhide HB5) hb6); clear hb6))
          first | exact ⟨rfl, unhide HB6⟩ | (go_ret; exact ⟨rfl, unhide HB6⟩) | exact ⟨rfl, _, results_tmp (t := 4) (by kernel_rfl) _ _ _, rfl, unhide HB6⟩
        · have hsz : (16777216 : Int) < ((u.length + m.length : Nat) : Int) := by omega
          clear cQ
          go_wp2
          first | exact ⟨rfl, unhide HB5⟩ | (go_ret; exact ⟨rfl, unhide HB5⟩) | exact ⟨rfl, _, results_tmp (t := 4) (by kernel_rfl) _ _ _, rfl, unhide HB5⟩

end Go.Proofs.YtiibobjbcgbknaaDoor
