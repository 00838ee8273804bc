import Derived.Test.YtiibobjbcgbknaaDoorScF
namespace Go.Proofs.YtiibobjbcgbknaaDoor
open Go.RowKit

set_option maxRecDepth 100000 in
set_option maxHeartbeats 4000000 in
theorem Print_yes (ps : List (List Fd)) (v : Value) (w : World) (hok : ∀ p ∈ ps, okP p = true) (hsz : (prT ps).length ≤ 16777216) (hD : DocC w v ps) :
    Calls Tryd.prog 14 #[v] w fun e w' => ∃ pa c, e = .returned (.tuple #[.slice pa (prT ps).length c, .int .i64 0]) ∧ w'.ownsRow w.heap.size 5 1 (.slice pa (prT ps).length c) (prT ps).length (encB (prT ps)) ∧ Below w.heap.size w w' := by
  obtain ⟨i0, hi, hz0, hz1, hz2⟩ := info_parts info5
  obtain ⟨lps, lpp⟩ := prT_len ps
  have hin : ∀ (i : Nat) (h : i < ps.length), okP ps[i] = true ∧ ps[i].all okF = true ∧ ps[i].length ≤ 16777216 ∧ ∀ f ∈ ps[i], (fldT f).length ≤ 16777216 ∧ szF f := fun i h => by
    have h1 := hok _ (List.getElem_mem h)
    have h2 := (okP_parts h1).1
    have h3 := par_len _ h2
    have h4 := lpp _ (List.getElem_mem h)
    refine ⟨h1, h2, by omega, fun f hf => ?_⟩
    have h5 := h3.2 f hf
    have h6 := fld_len f (List.all_eq_true.1 h2 f hf)
    exact ⟨by omega, fun l hl => by have := h6.2.2 l hl; omega, by omega⟩
  obtain ⟨va, vc, rfl, hD⟩ := hD
  have HI := hide hin
  have HD := hide hD
  clear hin hD hok lpp
  go_enter Tryd.func14, Tryd.ntmps14
  go_wp2
  go_loopw [13] (fun iv wr => ∃ k : Nat, k ≤ ps.length ∧ iv = .int .i64 k ∧ Hid (Below w.heap.size w wr)) (fun iv _ => ps.length - (intOf iv).toNat)
  case atStart => exact ⟨0, Nat.zero_le _, rfl, hide (Below.refl _ _)⟩
  case round =>
    obtain ⟨k, hk, rfl, HB⟩ := hrel
    by_cases hlt : k < ps.length
    · obtain ⟨g, o, rfl, hd⟩ := unhide HD (by omega)
      obtain ⟨u, u1, u2⟩ := hd k _ (List.getElem?_eq_getElem hlt)
      have d0 := cell_later u1 (unhide HB)
      obtain ⟨q1, q2, q3, q4⟩ := unhide HI k hlt
      have c1 := hide (mayBe_yes ps[k] u wr q1 (fun f hf => (q4 f hf).2) (by omega) (u2.later (unhide HB)))
      obtain ⟨ua, uc, rfl, _⟩ := u2
      clear hd u1 q1 q2 q3 q4
      go_wp2_with (go_at_call 37; refine (unhide c1).mono ?_; rintro e w2 ⟨rfl, hb2⟩; have HB2 := hide (bl_t (unhide HB) hb2); clear hb2)
      go_roundw
      case rel => exact ⟨k + 1, by omega, by go_num, HB2⟩
      case measure => simp [intOf]; omega
    · obtain rfl : k = ps.length := by omega
      have HB1 := HB
      clear HB
      go_wp2
      go_loopw [6, 23] (fun lv iv wr => ∃ (i : Nat) (pa : Option Addr) (c : Nat), i ≤ ps.length ∧ iv = .int .i64 i ∧ lv = .slice pa (prT (ps.take i)).length c ∧ Hid (wr.ownsRow w.heap.size 5 1 (.slice pa (prT (ps.take i)).length c) (prT (ps.take i)).length (encB (prT (ps.take i)))) ∧ Hid (Below w.heap.size w wr)) (fun _ iv _ => ps.length - (intOf iv).toNat)
      case atStart => exact ⟨0, none, 0, Nat.zero_le _, rfl, rfl, hide (World.ownsRow_nil _ _ _ _), HB1⟩
      case round =>
        clear HB1
        obtain ⟨i, pa, c, hi2, rfl, rfl, HO, HB⟩ := hrel
        by_cases hlt : i < ps.length
        · obtain ⟨g, o, rfl, hd⟩ := unhide HD (by omega)
          obtain ⟨u, u1, u2⟩ := hd i _ (List.getElem?_eq_getElem hlt)
          have d0 := cell_later u1 (unhide HB)
          obtain ⟨q1, q2, q3, q4⟩ := unhide HI i hlt
          have HLE := hide (fun k => Nat.le_trans (mid_le ps i hlt k) hsz)
          have HNX := hide (mid_next ps i hlt)
          have HOK := hide (show ∀ k (h : k < ps[i].length), okF (ps[i])[k] = true ∧ (fldT (ps[i])[k]).length ≤ 16777216 from fun k h => ⟨List.all_eq_true.1 q2 _ (List.getElem_mem h), (q4 _ (List.getElem_mem h)).1⟩)
          have hpt := Nat.le_trans (prT_take_le ps i) hsz
          obtain ⟨ua, uc, rfl, hf⟩ := u2
          have HF := hide hf
          clear hd u1 q1 q2 q4 hf
          generalize ps[i] = p at *
          have hz := (unhide HB).size
          by_cases hi0 : i = 0
          · have HS := hide (show midT ps i p 0 = prT (ps.take i) by simp [midT, sepB, parT, hi0])
            have hi1 : ¬ (0 : Int) < (i : Int) := by omega
            clear hi0
            go_wp2
            clear d0
            go_loopw [6, 35] (fun lv iv wr => ∃ (k : Nat) (pa : Option Addr) (c : Nat), k ≤ p.length ∧ iv = .int .i64 k ∧ lv = .slice pa (midT ps i p k).length c ∧ Hid (wr.ownsRow w.heap.size 5 1 (.slice pa (midT ps i p k).length c) (midT ps i p k).length (encB (midT ps i p k))) ∧ Hid (Below w.heap.size w wr)) (fun _ iv _ => p.length - (intOf iv).toNat)
            case atStart => exact ⟨0, pa, c, Nat.zero_le _, rfl, by rw [unhide HS], hide (by rw [unhide HS]; exact unhide HO), HB⟩
            case round =>
              obtain ⟨k, pa, c, hk, rfl, rfl, HO, HB⟩ := hrel
              by_cases hlt2 : k < p.length
              · obtain ⟨gg, oo, rfl, hf⟩ := unhide HF (by omega)
                obtain ⟨o1, o2⟩ := unhide HOK k hlt2
                obtain ⟨b, q, lc, na, nn, nc, e0, e1, e2, cc⟩ := appendField_of p[k] gg (oo + k * 3) w o1 (by omega) (hf k _ (List.getElem?_eq_getElem hlt2))
                have d0 := cell_later e0 (unhide HB)
                have d1 := cell_later e1 (unhide HB)
                have d2 := cell_later e2 (unhide HB)
                have hst := mid_step ps i p k hlt2
                have hle := unhide HLE (k + 1)
                have hle0 := unhide HLE k
                rw [hst, List.length_append] at hle
                have HST := hide hst
                have c1 := hide cc
                have hzr := (unhide HB).size
                have hnl : ¬ (16777216 : Int) < (((midT ps i p k).length + (fldT p[k]).length : Nat) : Int) := by omega
                clear hf e0 e1 e2 cc hst o1 o2
                generalize ba p[k].nm = sn at *
                generalize p[k].ls.length = ln at *
                go_wp2_with (go_at_call 38; refine (unhide c1 _ _ _ _ ((unhide HB).alloc hzr _) ((unhide HO).alloc _) (by omega)).mono ?_; rintro e w5 ⟨pa5, c5, rfl, ho5, hb5⟩; have HO5 := hide ho5; have HB5 := hide hb5; clear ho5 hb5)
                go_roundw
                case rel => exact ⟨k + 1, pa5, c5, by omega, by go_num, by rw [unhide HST, List.length_append], hide (by rw [unhide HST, List.length_append, encB_app]; exact unhide HO5), HB5⟩
                case measure => simp [intOf]; omega
              · obtain rfl : k = p.length := by omega
                go_wp2
                go_roundw
                case rel => exact ⟨i + 1, pa, c, by omega, by go_num, by rw [unhide HNX], hide (by rw [unhide HNX]; exact unhide HO), HB⟩
                case measure => simp [intOf]; omega
          · have HS := hide (show midT ps i p 0 = prT (ps.take i) ++ [10] by simp [midT, sepB, parT, hi0])
            have hi1 : (0 : Int) < (i : Int) := by omega
            go_wp2_with (at_builtin; go_must (refine wpList_append_own _ rfl _ _ 22 rfl w.heap.size 5 i0 (.int .u8 0) 1 1 Tryd.underlying22 hi hz0 hz1 hz2 rfl (by decide) _ _ _ rfl ((unhide HO).alloc _) ⟨_, 0, none⟩ 1 1 [.int .u8 10] rfl rfl (cell_one_new _ _ _) (by simp [Value.oneCell']) (by unfold maxLen; omega) (by omega) (by simp; omega) ?_); intro v2 w2 hown2 hgrow2 _; obtain ⟨pa2, cap2, rfl⟩ := own_shape hown2; have HO2 := hide hown2; have HB2 := hide (((unhide HB).alloc hz _).grown hgrow2 (by simp; omega) (fun j e => ((unhide HO).lt j e).1)); clear hown2 hgrow2)
            clear d0
            go_loopw [6, 35] (fun lv iv wr => ∃ (k : Nat) (pa : Option Addr) (c : Nat), k ≤ p.length ∧ iv = .int .i64 k ∧ lv = .slice pa (midT ps i p k).length c ∧ Hid (wr.ownsRow w.heap.size 5 1 (.slice pa (midT ps i p k).length c) (midT ps i p k).length (encB (midT ps i p k))) ∧ Hid (Below w.heap.size w wr)) (fun _ iv _ => p.length - (intOf iv).toNat)
            case atStart => exact ⟨0, pa2, cap2, Nat.zero_le _, rfl, by rw [unhide HS, List.length_append]; rfl, hide (by rw [unhide HS, List.length_append, encB_app]; exact unhide HO2), HB2⟩
            case round =>
              obtain ⟨k, pa, c, hk, rfl, rfl, HO, HB⟩ := hrel
              by_cases hlt2 : k < p.length
              · obtain ⟨gg, oo, rfl, hf⟩ := unhide HF (by omega)
                obtain ⟨o1, o2⟩ := unhide HOK k hlt2
                obtain ⟨b, q, lc, na, nn, nc, e0, e1, e2, cc⟩ := appendField_of p[k] gg (oo + k * 3) w o1 (by omega) (hf k _ (List.getElem?_eq_getElem hlt2))
                have d0 := cell_later e0 (unhide HB)
                have d1 := cell_later e1 (unhide HB)
                have d2 := cell_later e2 (unhide HB)
                have hst := mid_step ps i p k hlt2
                have hle := unhide HLE (k + 1)
                have hle0 := unhide HLE k
                rw [hst, List.length_append] at hle
                have HST := hide hst
                have c1 := hide cc
                have hzr := (unhide HB).size
                have hnl : ¬ (16777216 : Int) < (((midT ps i p k).length + (fldT p[k]).length : Nat) : Int) := by omega
                clear hf e0 e1 e2 cc hst o1 o2
                generalize ba p[k].nm = sn at *
                generalize p[k].ls.length = ln at *
                go_wp2_with (go_at_call 38; refine (unhide c1 _ _ _ _ ((unhide HB).alloc hzr _) ((unhide HO).alloc _) (by omega)).mono ?_; rintro e w5 ⟨pa5, c5, rfl, ho5, hb5⟩; have HO5 := hide ho5; have HB5 := hide hb5; clear ho5 hb5)
                go_roundw
                case rel => exact ⟨k + 1, pa5, c5, by omega, by go_num, by rw [unhide HST, List.length_append], hide (by rw [unhide HST, List.length_append, encB_app]; exact unhide HO5), HB5⟩
                case measure => simp [intOf]; omega
              · obtain rfl : k = p.length := by omega
                go_wp2
                go_roundw
                case rel => exact ⟨i + 1, pa, c, by omega, by go_num, by rw [unhide HNX], hide (by rw [unhide HNX]; exact unhide HO), HB⟩
                case measure => simp [intOf]; omega
        · obtain rfl : i = ps.length := by omega
          have HT := hide (show ps.take ps.length = ps from List.take_length)
          go_wp2
          go_ret2
          refine ⟨pa, c, ?_, ?_, unhide HB⟩
          · rw [unhide HT]; rfl
          · have h := unhide HO
            rw [unhide HT] at h
            exact h

end Go.Proofs.YtiibobjbcgbknaaDoor
