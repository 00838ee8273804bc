import Derived.Test.YtjmomdnlibfbkaaDoorAbO
namespace Go.Proofs.YtjmomdnlibfbkaaDoor
open Go.RowKit

theorem take_set {n p : Nat} {M : Bs} {x : UInt8} (h : n ≤ p) : (M.set p x).take n = M.take n := by
  refine List.ext_getElem? fun i => ?_
  by_cases hi : i < n
  · rw [List.getElem?_take_of_lt hi, List.getElem?_take_of_lt hi, List.getElem?_set_ne (by omega)]
  · rw [List.getElem?_eq_none (by rw [List.length_take]; omega), List.getElem?_eq_none (by rw [List.length_take]; omega)]
set_option maxRecDepth 100000 in
set_option maxHeartbeats 8000000 in
theorem roomy_any {w : World} {v : Value} {l : Bs} (h : Rb w v l) (hl : l.length ≤ 140737488351232) :
    Calls Tryd.prog 10 #[v] w fun e w' => ∃ a c, e = .returned (.slice a l.length c) ∧ w'.ownsRow w.heap.size 5 1 (.slice a l.length c) l.length (l.map cb) ∧ Below w.heap.size w w' := by
  obtain ⟨a, c, rfl, hc⟩ := h.form
  have HR := hide h
  obtain ⟨N, hN⟩ : ∃ N, l.length = N := ⟨_, rfl⟩
  have HN := hide hN
  have mk := makeY (N + 600) (by omega)
  rw [show (((N + 600 : Nat)) : Int) = (N : Int) + 600 by omega] at mk
  have hw1 : IntKind.i64.wrap ((N : Int) + 600) = (N : Int) + 600 := IntWalk.i64_in _ (by omega)
  rw [hN] at HR hl ⊢
  clear h hN
  go_enter Tryd.func10, Tryd.ntmps10
  go_upto_region 3 with fail
  have B1 := hide (By.made w (N + 600))
  have Y1 := hide (Yb.made w (N + 600))
  have W1 := hide ((Below.refl w.heap.size w).alloc (Nat.le_refl _) (.cells (madeCells #[.int .u8 0] (N + 600)) 5))
  have R1 := hide ((unhide HR).later (unhide W1))
  obtain ⟨g, hg⟩ : ∃ g, w.heap.size = g := ⟨_, rfl⟩
  have HGE := hide hg
  rw [hg] at B1 Y1 ⊢
  generalize World.alloc w (.cells (madeCells #[.int .u8 0] (N + 600)) 5) = w1 at *
  have H1 := hide (show l.length ≤ N + 600 by have := unhide HN; omega)
  have H2 := hide (show 0 + (N + 600) ≤ (zs (N + 600)).length by rw [zs_len]; omega)
  clear mk HR hg
  obtain ⟨w2, hrun, hb2, ho2, hy2⟩ := run_copyY (dc := N + 600) 3 (unhide H1) (unhide B1) (unhide H2) (unhide R1)
  have B2 := hide hb2
  have Y2 := hide (hy2 _ (unhide Y1))
  have W2 := hide ((unhide W1).trans (ho2.bel.mono (Nat.le_of_eq (unhide HGE))))
  clear hb2 ho2 hy2 B1 Y1 W1 R1 H1 H2
  go_upto_region 4 with fail
  clear hrun
  obtain ⟨M, hM, hMl, hMt⟩ : ∃ M, put (zs (N + 600)) 0 l = M ∧ M.length = N + 600 ∧ M.take N = l := ⟨_, rfl, by rw [put_len (by rw [zs_len]; have := unhide HN; omega), zs_len], by
    unfold put
    rw [List.take_zero, List.nil_append, List.take_left' (unhide HN)]⟩
  rw [hM] at B2
  have HMM := hide (And.intro hMl hMt)
  clear hM hMl hMt
  generalize l.length = ll at *
  go_wp2_with fail
  go_loopg [5] 600 (fun gq iv wr => ∃ (j : Nat) (M : Bs), iv = .int .i64 j ∧ N ≤ j ∧ j ≤ N + 600 ∧ N + 600 - j ≤ gq ∧ Hid (By wr g M) ∧ Hid (M.length = N + 600 ∧ M.take N = l) ∧ Hid (Yb wr g (N + 600)) ∧ Hid (Below w.heap.size w wr))
  case atStart => exact ⟨N, M, by go_num, by omega, by omega, by omega, B2, HMM, Y2, W2⟩
  case round =>
    clear B2 HMM Y2 W2
    obtain ⟨j, M, rfl, hj1, hj2, hgk, HB, HM, HY, HW⟩ := hrel
    by_cases hlt : j < N + 600
    · have hjn : (j : Int) < (N : Int) + 600 := by omega
      obtain ⟨qv, hq⟩ : ∃ qv : Value, wr.cell? ⟨g, j, none⟩ = some qv := ⟨_, (unhide HB).at_ j _ (List.getElem?_eq_getElem (by have := (unhide HM).1; omega))⟩
      have hqf := (unhide HB).fr j
      have HB2 := hide (show By (wr.setCell ⟨g, j, none⟩ (.int .u8 165)) g (M.set j 165) from (unhide HB).set (p := j) (by have := (unhide HM).1; omega) 165)
      have HM2 := hide (show (M.set j 165).length = N + 600 ∧ (M.set j 165).take N = l from ⟨by rw [List.length_set]; exact (unhide HM).1, by rw [take_set hj1]; exact (unhide HM).2⟩)
      have HY2 := hide ((unhide HY).set j (.int .u8 165))
      have HW2 := hide ((unhide HW).setCell (p := ⟨g, j, none⟩) (Nat.le_of_eq (unhide HGE)) (.int .u8 165))
      clear HB HM HY HW
      go_wp2_with fail
      clear hq hqf
      go_roundg (N + 600 - (j + 1))
      case measure => omega
      case rel => exact ⟨j + 1, _, by go_num, by omega, by omega, by omega, HB2, HM2, HY2, HW2⟩
    · obtain rfl : j = N + 600 := by omega
      have hge : ¬ ((N : Int) + 600) < (N : Int) + 600 := by omega
      have hN6 : (N : Int) ≤ (N : Int) + 600 := by omega
      have hN7 : N ≤ N + 600 := by omega
      have HO := hide (own_yb (unhide HY) (unhide HB) (unhide HM).1 hN7 (Nat.le_of_eq (unhide HGE)) (by unfold maxLen; omega))
      rw [(unhide HM).2] at HO
      go_wp2_with fail
      go_ret
      exact ⟨_, _, rfl, unhide HO, unhide HW⟩
end Go.Proofs.YtjmomdnlibfbkaaDoor
