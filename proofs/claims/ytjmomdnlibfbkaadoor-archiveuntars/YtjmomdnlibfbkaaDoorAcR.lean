import Derived.Test.YtjmomdnlibfbkaaDoorAcH
namespace Go.Proofs.YtjmomdnlibfbkaaDoor
open Go.RowKit

def rm : Bs := List.replicate 600 165
theorem rm_len : rm.length = 600 := List.length_replicate
/-- BYTES WITH MARKED ROOM BEHIND THEM. -/
theorem room_is {M l : Bs} {N : Nat} (hN : l.length = N) (hM : M.length = N + 600) (ht : M.take N = l) (hr : ∀ i, N ≤ i → i < N + 600 → M[i]? = some 165) : M = l ++ rm := by
  refine List.ext_getElem? fun i => ?_
  by_cases h1 : i < N
  · rw [List.getElem?_append_left (by omega), ← ht, List.getElem?_take_of_lt h1]
  · rw [List.getElem?_append_right (by omega)]
    unfold rm
    rw [List.getElem?_replicate]
    by_cases h2 : i < N + 600
    · rw [if_pos (by omega), hr i (by omega) h2]
    · rw [if_neg (by omega), List.getElem?_eq_none (by omega)]
theorem fld_front' {l m : Bs} {N : Nat} (h : l.length = N) : fld 0 N (l ++ m) = l := by
  unfold fld
  rw [List.drop_zero, List.take_left' h]
theorem By.rm {w : World} {g : Nat} {l : Bs} {N : Nat} (h : By w g (l ++ rm)) (hN : l.length = N) : Rb w (.slice (some ⟨g, 0, none⟩) N (N + 600)) l := by
  have q := h.rb (o := 0) (n := N) (c := N + 600) (by rw [List.length_append, hN]; omega) (by omega)
  rw [fld_front' hN] at q
  exact q
set_option maxRecDepth 100000 in
set_option maxHeartbeats 8000000 in
theorem roomy_two {w : World} {v : Value} {l : Bs} (h : Rb w v l) (hl : l.length ≤ 140737488351232) :
    Calls Tryd.prog 10 #[v] w fun e w' => e = .returned (.slice (some ⟨w.heap.size, 0, none⟩) l.length (l.length + 600)) ∧ By w' w.heap.size (l ++ rm) ∧ Below w.heap.size w w' := by
  obtain ⟨a, c, rfl, hc⟩ := h.form
  have HR := hide h
  obtain ⟨N, hN⟩ : ∃ N, l.length = N := ⟨_, rfl⟩
  have HN := hide hN
  have mk := makeY (N + 600) (by omega)
  rw [show (((N + 600 : Nat)) : Int) = (N : Int) + 600 by omega] at mk
  have hw1 : IntKind.i64.wrap ((N : Int) + 600) = (N : Int) + 600 := IntWalk.i64_in _ (by omega)
  rw [hN] at HR hl ⊢
  clear h hN
  go_enter Tryd.func10, Tryd.ntmps10
  go_upto_region 3 with fail
  have B1 := hide (By.made w (N + 600))
  have W1 := hide ((Below.refl w.heap.size w).alloc (Nat.le_refl _) (.cells (madeCells #[.int .u8 0] (N + 600)) 5))
  have R1 := hide ((unhide HR).later (unhide W1))
  obtain ⟨g, hg⟩ : ∃ g, w.heap.size = g := ⟨_, rfl⟩
  have HGE := hide hg
  rw [hg] at B1 ⊢
  generalize World.alloc w (.cells (madeCells #[.int .u8 0] (N + 600)) 5) = w1 at *
  have H1 := hide (show l.length ≤ N + 600 by have := unhide HN; omega)
  have H2 := hide (show 0 + (N + 600) ≤ (zs (N + 600)).length by rw [zs_len]; omega)
  clear mk HR hg
  obtain ⟨w2, hrun, hb2, ho2, _⟩ := run_copyY (dc := N + 600) 3 (unhide H1) (unhide B1) (unhide H2) (unhide R1)
  have B2 := hide hb2
  have W2 := hide ((unhide W1).trans (ho2.bel.mono (Nat.le_of_eq (unhide HGE))))
  clear hb2 ho2 B1 W1 R1 H1 H2
  go_upto_region 4 with fail
  clear hrun
  obtain ⟨M, hM, hMl, hMt⟩ : ∃ M, put (zs (N + 600)) 0 l = M ∧ M.length = N + 600 ∧ M.take N = l := ⟨_, rfl, by rw [put_len (by rw [zs_len]; have := unhide HN; omega), zs_len], by
    unfold put
    rw [List.take_zero, List.nil_append, List.take_left' (unhide HN)]⟩
  rw [hM] at B2
  have HMM := hide (show M.length = N + 600 ∧ M.take N = l ∧ ∀ i, N ≤ i → i < N → M[i]? = some 165 from ⟨hMl, hMt, fun i h1 h2 => by omega⟩)
  clear hM hMl hMt
  have HRI := hide (fun (M : Bs) (h1 : M.length = N + 600) (h2 : M.take N = l) (h3 : ∀ i, N ≤ i → i < N + 600 → M[i]? = some 165) => room_is (unhide HN) h1 h2 h3)
  generalize l.length = ll at *
  go_wp2_with fail
  go_loopg [5] 600 (fun gq iv wr => ∃ (j : Nat) (M : Bs), iv = .int .i64 j ∧ N ≤ j ∧ j ≤ N + 600 ∧ N + 600 - j ≤ gq ∧ Hid (By wr g M) ∧ Hid (M.length = N + 600 ∧ M.take N = l ∧ ∀ i, N ≤ i → i < j → M[i]? = some 165) ∧ Hid (Below w.heap.size w wr))
  case atStart => exact ⟨N, M, by go_num, by omega, by omega, by omega, B2, HMM, W2⟩
  case round =>
    clear B2 HMM W2
    obtain ⟨j, M, rfl, hj1, hj2, hgk, HB, HM, HW⟩ := hrel
    by_cases hlt : j < N + 600
    · have hjn : (j : Int) < (N : Int) + 600 := by omega
      obtain ⟨qv, hq⟩ : ∃ qv : Value, wr.cell? ⟨g, j, none⟩ = some qv := ⟨_, (unhide HB).at_ j _ (List.getElem?_eq_getElem (by have := (unhide HM).1; omega))⟩
      have hqf := (unhide HB).fr j
      have HB2 := hide (show By (wr.setCell ⟨g, j, none⟩ (.int .u8 165)) g (M.set j 165) from (unhide HB).set (p := j) (by have := (unhide HM).1; omega) 165)
      have HM2 := hide (show (M.set j 165).length = N + 600 ∧ (M.set j 165).take N = l ∧ ∀ i, N ≤ i → i < j + 1 → (M.set j 165)[i]? = some 165 from ⟨by rw [List.length_set]; exact (unhide HM).1, by rw [take_set hj1]; exact (unhide HM).2.1, fun i h1 h2 => by
        by_cases e : j = i
        · subst e
          rw [List.getElem?_set_self (by have := (unhide HM).1; omega)]
        · rw [List.getElem?_set_ne e]
          exact (unhide HM).2.2 i h1 (by omega)⟩)
      have HW2 := hide ((unhide HW).setCell (p := ⟨g, j, none⟩) (Nat.le_of_eq (unhide HGE)) (.int .u8 165))
      clear HB HM HW
      go_wp2_with fail
      clear hq hqf
      go_roundg (N + 600 - (j + 1))
      case measure => omega
      case rel => exact ⟨j + 1, _, by go_num, by omega, by omega, by omega, HB2, HM2, HW2⟩
    · obtain rfl : j = N + 600 := by omega
      have hge : ¬ ((N : Int) + 600) < (N : Int) + 600 := by omega
      have hN6 : (N : Int) ≤ (N : Int) + 600 := by omega
      have hN7 : N ≤ N + 600 := by omega
      have hMM := unhide HRI M (unhide HM).1 (unhide HM).2.1 (unhide HM).2.2
      subst hMM
      go_wp2_with fail
      go_ret
      rw [unhide HGE]
      exact ⟨rfl, unhide HB, (unhide HGE) ▸ unhide HW⟩
set_option maxRecDepth 100000 in
set_option maxHeartbeats 8000000 in
theorem spared_yes {w : World} {g N : Nat} {l : Bs} (h : By w g (l ++ rm)) (hl : l.length = N) (hN : N ≤ 140737488351232) :
    Calls Tryd.prog 14 #[.slice (some ⟨g, 0, none⟩) N (N + 600)] w fun e w' => e = .returned (.bool true) ∧ w' = w := by
  have HC := hide (show ∀ i, N ≤ i → i < N + 600 → w.cell? ⟨g, i, none⟩ = some (.int .u8 165) from fun i h1 h2 => h.at_ i 165 (by
    rw [List.getElem?_append_right (by omega)]
    unfold rm
    rw [List.getElem?_replicate, if_pos (by omega)]))
  have hw1 : IntKind.i64.wrap ((N : Int) + 600) = (N : Int) + 600 := IntWalk.i64_in _ (by omega)
  clear h hl
  go_enter Tryd.func14, Tryd.ntmps14
  go_wp2_with fail
  go_loopg [5] 600 (fun gq iv wr => ∃ j : Nat, iv = .int .i64 j ∧ N ≤ j ∧ j ≤ N + 600 ∧ N + 600 - j ≤ gq ∧ wr = w)
  case atStart => exact ⟨N, by go_num, by omega, by omega, by omega, rfl⟩
  case round =>
    obtain ⟨j, rfl, hj1, hj2, hgk, rfl⟩ := hrel
    by_cases hlt : j < N + 600
    · have hjn : (j : Int) < (N : Int) + 600 := by omega
      have c0 := unhide HC j hj1 hlt
      go_wp2_with fail
      go_roundg (N + 600 - (j + 1))
      case measure => omega
      case rel => exact ⟨j + 1, by go_num, by omega, by omega, by omega, rfl⟩
    · obtain rfl : j = N + 600 := by omega
      have hge : ¬ ((N : Int) + 600) < (N : Int) + 600 := by omega
      go_wp2_with fail
      go_ret
      exact ⟨rfl, rfl⟩
end Go.Proofs.YtjmomdnlibfbkaaDoor
