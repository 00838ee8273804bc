import Derived.Test.YtiibobjbcgbknaaDoorRpA
import Derived.Test.YtiibobjbcgbknaaDoorStX
namespace Go.Proofs.YtiibobjbcgbknaaDoor
open Go.RowKit

theorem okF_iff (f : Fd) : okF f = true ↔ nameL f.nm = true ∧ f.ls ≠ [] ∧ ∀ j (h : j < f.ls.length), mayL f.ls[j] j = true := by
  unfold okF
  cases hl : f.ls with
  | nil => simp
  | cons a r =>
    simp only [Bool.and_eq_true, List.all_eq_true]
    constructor
    · rintro ⟨h1, h2, h3⟩
      refine ⟨h1, by simp, fun j hj => ?_⟩
      cases j with
      | zero => simpa [mayL] using h2
      | succ j =>
        have : r[j]'(by simpa using hj) ∈ r := List.getElem_mem _
        simpa [mayL] using h3 _ this
    · rintro ⟨h1, _, h3⟩
      refine ⟨h1, (show mayL a 0 = true from h3 0 (Nat.succ_pos _)), fun l hm => ?_⟩
      obtain ⟨j, hj, rfl⟩ := List.getElem_of_mem hm
      exact (show mayL r[j] (j + 1) = true from h3 (j + 1) (Nat.succ_lt_succ hj))
theorem okF_no {f : Fd} (h : ¬ (nameL f.nm = true ∧ f.ls ≠ [] ∧ ∀ j (h : j < f.ls.length), mayL f.ls[j] j = true)) : okF f = false := by
  cases e : okF f
  · rfl
  · exact absurd ((okF_iff f).1 e) h
def ckN (f : Fd) : Int := if okF f = true then 0 else 34

set_option maxRecDepth 100000 in
set_option maxHeartbeats 4000000 in
theorem rCheck_any (f : Fd) (pa : Option Addr) (c : Nat) (nv : Value) (w : World) (hn : f.nm.length ≤ 16777216) (hs : ∀ l ∈ f.ls, l.length ≤ 16777216) (hl : f.ls.length ≤ 16777216) (hC : Cl w pa (strs f.ls)) :
    Calls Tryd.prog 24 #[.agg #[.string (ba f.nm), .slice pa f.ls.length c, nv]] w fun e w' => e = .returned (.int .i64 (ckN f)) ∧ Below w.heap.size w w' := by
  have c1 := hide (fun W => show Calls Tryd.prog 49 #[.string (ba f.nm)] W fun e w' => e = .returned (.bool (nameL f.nm)) ∧ w' = W by
    have := rName_any (ba f.nm) W (by rw [ba_size]; omega)
    rw [ba_list] at this
    exact this)
  have bx : Below w.heap.size w (w.alloc (.cells #[.string (ba f.nm), .slice pa f.ls.length c, nv] 49)) := (Below.refl _ _).alloc (Nat.le_refl _) _
  by_cases hnm : nameL f.nm = true
  · rw [hnm] at c1
    by_cases he : f.ls.length = 0
    · have HF := hide (show ckN f = 34 by unfold ckN; rw [okF_no (fun h => h.2.1 (List.length_eq_zero_iff.1 he))]; rfl)
      rw [he]
      have BX := hide bx
      rw [he] at BX
      clear bx hC hs hl
      generalize ba f.nm = nm at *
      go_enter Tryd.func24, Tryd.ntmps24
      go_wp2_with (go_at_call 49; refine (unhide c1 _).mono ?_; rintro e w1 ⟨rfl, rfl⟩)
      go_ret
      exact ⟨(by rw [unhide HF]; rfl), unhide BX⟩
    · obtain ⟨b, o, rfl, hC2⟩ := hC (by rw [strs, List.length_map]; omega)
      obtain ⟨N, hN⟩ : ∃ N, f.ls.length = N := ⟨_, rfl⟩
      have bx := (show Below w.heap.size w (w.alloc (.cells #[.string (ba f.nm), .slice (some ⟨b, o, none⟩) N c, nv] 49)) from (Below.refl _ _).alloc (Nat.le_refl _) _)
      have HL := hide (fun (j : Nat) (hj : j < N) => show j < f.ls.length by omega)
      have HC2 := hide (fun (j : Nat) (hj : j < N) => (show (w.alloc (.cells #[.string (ba f.nm), .slice (some ⟨b, o, none⟩) N c, nv] 49)).cell? ⟨b, o + j, none⟩ = some (.string (ba (f.ls[j]'(unhide HL j hj)))) from cell_later (hC2 j _ (by rw [strs, List.getElem?_map, List.getElem?_eq_getElem (unhide HL j hj)]; rfl)) bx))
      have HM := hide (fun (j : Nat) (hj : j < f.ls.length) (W : World) => show Calls Tryd.prog 50 #[.string (ba f.ls[j]), .int .i64 j] W fun e w' => e = .returned (.bool (mayL f.ls[j] j)) ∧ w' = W by
        have := rmay_any (ba f.ls[j]) j W (by rw [ba_size]; exact Nat.le_trans (hs _ (List.getElem_mem hj)) (by decide)) (by omega)
        rw [ba_list] at this
        exact this)
      have HI := hide (okF_iff f)
      have HNM := hide hnm
      have HNE := hide (show f.ls ≠ [] from fun e => he (by rw [e]; rfl))
      have BX := hide bx
      have HNN := hide hN
      rw [hN] at hl he ⊢
      have hpos : ¬ ((N : Int) = 0) := by omega
      have hposb : ((N : Int) == 0) = false := by simp; omega
      clear hC hC2 bx hs hnm he hN
      generalize ba f.nm = nm at *
      go_enter Tryd.func24, Tryd.ntmps24
      go_wp2_with (go_at_call 49; refine (unhide c1 _).mono ?_; rintro e w1 ⟨rfl, rfl⟩)
      clear c1
      go_loop [4, 5] (fun i _ => ∃ j : Nat, j ≤ N ∧ i = .int .i64 j ∧ Hid (∀ m (hm : m < N), m < j → mayL (f.ls[m]'(unhide HL m hm)) m = true)) (fun i _ => N - (intOf i).toNat)
      case atStart => exact ⟨0, Nat.zero_le _, rfl, hide (fun m _ h => absurd h (Nat.not_lt_zero _))⟩
      case round =>
        obtain ⟨j, hj, rfl, HZ⟩ := hrel
        by_cases hlt : j < N
        · have cj := unhide HC2 j hlt
          have cm := hide (unhide HM j (unhide HL j hlt))
          cases hm : mayL (f.ls[j]'(unhide HL j hlt)) j
          · rw [hm] at cm
            have HF := hide (show ckN f = 34 by
              unfold ckN
              rw [okF_no (fun h => by have := h.2.2 j (unhide HL j hlt); rw [hm] at this; cases this)]
              rfl)
            clear hm HZ HM HC2
            generalize ba (f.ls[j]'(unhide HL j hlt)) = s at *
            go_wp2_with (go_at_call 50; refine (unhide cm _).mono ?_; rintro e w2 ⟨rfl, rfl⟩)
            go_ret
            exact ⟨(by rw [unhide HF]; rfl), unhide BX⟩
          · rw [hm] at cm
            have HZ2 := hide (show ∀ m (hm : m < N), m < j + 1 → mayL (f.ls[m]'(unhide HL m hm)) m = true from fun m hm2 hmj => by
              by_cases e : m < j
              · exact unhide HZ m hm2 e
              · obtain rfl : m = j := by omega
                exact hm)
            clear hm HZ HM HC2
            generalize ba (f.ls[j]'(unhide HL j hlt)) = s at *
            go_wp2_with (go_at_call 50; refine (unhide cm _).mono ?_; rintro e w2 ⟨rfl, rfl⟩)
            go_round
            case rel => exact ⟨j + 1, by omega, by go_num, HZ2⟩
            case measure => simp [intOf]; omega
        · have HF := hide (show ckN f = 0 by
            unfold ckN
            rw [if_pos ((unhide HI).2 ⟨unhide HNM, unhide HNE, fun m hm => unhide HZ m (by have := unhide HNN; omega) (by have := unhide HNN; omega)⟩)])
          clear HZ HM HC2
          go_wp2_with fail
          go_ret
          exact ⟨(by rw [unhide HF]; rfl), unhide BX⟩
  · have HF := hide (show ckN f = 34 by unfold ckN; rw [okF_no (fun h => hnm h.1)]; rfl)
    have hnm2 : nameL f.nm = false := by simpa using hnm
    rw [hnm2] at c1
    have BX := hide bx
    clear bx hC hs hl hnm hnm2
    generalize ba f.nm = nm at *
    generalize f.ls.length = n at *
    go_enter Tryd.func24, Tryd.ntmps24
    go_wp2_with (go_at_call 49; refine (unhide c1 _).mono ?_; rintro e w1 ⟨rfl, rfl⟩)
    go_ret
    exact ⟨(by rw [unhide HF]; rfl), unhide BX⟩
end Go.Proofs.YtiibobjbcgbknaaDoor
