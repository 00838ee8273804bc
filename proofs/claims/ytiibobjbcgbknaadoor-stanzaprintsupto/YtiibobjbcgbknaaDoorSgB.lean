import Derived.Test.YtiibobjbcgbknaaDoorSgA
import Derived.Test.YtiibobjbcgbknaaDoorScC
namespace Go.Proofs.YtiibobjbcgbknaaDoor
open Go.RowKit

set_option maxRecDepth 100000 in
set_option maxHeartbeats 2000000 in
theorem Check_no (nm : Bs) (ls : List Bs) (pa : Option Addr) (c : Nat) (nv : Value) (w : World) (hok : okF ⟨nm, ls, []⟩ = false) (hn : nm.length ≤ 268435456) (hs : ∀ l ∈ ls, l.length ≤ 268435456) (hl : ls.length ≤ 268435456) (hcap : ls.length ≤ c) (hC : Cl w pa (strs ls)) :
    Calls Tryd.prog 23 #[.agg #[.string (ba nm), .slice pa ls.length c, nv]] w fun e w' => e = .returned (.int .i64 34) ∧ Below w.heap.size w w' := by
  have c1 := hide (show ∀ W, Calls Tryd.prog 46 #[.string (ba nm)] W fun e w' => e = .returned (.bool (nameL nm)) ∧ w' = W from fun W => by
    have := isName_any (ba nm) W (by rw [ba_size]; omega)
    rw [ba_list] at this
    exact this)
  have bx : Below w.heap.size w (w.alloc (.cells #[.string (ba nm), .slice pa ls.length c, nv] 49)) := (Below.refl _ _).alloc (Nat.le_refl _) _
  cases hnm : nameL nm
  · rw [hnm] at c1
    clear hok hC hcap hs
    generalize ba nm = snm at *
    generalize ls.length = n at *
    go_enter Tryd.func23, Tryd.ntmps23
    go_wp2_with (first | (go_at_call 46; refine (unhide c1 _).mono ?_; rintro e w1 ⟨rfl, rfl⟩))
    go_ret
    exact ⟨rfl, bx⟩
  · rw [hnm] at c1
    cases ls with
    | nil =>
      clear hok hC hs
      generalize ba nm = snm at *
      go_enter Tryd.func23, Tryd.ntmps23
      go_wp2_with (first | (go_at_call 46; refine (unhide c1 _).mono ?_; rintro e w1 ⟨rfl, rfl⟩))
      go_ret
      exact ⟨rfl, bx⟩
    | cons a r =>
      obtain ⟨b, o, rfl, hC2⟩ := hC (by simp [strs])
      have d0 : w.cell? ⟨b, o, none⟩ = some (.string (ba a)) := hC2 0 _ rfl
      have hb : b < w.heap.size := by
        by_cases hlt : b < w.heap.size
        · exact hlt
        · rw [World.cell?] at d0
          simp [Array.getElem?_eq_none (Nat.le_of_not_lt hlt)] at d0
      have hcap' : r.length + 1 ≤ c := by simpa using hcap
      have hl' : r.length + 1 ≤ 268435456 := by simpa using hl
      have c2 := hide (fun W => isFirst_any a W (hs a List.mem_cons_self))
      have HX := hide (show ∀ W, Below (w.heap.size + 1) (w.alloc (.cells #[.string (ba nm), .slice (some ⟨b, o, none⟩) (r.length + 1) c, nv] 49)) W → W.cell? ⟨w.heap.size, 1, none⟩ = some (.slice (some ⟨b, o, none⟩) (r.length + 1) c) from fun W hB => (hB.cell (p := ⟨w.heap.size, 1, none⟩) (Nat.lt_succ_self _)).trans (cell_blk (World.alloc_heap_new w _) 1).1)
      have BX := hide (show Below w.heap.size w (w.alloc (.cells #[.string (ba nm), .slice (some ⟨b, o, none⟩) (r.length + 1) c, nv] 49)) from bx)
      have hne : b ≠ w.heap.size := by omega
      have hn0 : ((r.length : Int) + 1 == 0) = false := by simp; omega
      cases hfa : firL a
      · rw [hfa] at c2
        clear hok hs hC hC2 hcap hl bx hfa hnm HX
        generalize ba nm = snm at *
        show Calls Tryd.prog 23 #[.agg #[.string snm, .slice (some ⟨b, o, none⟩) (r.length + 1) c, nv]] w _
        go_enter Tryd.func23, Tryd.ntmps23
        go_wp2_with (first | (go_at_call 46; refine (unhide c1 _).mono ?_; rintro e w1 ⟨rfl, rfl⟩) | (go_at_call 47; refine (unhide c2 _).mono ?_; rintro e w2 ⟨rfl, hb2⟩; have HB2 := hide (bl_t (unhide BX) hb2); clear hb2))
        go_ret
        exact ⟨rfl, unhide HB2⟩
      · rw [hfa] at c2
        have hno : ¬ ∀ l ∈ r, furL l = true := fun h => by
          have : okF ⟨nm, a :: r, []⟩ = true := by
            show (nameL nm && (firL a && r.all furL)) = true
            rw [hnm, hfa, List.all_eq_true.2 h]
            rfl
          rw [hok] at this
          cases this
        have c3 := hide (fun (i : Nat) (hi : i < r.length) W => isFurther_any r[i] W (hs _ (List.mem_cons_of_mem _ (List.getElem_mem hi))))
        have HC := hide (fun (W : World) (hB : Below w.heap.size w W) i u h => (hB.cell (p := ⟨b, o + i, none⟩) hb).trans (hC2 i u h))
        have HNO := hide hno
        clear hok hs hC hC2 hcap hl bx hfa hnm hno
        generalize ba nm = snm at *
        show Calls Tryd.prog 23 #[.agg #[.string snm, .slice (some ⟨b, o, none⟩) (r.length + 1) c, nv]] w _
        go_enter Tryd.func23, Tryd.ntmps23
        go_wp2_with (first | (go_at_call 46; refine (unhide c1 _).mono ?_; rintro e w1 ⟨rfl, rfl⟩) | (go_at_call 47; refine (unhide c2 _).mono ?_; rintro e w2 ⟨rfl, hb2⟩; have HB2 := hide (bl_t (unhide BX) hb2); have x1 := unhide HX w2 (hb2.mono (by simp)); clear hb2))
        all_goals
          clear c1 c2 HX
          go_loopw [27] (fun iv wr => ∃ k : Nat, k ≤ r.length ∧ iv = .int .i64 k ∧ Hid (Below w.heap.size w wr) ∧ Hid (∀ j (hj : j < r.length), j < k → furL r[j] = true)) (fun iv _ => r.length - (intOf iv).toNat)
          case atStart => exact ⟨0, Nat.zero_le _, rfl, HB2, hide (fun j _ h => absurd h (Nat.not_lt_zero _))⟩
          case round =>
            obtain ⟨k, hk, rfl, HB, HA⟩ := hrel
            by_cases hlt : k < r.length
            · first
              | (exfalso; omega)
              | (have dk : wr.cell? ⟨b, o + 1 + k, none⟩ = some (.string (ba r[k])) := by
                   rw [show o + 1 + k = o + (k + 1) by omega]
                   exact unhide HC wr (unhide HB) (k + 1) _ (by simp [strs, hlt])
                 have c4 := hide (unhide c3 k hlt)
                 cases hfk : furL r[k]
                 · rw [hfk] at c4
                   clear hfk
                   generalize ba r[k] = u at *
                   clear c3 d0 x1
                   go_wp2_with (go_at_call 48; refine (unhide c4 _).mono ?_; rintro e w3 ⟨rfl, hb3⟩; have HB3 := hide (bl_t (unhide HB) hb3); clear hb3)
                   go_ret
                   exact ⟨rfl, unhide HB3⟩
                 · rw [hfk] at c4
                   have HA2 := hide (show ∀ j (hj : j < r.length), j < k + 1 → furL r[j] = true from fun j hj hjk => by
                     by_cases e : j < k
                     · exact unhide HA j hj e
                     · obtain rfl : j = k := by omega
                       exact hfk)
                   clear hfk
                   generalize ba r[k] = u at *
                   clear c3 d0 x1
                   go_wp2_with (go_at_call 48; refine (unhide c4 _).mono ?_; rintro e w3 ⟨rfl, hb3⟩; have HB3 := hide (bl_t (unhide HB) hb3); clear hb3)
                   go_roundw
                   case rel => exact ⟨k + 1, by omega, by go_num, HB3, HA2⟩
                   case measure => simp [intOf]; omega)
            · exact absurd (fun l hl => by
                obtain ⟨j, hj, rfl⟩ := List.getElem_of_mem hl
                exact unhide HA j hj (by omega)) (unhide HNO)

end Go.Proofs.YtiibobjbcgbknaaDoor
