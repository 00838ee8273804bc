import Derived.Test.YtiibobjbcgbknaaDoorSbA
namespace Go.Proofs.YtiibobjbcgbknaaDoor
open Go.RowKit

set_option maxRecDepth 100000 in
set_option maxHeartbeats 2000000 in
theorem Check_yes (nm a : Bs) (r : List Bs) (b o c : Nat) (nv : Value) (w : World) (hok : okF ⟨nm, a :: r, []⟩ = true) (hs : ∀ l ∈ a :: r, l.length ≤ 268435456) (hl : r.length ≤ 268435456) (hcap : r.length + 1 ≤ c) (hb : b < w.heap.size)
    (hC : ∀ i u, (strs (a :: r))[i]? = some u → w.cell? ⟨b, o + i, none⟩ = some u) :
    Calls Tryd.prog 23 #[.agg #[.string (ba nm), .slice (some ⟨b, o, none⟩) (r.length + 1) c, nv]] w fun e w' => e = .returned (.int .i64 0) ∧ Below w.heap.size w w' := by
  simp only [okF, Bool.and_eq_true] at hok
  have hnm : nm.length ≤ 128 := by
    have := hok.1
    cases nm with
    | nil => cases this
    | cons x y => simp only [nameL, Bool.and_eq_true, decide_eq_true_eq] at this; simp; omega
  have c1 := hide (show ∀ W, Calls Tryd.prog 46 #[.string (ba nm)] W fun e w' => e = .returned (.bool true) ∧ w' = W from fun W => by
    have := isName_any (ba nm) W (by rw [ba_size]; omega)
    rw [ba_list, hok.1] at this
    exact this)
  have c2 := hide (fun W => isFirst_yes a W hok.2.1 (hs a List.mem_cons_self))
  have c3 := hide (fun (i : Nat) (hi : i < r.length) W => isFurther_yes r[i] W (List.all_eq_true.1 hok.2.2 _ (List.getElem_mem hi)) (hs _ (List.mem_cons_of_mem _ (List.getElem_mem hi))))
  have HC := hide (fun (W : World) (hB : Below w.heap.size w W) i u h => (hB.cell (p := ⟨b, o + i, none⟩) hb).trans (hC i u h))
  have d0 : w.cell? ⟨b, o, none⟩ = some (.string (ba a)) := hC 0 _ rfl
  have bx : Below w.heap.size w (w.alloc (.cells #[.string (ba nm), .slice (some ⟨b, o, none⟩) (r.length + 1) c, nv] 49)) := (Below.refl _ _).alloc (Nat.le_refl _) _
  have HX := hide (show ∀ W, Below (w.heap.size + 1) (w.alloc (.cells #[.string (ba nm), .slice (some ⟨b, o, none⟩) (r.length + 1) c, nv] 49)) W → W.cell? ⟨w.heap.size, 1, none⟩ = some (.slice (some ⟨b, o, none⟩) (r.length + 1) c) from fun W hB => (hB.cell (p := ⟨w.heap.size, 1, none⟩) (Nat.lt_succ_self _)).trans (cell_blk (World.alloc_heap_new w _) 1).1)
  have BX := hide bx
  have hne : b ≠ w.heap.size := by omega
  have hn0 : ((r.length : Int) + 1 == 0) = false := by simp; omega
  clear hok hC bx
  generalize ba nm = snm at *
  go_enter Tryd.func23, Tryd.ntmps23
  go_wp2_with (first | (go_at_call 46; refine (unhide c1 _).mono ?_; rintro e w1 ⟨rfl, rfl⟩) | (go_at_call 47; refine (unhide c2 _).mono ?_; rintro e w2 ⟨rfl, hb2⟩; have HB2 := hide (bl_t (unhide BX) hb2); have x1 := unhide HX w2 (hb2.mono (by simp)); clear hb2))
  all_goals
    clear c1 c2 HX
    go_loopw [27] (fun iv wr => ∃ k : Nat, k ≤ r.length ∧ iv = .int .i64 k ∧ Hid (Below w.heap.size w wr)) (fun iv _ => r.length - (intOf iv).toNat)
    case atStart => exact ⟨0, Nat.zero_le _, rfl, HB2⟩
    case round =>
      obtain ⟨k, hk, rfl, HB⟩ := hrel
      by_cases hlt : k < r.length
      · first
        | (exfalso; omega)
        | (have dk : wr.cell? ⟨b, o + 1 + k, none⟩ = some (.string (ba r[k])) := by
             rw [show o + 1 + k = o + (k + 1) by omega]
             exact unhide HC wr (unhide HB) (k + 1) _ (by simp [strs, hlt])
           have c4 := hide (unhide c3 k hlt)
           generalize ba r[k] = u at *
           clear c3 d0 x1
           go_wp2_with (go_at_call 48; refine (unhide c4 _).mono ?_; rintro e w3 ⟨rfl, hb3⟩; have HB3 := hide (bl_t (unhide HB) hb3); clear hb3)
           go_roundw
           case rel => exact ⟨k + 1, by omega, by go_num, HB3⟩
           case measure => simp [intOf]; omega)
      · obtain rfl : k = r.length := by omega
        go_wp2
        go_ret
        exact ⟨rfl, unhide HB⟩

end Go.Proofs.YtiibobjbcgbknaaDoor
