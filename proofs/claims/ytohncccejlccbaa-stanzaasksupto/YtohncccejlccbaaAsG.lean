import Derived.Test.YtohncccejlccbaaAsM
namespace Go.Proofs.Ytohncccejlccbaa
open Go.RowKit Go.Shelf

def hit (n : Bs) (f : Gd) : Bool := decide (small f.nm = small n)
def getR (p : List Gd) (n : Bs) : Gd × Bool := match p.find? (hit n) with | some f => (f, true) | none => (⟨[], [], []⟩, false)
theorem getR_yes {p : List Gd} {n : Bs} {k : Nat} (hk : k < p.length) (hb : small p[k].nm = small n) (hz : ∀ j f, j < k → p[j]? = some f → ¬ small f.nm = small n) : getR p n = (p[k], true) := by
  have : p.find? (hit n) = some p[k] := by
    rw [List.find?_eq_some_iff_getElem]
    refine ⟨decide_eq_true hb, k, hk, rfl, fun j hj => ?_⟩
    have := hz j p[j] hj (List.getElem?_eq_getElem (by omega))
    simp [hit, this]
  unfold getR
  rw [this]
theorem getR_no {p : List Gd} {n : Bs} (hz : ∀ j f, j < p.length → p[j]? = some f → ¬ small f.nm = small n) : getR p n = (⟨[], [], []⟩, false) := by
  have : p.find? (hit n) = none := by
    rw [List.find?_eq_none]
    intro f hf
    obtain ⟨i, hi, e⟩ := List.getElem_of_mem hf
    have := hz i f hi (by rw [List.getElem?_eq_getElem hi, e])
    simp [hit, this]
  unfold getR
  rw [this]

set_option maxHeartbeats 2000000 in
theorem rfind_z (p : List Gd) (pa : Option Addr) (pc : Nat) (n : Bs) (w : World) (hP : ParZ w (.slice pa p.length pc) p) (hl : p.length ≤ 16777216) (hn : n.length ≤ 16777216) (hnm : ∀ f ∈ p, f.nm.length ≤ 16777216) :
    Calls Try.prog 24 #[.slice pa p.length pc, .string (ba n)] w fun e w' => Below w.heap.size w w' ∧ ((∃ (k : Nat) (f : Gd), p[k]? = some f ∧ e = .returned (.int .i64 k) ∧ getR p n = (f, true)) ∨ (e = .returned (.int .i64 (-1)) ∧ getR p n = (⟨[], [], []⟩, false))) := by
  have HP := hide hP
  have HNM := hide hnm
  obtain ⟨N, hN⟩ : ∃ N, p.length = N := ⟨_, rfl⟩
  rw [hN] at hl ⊢ HP
  have HN := hide hN
  clear hP hnm hN
  go_enter Try.func24, Try.ntmps24
  go_wp2_with fail
  go_loopw [5] (fun iv wr => ∃ k : Nat, k ≤ N ∧ iv = .int .i64 k ∧ Hid (∀ j f, j < k → p[j]? = some f → ¬ small f.nm = small n) ∧ Hid (Below w.heap.size w wr)) (fun iv _ => N - (intOf iv).toNat)
  case atStart => exact ⟨0, Nat.zero_le _, rfl, hide (fun j _ h => absurd h (Nat.not_lt_zero _)), hide (Below.refl _ _)⟩
  case round =>
    obtain ⟨k, hk, rfl, HZ, HB⟩ := hrel
    by_cases hlt : k < N
    · have hkp : k < p.length := by have := unhide HN; omega
      obtain ⟨g, o, rfl, fz⟩ := ((unhide HP).later (unhide HB)).fld k hkp
      have c0 := fz.nm
      have hsz := unhide HNM p[k] (List.getElem_mem hkp)
      have hltz : (k : Int) < (N : Int) := by omega
      by_cases hb : small p[k].nm = small n
      · have c1 := hide (fun w' => by have := rAlike_any (ba p[k].nm) (ba n) w' (by rw [ba_size]; omega) (by rw [ba_size]; omega); rw [ba_list, ba_list, decide_eq_true hb] at this; exact this)
        have HF := hide (getR_yes hkp hb (unhide HZ))
        clear HZ fz
        go_wp2_with (go_at_call 33; refine (unhide c1 _).mono ?_; rintro e w2 ⟨rfl, hb2⟩; have HB2 := hide (bl_t (unhide HB) hb2); clear hb2)
        go_ret
        exact ⟨unhide HB2, .inl ⟨k, p[k], List.getElem?_eq_getElem hkp, rfl, unhide HF⟩⟩
      · have c1 := hide (fun w' => by have := rAlike_any (ba p[k].nm) (ba n) w' (by rw [ba_size]; omega) (by rw [ba_size]; omega); rw [ba_list, ba_list, decide_eq_false hb] at this; exact this)
        have HZ2 := hide (show ∀ j f, j < k + 1 → p[j]? = some f → ¬ small f.nm = small n from fun j f hj hf => by
          by_cases e : j < k
          · exact unhide HZ j f e hf
          · obtain rfl : j = k := by omega
            rw [List.getElem?_eq_getElem hkp] at hf
            cases hf
            exact hb)
        clear HZ fz
        go_wp2_with (go_at_call 33; refine (unhide c1 _).mono ?_; rintro e w2 ⟨rfl, hb2⟩; have HB2 := hide (bl_t (unhide HB) hb2); clear hb2)
        go_roundw
        case rel => exact ⟨k + 1, by omega, by go_num, HZ2, HB2⟩
        case measure => simp [intOf]; omega
    · have HF := hide (getR_no (p := p) (n := n) (fun j f hj hf => unhide HZ j f (by have := unhide HN; omega) hf))
      clear HZ
      go_wp2_with fail
      go_ret
      exact ⟨unhide HB, .inr ⟨rfl, unhide HF⟩⟩

set_option maxHeartbeats 2000000 in
theorem rGet_u (p : List Gd) (pa : Option Addr) (pc : Nat) (n : Bs) (w : World) (hP : ParZ w (.slice pa p.length pc) p) (hl : p.length ≤ 16777216) (hn : n.length ≤ 16777216) (hnm : ∀ f ∈ p, f.nm.length ≤ 16777216) :
    Calls Try.prog 6 #[.slice pa p.length pc, .string (ba n)] w fun e w' => ∃ la lc na nc, e = .returned (.tuple #[.agg #[.string (ba (getR p n).1.nm), .slice la (getR p n).1.ls.length lc, .slice na (getR p n).1.ns.length nc], .bool (getR p n).2]) ∧ (getR p n).1.ls.length ≤ lc ∧ Cl w' la (strs (getR p n).1.ls) ∧ Cl w' na (intz (getR p n).1.ns) ∧ Below w.heap.size w w' := by
  have BX := hide ((Below.refl w.heap.size w).alloc (Nat.le_refl _) (.cells #[.string ⟨#[]⟩, .slice none 0 0, .slice none 0 0] 30))
  have cF0 := rfind_z p pa pc n (w.alloc (.cells #[.string ⟨#[]⟩, .slice none 0 0, .slice none 0 0] 30)) (hP.later (unhide BX)) hl hn hnm
  have HP := hide hP
  have HR1 := hide (World.alloc_heap_new w (.cells #[.string ⟨#[]⟩, .slice none 0 0, .slice none 0 0] 30))
  clear hP hnm
  cases hg : p.find? (hit n) with
  | some f0 =>
    have hgr : getR p n = (f0, true) := by unfold getR; rw [hg]
    have cF := hide (show Calls Try.prog 24 #[.slice pa p.length pc, .string (ba n)] (w.alloc (.cells #[.string ⟨#[]⟩, .slice none 0 0, .slice none 0 0] 30)) fun e w' => Below (w.alloc (.cells #[.string ⟨#[]⟩, .slice none 0 0, .slice none 0 0] 30)).heap.size (w.alloc (.cells #[.string ⟨#[]⟩, .slice none 0 0, .slice none 0 0] 30)) w' ∧ ∃ k : Nat, p[k]? = some f0 ∧ e = .returned (.int .i64 k) from by
      refine cF0.mono ?_
      rintro e w' ⟨hb, ⟨k, f, h1, h2, h3⟩ | ⟨_, h3⟩⟩
      · rw [hgr] at h3
        cases h3
        exact ⟨hb, k, h1, h2⟩
      · rw [hgr] at h3
        cases h3)
    rw [hgr]
    clear cF0 hg hgr
    go_enter Try.func6, Try.ntmps6
    go_wp2_with (go_at_call 24; refine (unhide cF).mono ?_; rintro e w1 ⟨hb, k, hk, rfl⟩; have HB1 := hide hb; have hk0 : ¬ (k : Int) < 0 := (by omega); have hkl := (List.getElem?_eq_some_iff.1 hk).1; have hkz : (k : Int) < (p.length : Int) := (by omega); obtain ⟨g, o, rfl, fz⟩ := (unhide HP).fld k hkl; have hpk : p[k] = f0 := (List.getElem?_eq_some_iff.1 hk).2; rw [hpk] at fz; have c0 := cell_later fz.nm (bl_t (unhide BX) hb); obtain ⟨la, lc, d1, hcl, hc1⟩ := fz.ls; obtain ⟨na, nc, d2, hc2⟩ := fz.ns; have c1 := cell_later d1 (bl_t (unhide BX) hb); have c2 := cell_later d2 (bl_t (unhide BX) hb); clear d1 d2; have HC1 := hide hc1; have HC2 := hide hc2; have HRw := hide ((hb.block w.heap.size (by simp)).trans (unhide HR1)); have r0 := (cell_blk (unhide HRw) 0).2; have r1 := (cell_blk (unhide HRw) 1).2; have r2 := (cell_blk (unhide HRw) 2).2; have q0 := (cell_blk (unhide HRw) 0).1; have q1 := (cell_blk (unhide HRw) 1).1; have q2 := (cell_blk (unhide HRw) 2).1; clear hb fz hc1 hc2)
    have HRF := hide (set_blk (set_blk (set_blk (unhide HRw) 0 (.string (ba f0.nm))) 1 (.slice la f0.ls.length lc)) 2 (.slice na f0.ns.length nc))
    have HBF := hide (show Below w.heap.size w (((w1.setCell ⟨w.heap.size, 0, none⟩ (.string (ba f0.nm))).setCell ⟨w.heap.size, 1, none⟩ (.slice la f0.ls.length lc)).setCell ⟨w.heap.size, 2, none⟩ (.slice na f0.ns.length nc)) from below_set (below_set (below_set (bl_t (unhide BX) (unhide HB1)) _ 0 _ (Nat.le_refl _)) _ 1 _ (Nat.le_refl _)) _ 2 _ (Nat.le_refl _))
    generalize ((w1.setCell ⟨w.heap.size, 0, none⟩ (.string (ba f0.nm))).setCell ⟨w.heap.size, 1, none⟩ (.slice la f0.ls.length lc)).setCell ⟨w.heap.size, 2, none⟩ (.slice na f0.ns.length nc) = WF at *
    have x0 := (cell_blk (unhide HRF) 0).1
    have x1 := (cell_blk (unhide HRF) 1).1
    have x2 := (cell_blk (unhide HRF) 2).1
    simp at x0 x1 x2
    refine bodyPost_ret (v := .tuple #[.agg #[.string (ba f0.nm), .slice la f0.ls.length lc, .slice na f0.ns.length nc], .bool true]) (by simp [results, Try.results6, go_sem, x0, x1, x2]) rfl ?_
    exact ⟨la, lc, na, nc, rfl, hcl, (unhide HC1).later (unhide HBF), (unhide HC2).later (unhide HBF), unhide HBF⟩
  | none =>
    have hgr : getR p n = (⟨[], [], []⟩, false) := by unfold getR; rw [hg]
    have cF := hide (show Calls Try.prog 24 #[.slice pa p.length pc, .string (ba n)] (w.alloc (.cells #[.string ⟨#[]⟩, .slice none 0 0, .slice none 0 0] 30)) fun e w' => Below (w.alloc (.cells #[.string ⟨#[]⟩, .slice none 0 0, .slice none 0 0] 30)).heap.size (w.alloc (.cells #[.string ⟨#[]⟩, .slice none 0 0, .slice none 0 0] 30)) w' ∧ e = .returned (.int .i64 (-1)) from by
      refine cF0.mono ?_
      rintro e w' ⟨hb, ⟨k, f, h1, h2, h3⟩ | ⟨h2, _⟩⟩
      · rw [hgr] at h3
        cases h3
      · exact ⟨hb, h2⟩)
    rw [hgr]
    clear cF0 hg hgr
    go_enter Try.func6, Try.ntmps6
    go_wp2_with (go_at_call 24; refine (unhide cF).mono ?_; rintro e w1 ⟨hb, rfl⟩; have HB1 := hide hb; have HRw := hide ((hb.block w.heap.size (by simp)).trans (unhide HR1)); have r0 := (cell_blk (unhide HRw) 0).2; have r1 := (cell_blk (unhide HRw) 1).2; have r2 := (cell_blk (unhide HRw) 2).2; have q0 := (cell_blk (unhide HRw) 0).1; have q1 := (cell_blk (unhide HRw) 1).1; have q2 := (cell_blk (unhide HRw) 2).1; clear hb)
    have HRF := hide (set_blk (set_blk (set_blk (unhide HRw) 0 (.string ⟨#[]⟩)) 1 (.slice none 0 0)) 2 (.slice none 0 0))
    have HBF := hide (show Below w.heap.size w (((w1.setCell ⟨w.heap.size, 0, none⟩ (.string ⟨#[]⟩)).setCell ⟨w.heap.size, 1, none⟩ (.slice none 0 0)).setCell ⟨w.heap.size, 2, none⟩ (.slice none 0 0)) from below_set (below_set (below_set (bl_t (unhide BX) (unhide HB1)) _ 0 _ (Nat.le_refl _)) _ 1 _ (Nat.le_refl _)) _ 2 _ (Nat.le_refl _))
    generalize ((w1.setCell ⟨w.heap.size, 0, none⟩ (.string ⟨#[]⟩)).setCell ⟨w.heap.size, 1, none⟩ (.slice none 0 0)).setCell ⟨w.heap.size, 2, none⟩ (.slice none 0 0) = WF at *
    have x0 := (cell_blk (unhide HRF) 0).1
    have x1 := (cell_blk (unhide HRF) 1).1
    have x2 := (cell_blk (unhide HRF) 2).1
    simp at x0 x1 x2
    refine bodyPost_ret (v := .tuple #[.agg #[.string ⟨#[]⟩, .slice none 0 0, .slice none 0 0], .bool false]) (by simp [results, Try.results6, go_sem, x0, x1, x2]) rfl ?_
    exact ⟨none, 0, none, 0, rfl, Nat.le_refl _, (fun h => absurd h (by simp [strs])), (fun h => absurd h (by simp [intz])), unhide HBF⟩
end Go.Proofs.Ytohncccejlccbaa
