import Derived.Test.YtohncccejlccbaaAsG
namespace Go.Proofs.Ytohncccejlccbaa
open Go.RowKit Go.Shelf

theorem cloneS_any (ls : List Bs) (la : Option Addr) (c : Nat) (w : World) (hl : ls.length ≤ 16777216) (hC : Cl w la (strs ls)) :
    Calls Try.prog 22 #[.slice la ls.length c] w fun e w' => ∃ pv pc, e = .returned (.slice pv ls.length pc) ∧ w'.ownsRow w.heap.size 9 1 (.slice pv ls.length pc) ls.length (strs ls) ∧ Below w.heap.size w w' := by
  cases ls with
  | nil =>
    cases la with
    | none =>
      refine (Try.slices_Clone_string_nil 0 c w).mono ?_
      rintro e w' ⟨rfl, rfl⟩
      exact ⟨none, 0, rfl, World.ownsRow_nil _ _ _ _, Below.refl _ _⟩
    | some a =>
      refine (Try.slices_Clone_string_zero a c w).mono ?_
      rintro e w' ⟨v', rfl, ho, _, hb⟩
      obtain ⟨pv, pc, rfl, _, _⟩ := own_cap ho
      exact ⟨pv, pc, rfl, ho, hb⟩
  | cons a r =>
    obtain ⟨b, o, rfl, hc⟩ := hC (by simp [strs])
    refine (Try.slices_Clone_string b o (a :: r).length c ((a :: r).map ba) w (by simp) (by omega) (fun j hj => ?_)).mono ?_
    · have hj' : j < (a :: r).length := by simpa using hj
      refine hc j _ ?_
      unfold strs
      rw [List.getElem?_map, List.getElem?_eq_getElem hj']
      simp only [Option.map_some, Option.some.injEq, Value.string.injEq]
      rw [List.getD_eq_getElem?_getD, List.getElem?_map, List.getElem?_eq_getElem hj']
      rfl
    · rintro e w' ⟨v', rfl, ho, _, hb⟩
      obtain ⟨pv, pc, rfl, _, _⟩ := own_cap ho
      rw [List.take_of_length_le (by simp), List.map_map] at ho
      exact ⟨pv, pc, rfl, ho, hb⟩
theorem cloneN_any (ns : List Int) (la : Option Addr) (c : Nat) (w : World) (hl : ns.length ≤ 16777216) (hC : Cl w la (intz ns)) :
    Calls Try.prog 23 #[.slice la ns.length c] w fun e w' => ∃ pv pc, e = .returned (.slice pv ns.length pc) ∧ w'.ownsRow w.heap.size 3 1 (.slice pv ns.length pc) ns.length (intz ns) ∧ Below w.heap.size w w' := by
  cases ns with
  | nil =>
    cases la with
    | none =>
      refine (Try.slices_Clone_int_nil 0 c w).mono ?_
      rintro e w' ⟨rfl, rfl⟩
      exact ⟨none, 0, rfl, World.ownsRow_nil _ _ _ _, Below.refl _ _⟩
    | some a =>
      refine (Try.slices_Clone_int_zero a c w).mono ?_
      rintro e w' ⟨v', rfl, ho, _, hb⟩
      obtain ⟨pv, pc, rfl, _, _⟩ := own_cap ho
      exact ⟨pv, pc, rfl, ho, hb⟩
  | cons a r =>
    obtain ⟨b, o, rfl, hc⟩ := hC (by simp [intz])
    refine (Try.slices_Clone_int b o (a :: r).length c (a :: r) w (Nat.le_refl _) (by omega) (fun j hj => ?_)).mono ?_
    · refine hc j _ ?_
      unfold intz
      rw [List.getElem?_map, List.getElem?_eq_getElem hj]
      simp only [Option.map_some, Option.some.injEq]
      rw [List.getD_eq_getElem?_getD, List.getElem?_eq_getElem hj]
      simp
    · rintro e w' ⟨v', rfl, ho, _, hb⟩
      obtain ⟨pv, pc, rfl, _, _⟩ := own_cap ho
      rw [List.take_of_length_le (Nat.le_refl _)] at ho
      exact ⟨pv, pc, rfl, ho, hb⟩

theorem keepset {W : World} {B R j : Nat} {v a b c : Value} (h : W.cell? ⟨B, j, none⟩ = some v) (hne : R ≠ B) : (((W.setCell ⟨R, 0, none⟩ a).setCell ⟨R, 1, none⟩ b).setCell ⟨R, 2, none⟩ c).cell? ⟨B, j, none⟩ = some v := by
  have e : (((W.setCell ⟨R, 0, none⟩ a).setCell ⟨R, 1, none⟩ b).setCell ⟨R, 2, none⟩ c).heap[B]? = W.heap[B]? := (set_other _ _ _ _ _ (Ne.symm hne)).trans ((set_other _ _ _ _ _ (Ne.symm hne)).trans (set_other _ _ _ _ _ (Ne.symm hne)))
  simp only [World.cell?] at h ⊢
  rw [e]
  exact h
set_option maxHeartbeats 4000000 in
theorem Get_u (p : List Gd) (pa : Option Addr) (pc : Nat) (n : Bs) (w : World) (hP : ParZ w (.slice pa p.length pc) p) (hl : p.length ≤ 16777216) (hn : n.length ≤ 16777216) (hnm : ∀ f ∈ p, f.nm.length ≤ 16777216 ∧ f.ls.length ≤ 16777216 ∧ f.ns.length ≤ 16777216) :
    Calls Try.prog 5 #[.slice pa p.length pc, .string (ba n)] w fun e w' => ∃ lv av, e = .returned (.tuple #[.agg #[.string (ba (getR p n).1.nm), lv, av], .bool (getR p n).2]) ∧ w'.ownsRow w.heap.size 9 1 lv (getR p n).1.ls.length (strs (getR p n).1.ls) ∧ w'.ownsRow w.heap.size 3 1 av (getR p n).1.ns.length (intz (getR p n).1.ns) ∧ Below w.heap.size w w' := by
  obtain ⟨i9, hi9, z9a, z9b, z9c⟩ := info_parts info9
  obtain ⟨i3, hi3, z3a, z3b, z3c⟩ := info_parts info3
  have cS := hide (fun (m : Bs) (hm : m.length ≤ 16777216) (W : World) => (by
    have h := smallLetters_any (ba m) W (by rw [ba_size]; omega)
    rw [ba_list] at h
    exact h : Calls Try.prog 21 #[.string (ba m)] W fun e w' => e = .returned (.string (ba (small m))) ∧ Below W.heap.size W w'))
  have BX := hide ((Below.refl w.heap.size w).alloc (Nat.le_refl _) (.cells #[.string ⟨#[]⟩, .slice none 0 0, .slice none 0 0] 30))
  have HR1 := hide (World.alloc_heap_new w (.cells #[.string ⟨#[]⟩, .slice none 0 0, .slice none 0 0] 30))
  have hz0 : w.heap.size < (w.alloc (.cells #[.string ⟨#[]⟩, .slice none 0 0, .slice none 0 0] 30)).heap.size := by simp
  have HP := hide (hP.later (unhide BX))
  have HNM := hide hnm
  clear hP hnm
  go_enter Try.func5, Try.ntmps5
  go_wp2_with (go_at_call 21; refine (unhide cS n hn _).mono ?_; rintro e w1 ⟨rfl, hb⟩; have HB1 := hide hb; clear hb)
  generalize hW0 : w.alloc (.cells #[.string ⟨#[]⟩, .slice none 0 0, .slice none 0 0] 30) = W0 at *
  clear hW0
  go_loopw [13] (fun iv wr => ∃ k : Nat, k ≤ p.length ∧ iv = .int .i64 k ∧ Hid (∀ j f, j < k → p[j]? = some f → ¬ small f.nm = small n) ∧ Hid (Below W0.heap.size W0 wr)) (fun iv _ => p.length - (intOf iv).toNat)
  case atStart => exact ⟨0, Nat.zero_le _, rfl, hide (fun j _ h => absurd h (Nat.not_lt_zero _)), HB1⟩
  case round =>
    obtain ⟨k, hk, rfl, HZ, HB⟩ := hrel
    rename World => W
    clear HB1
    by_cases hlt : k < p.length
    · obtain ⟨g, o, rfl, fz⟩ := (unhide HP).fld k hlt
      obtain ⟨s1, s2, s3⟩ := unhide HNM p[k] (List.getElem_mem hlt)
      have hltz : (k : Int) < (p.length : Int) := by omega
      have c0 := cell_later fz.nm (unhide HB)
      obtain ⟨la, lc, d1, hcl, hc1⟩ := fz.ls
      obtain ⟨na, nc, d2, hc2⟩ := fz.ns
      have c1 := cell_later d1 (unhide HB)
      have c2 := cell_later d2 (unhide HB)
      have HC1 := hide hc1
      have HC2 := hide hc2
      clear d1 d2 fz hc1 hc2
      have HBn := hide ((unhide HB).alloc (unhide HB).size (.cells #[.string (ba p[k].nm), .slice la p[k].ls.length lc, .slice na p[k].ns.length nc] 30))
      have HFb := hide (World.alloc_heap_new W (.cells #[.string (ba p[k].nm), .slice la p[k].ls.length lc, .slice na p[k].ns.length nc] 30))
      have heq : ∀ x y : Bs, ((ba x).toList == (ba y).toList) = decide (x = y) := fun x y => by
        rw [ba_tl, ba_tl]
        rw [Bool.eq_iff_iff, beq_iff_eq, decide_eq_true_eq]
      by_cases hb : small p[k].nm = small n
      · have hye : ((ba (small p[k].nm)).toList == (ba (small n)).toList) = true := by rw [heq]; exact decide_eq_true hb
        have HGR := hide (getR_yes hlt hb (unhide HZ))
        clear hb HZ heq
        go_wp2_with (go_at_call 21; refine (unhide cS _ s1 _).mono ?_; rintro e w2 ⟨rfl, hb2⟩; have HB2 := hide (bl_t (unhide HBn) hb2); have HF2 := hide ((hb2.block W.heap.size (by simp)).trans (unhide HFb)); clear hb2)
        have HSf := hide (show ∀ W', Below w2.heap.size w2 W' → W'.cell? ⟨W.heap.size, 0, none⟩ = some (.string (ba p[k].nm)) ∧ W'.cell? ⟨W.heap.size, 1, none⟩ = some (.slice la p[k].ls.length lc) ∧ W'.cell? ⟨W.heap.size, 2, none⟩ = some (.slice na p[k].ns.length nc) from fun W' hb => ⟨cell_later (cell_blk (unhide HF2) 0).1 hb, cell_later (cell_blk (unhide HF2) 1).1 hb, cell_later (cell_blk (unhide HF2) 2).1 hb⟩)
        have cA := hide (fun (W' : World) (hb : Below w2.heap.size w2 W') => cloneS_any p[k].ls la lc W' s2 ((unhide HC1).later (bl_t (unhide HB2) hb)))
        have cN := hide (fun (W' : World) (hb : Below w2.heap.size w2 W') => cloneN_any p[k].ns na nc W' s3 ((unhide HC2).later (bl_t (unhide HB2) hb)))
        have HRk := hide (show ∀ W', Below w2.heap.size w2 W' → W'.heap[w.heap.size]? = some (.cells #[.string ⟨#[]⟩, .slice none 0 0, .slice none 0 0] 30 (0, 0)) from fun W' hb => ((bl_t (unhide HB2) hb).block w.heap.size hz0).trans (unhide HR1))
        have hneRW : w.heap.size ≠ W.heap.size := by have := (unhide HB).size; omega
        have B0 := hide ((Below.refl w2.heap.size w2).drew)
        go_region_held3 (fun w' => w'.cell? ⟨W.heap.size, 0, none⟩ = some (.string (ba p[k].nm)) ∧ w'.cell? ⟨W.heap.size, 1, none⟩ = some (.slice la p[k].ls.length lc) ∧ w'.cell? ⟨W.heap.size, 2, none⟩ = some (.slice na p[k].ns.length nc)) (first | exact ⟨keepset (unhide HSf _ (unhide B4)).1 hneRW, keepset (unhide HSf _ (unhide B4)).2.1 hneRW, keepset (unhide HSf _ (unhide B4)).2.2 hneRW⟩ | exact unhide HSf _ (unhide B4) | exact unhide HSf _ (unhide B3) | exact unhide HSf _ (unhide B0)) (first | (go_at_call 22; refine (unhide cA _ (unhide B0)).mono ?_; rintro e w3 ⟨pv, pcc, rfl, ho, hb⟩; have HO3 := hide ho; have B3 := hide (bl_t (unhide B0) hb); clear ho hb) | (go_at_call 23; refine (unhide cN _ (unhide B3)).mono ?_; rintro e w4 ⟨qv, qcc, rfl, ho, hb⟩; have HO4 := hide ho; have HO34 := hide (ownsRow_bl (unhide HO3) hb); have B4 := hide (bl_t (unhide B3) hb); have HRw := hide (unhide HRk _ (unhide B4)); have r0 := (cell_blk (unhide HRw) 0).2; have r1 := (cell_blk (unhide HRw) 1).2; have r2 := (cell_blk (unhide HRw) 2).2; have q0 := (cell_blk (unhide HRw) 0).1; have q1 := (cell_blk (unhide HRw) 1).1; have q2 := (cell_blk (unhide HRw) 2).1; clear ho hb))
        go_wp2_with fail
        have HRF := hide (set_blk (set_blk (set_blk (unhide HRw) 0 (.string (ba p[k].nm))) 1 (.slice pv p[k].ls.length pcc)) 2 (.slice qv p[k].ns.length qcc))
        have HBF0 := hide (show Below w.heap.size w w4 from bl_t (unhide BX) (bl_t (unhide HB2) (unhide B4)))
        have HBF := hide (below_set (below_set (below_set (unhide HBF0) w.heap.size 0 (.string (ba p[k].nm)) (Nat.le_refl _)) w.heap.size 1 (.slice pv p[k].ls.length pcc) (Nat.le_refl _)) w.heap.size 2 (.slice qv p[k].ns.length qcc) (Nat.le_refl _))
        have HL := hide (show (((w4.setCell ⟨w.heap.size, 0, none⟩ (.string (ba p[k].nm))).setCell ⟨w.heap.size, 1, none⟩ (.slice pv p[k].ls.length pcc)).setCell ⟨w.heap.size, 2, none⟩ (.slice qv p[k].ns.length qcc)).ownsRow w.heap.size 9 1 (.slice pv p[k].ls.length pcc) p[k].ls.length (strs p[k].ls) from (ownsRow_same (unhide HO34) fun g c hg hc => by
          have hge := (ownsRow_blk (unhide HO34) hg).choose_spec.2.1
          have hx := (unhide HB2).size
          have hy := (unhide B0).size
          have hgne : g ≠ w.heap.size := by omega
          exact (set_other _ _ _ _ _ hgne).trans ((set_other _ _ _ _ _ hgne).trans (set_other _ _ _ _ _ hgne))).mono (by have hx := (unhide HB2).size; have hy := (unhide B0).size; omega))
        have HN := hide (show (((w4.setCell ⟨w.heap.size, 0, none⟩ (.string (ba p[k].nm))).setCell ⟨w.heap.size, 1, none⟩ (.slice pv p[k].ls.length pcc)).setCell ⟨w.heap.size, 2, none⟩ (.slice qv p[k].ns.length qcc)).ownsRow w.heap.size 3 1 (.slice qv p[k].ns.length qcc) p[k].ns.length (intz p[k].ns) from (ownsRow_same (unhide HO4) fun g c hg hc => by
          have hge := (ownsRow_blk (unhide HO4) hg).choose_spec.2.1
          have hx := (unhide HB2).size
          have hy := (unhide B3).size
          have hgne : g ≠ w.heap.size := by omega
          exact (set_other _ _ _ _ _ hgne).trans ((set_other _ _ _ _ _ hgne).trans (set_other _ _ _ _ _ hgne))).mono (by have hx := (unhide HB2).size; have hy := (unhide B3).size; omega))
        generalize ((w4.setCell ⟨w.heap.size, 0, none⟩ (.string (ba p[k].nm))).setCell ⟨w.heap.size, 1, none⟩ (.slice pv p[k].ls.length pcc)).setCell ⟨w.heap.size, 2, none⟩ (.slice qv p[k].ns.length qcc) = WF at *
        have x0 := (cell_blk (unhide HRF) 0).1
        have x1 := (cell_blk (unhide HRF) 1).1
        have x2 := (cell_blk (unhide HRF) 2).1
        simp at x0 x1 x2
        rw [unhide HGR]
        refine bodyPost_ret (v := .tuple #[.agg #[.string (ba p[k].nm), .slice pv p[k].ls.length pcc, .slice qv p[k].ns.length qcc], .bool true]) (by simp [results, Try.results5, go_sem, x0, x1, x2]) rfl ?_
        exact ⟨_, _, rfl, unhide HL, unhide HN, unhide HBF⟩
      · have hne : ((ba (small p[k].nm)).toList == (ba (small n)).toList) = false := by rw [heq]; exact decide_eq_false hb
        have HZ2 := hide (show ∀ j f, j < k + 1 → p[j]? = some f → ¬ small f.nm = small n from fun j f hj hf => by
          by_cases e : j < k
          · exact unhide HZ j f e hf
          · obtain rfl : j = k := by omega
            rw [List.getElem?_eq_getElem hlt] at hf
            cases hf
            exact hb)
        clear hb HZ heq
        go_wp2_with (go_at_call 21; refine (unhide cS _ s1 _).mono ?_; rintro e w2 ⟨rfl, hb2⟩; have HB2 := hide (bl_t (unhide HBn) hb2); clear hb2)
        go_roundw
        case rel => exact ⟨k + 1, by omega, by go_num, HZ2, HB2⟩
        case measure => simp [intOf]; omega
    · obtain rfl : k = p.length := by omega
      have hgr := getR_no (p := p) (n := n) (fun j f hj hf => unhide HZ j f hj hf)
      have HGR := hide hgr
      have HRw := hide (((unhide HB).block w.heap.size hz0).trans (unhide HR1))
      have r0 := (cell_blk (unhide HRw) 0).2
      have r1 := (cell_blk (unhide HRw) 1).2
      have r2 := (cell_blk (unhide HRw) 2).2
      have q0 := (cell_blk (unhide HRw) 0).1
      have q1 := (cell_blk (unhide HRw) 1).1
      have q2 := (cell_blk (unhide HRw) 2).1
      clear HZ hgr
      go_wp2_with fail
      have HRF := hide (set_blk (set_blk (set_blk (unhide HRw) 0 (.string ⟨#[]⟩)) 1 (.slice none 0 0)) 2 (.slice none 0 0))
      have HBF := hide (show Below w.heap.size w (((W.setCell ⟨w.heap.size, 0, none⟩ (.string ⟨#[]⟩)).setCell ⟨w.heap.size, 1, none⟩ (.slice none 0 0)).setCell ⟨w.heap.size, 2, none⟩ (.slice none 0 0)) from below_set (below_set (below_set (bl_t (unhide BX) (unhide HB)) _ 0 _ (Nat.le_refl _)) _ 1 _ (Nat.le_refl _)) _ 2 _ (Nat.le_refl _))
      generalize ((W.setCell ⟨w.heap.size, 0, none⟩ (.string ⟨#[]⟩)).setCell ⟨w.heap.size, 1, none⟩ (.slice none 0 0)).setCell ⟨w.heap.size, 2, none⟩ (.slice none 0 0) = WF at *
      have x0 := (cell_blk (unhide HRF) 0).1
      have x1 := (cell_blk (unhide HRF) 1).1
      have x2 := (cell_blk (unhide HRF) 2).1
      simp at x0 x1 x2
      rw [unhide HGR]
      refine bodyPost_ret (v := .tuple #[.agg #[.string ⟨#[]⟩, .slice none 0 0, .slice none 0 0], .bool false]) (by simp [results, Try.results5, go_sem, x0, x1, x2]) rfl ?_
      exact ⟨_, _, rfl, World.ownsRow_nil _ _ _ _, World.ownsRow_nil _ _ _ _, unhide HBF⟩
end Go.Proofs.Ytohncccejlccbaa
