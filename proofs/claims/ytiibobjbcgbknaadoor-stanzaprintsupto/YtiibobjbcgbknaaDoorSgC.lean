import Derived.Test.YtiibobjbcgbknaaDoorSgB
namespace Go.Proofs.YtiibobjbcgbknaaDoor
open Go.RowKit

/-- A FIELD, A PARAGRAPH, PARAGRAPHS AS THEY LIE, WHATEVER THEY ARE. -/
structure FdG (W : World) (g o : Nat) (f : Fd) : Prop where
  nm : W.cell? ⟨g, o, none⟩ = some (.string (ba f.nm))
  ls : ∃ pa c, W.cell? ⟨g, o + 1, none⟩ = some (.slice pa f.ls.length c) ∧ f.ls.length ≤ c ∧ Cl W pa (strs f.ls)
  ns : ∃ na nc az, W.cell? ⟨g, o + 2, none⟩ = some (.slice na az.length nc) ∧ Cl W na az ∧ (∀ u ∈ az, u.oneCell' = true) ∧ az.length ≤ 16777216
theorem FdG.later {W W2 : World} {g o : Nat} {f : Fd} (h : FdG W g o f) (hb : Below W.heap.size W W2) : FdG W2 g o f := by
  obtain ⟨pa, c, h1, h2, h3⟩ := h.ls
  obtain ⟨na, nc, az, h5, h6, h7⟩ := h.ns
  exact ⟨cell_later h.nm hb, ⟨pa, c, cell_later h1 hb, h2, h3.later hb⟩, ⟨na, nc, az, cell_later h5 hb, h6.later hb, h7⟩⟩
theorem FdG.fdC {W : World} {g o : Nat} {f : Fd} (h : FdG W g o f) (hn : f.ls ≠ []) : FdC W g o f := by
  obtain ⟨pa, c, h1, h2, h3⟩ := h.ls
  obtain ⟨na, nc, az, h5, _⟩ := h.ns
  have h0 : 0 < (strs f.ls).length := by rw [strs, List.length_map]; exact List.length_pos_iff.2 hn
  obtain ⟨b, q, rfl, h4⟩ := h3 h0
  have d0 := h4 0 _ (List.getElem?_eq_getElem h0)
  have hb : b < W.heap.size := by
    by_cases hlt : b < W.heap.size
    · exact hlt
    · rw [World.cell?] at d0
      simp [Array.getElem?_eq_none (Nat.le_of_not_lt hlt)] at d0
  exact ⟨h.nm, ⟨b, q, c, h1, h2, hb, h4⟩, ⟨na, az.length, nc, h5⟩⟩
def ParG (W : World) (v : Value) (p : List Fd) : Prop :=
  ∃ pa c, v = .slice pa p.length c ∧ (0 < p.length → ∃ g o, pa = some ⟨g, o, none⟩ ∧ ∀ i f, p[i]? = some f → FdG W g (o + i * 3) f)
theorem ParG.later {W W2 : World} {v : Value} {p : List Fd} (h : ParG W v p) (hb : Below W.heap.size W W2) : ParG W2 v p := by
  obtain ⟨pa, c, h1, h2⟩ := h
  refine ⟨pa, c, h1, fun h0 => ?_⟩
  obtain ⟨g, o, h3, h4⟩ := h2 h0
  exact ⟨g, o, h3, fun i f hi => (h4 i f hi).later hb⟩
theorem ParG.parC {W : World} {v : Value} {p : List Fd} (h : ParG W v p) (hn : ∀ f ∈ p, f.ls ≠ []) : ParC W v p := by
  obtain ⟨pa, c, h1, h2⟩ := h
  refine ⟨pa, c, h1, fun h0 => ?_⟩
  obtain ⟨g, o, h3, h4⟩ := h2 h0
  exact ⟨g, o, h3, fun i f hi => (h4 i f hi).fdC (hn f (List.mem_of_getElem? hi))⟩
def DocG (W : World) (v : Value) (ps : List (List Fd)) : Prop :=
  ∃ pa c, v = .slice pa ps.length c ∧ (0 < ps.length → ∃ g o, pa = some ⟨g, o, none⟩ ∧ ∀ i p, ps[i]? = some p → ∃ u, W.cell? ⟨g, o + i, none⟩ = some u ∧ ParG W u p)
theorem DocG.later {W W2 : World} {v : Value} {ps : List (List Fd)} (h : DocG W v ps) (hb : Below W.heap.size W W2) : DocG W2 v ps := by
  obtain ⟨pa, c, h1, h2⟩ := h
  refine ⟨pa, c, h1, fun h0 => ?_⟩
  obtain ⟨g, o, h3, h4⟩ := h2 h0
  refine ⟨g, o, h3, fun i p hi => ?_⟩
  obtain ⟨u, h5, h6⟩ := h4 i p hi
  exact ⟨u, cell_later h5 hb, h6.later hb⟩
theorem DocG.docC {W : World} {v : Value} {ps : List (List Fd)} (h : DocG W v ps) (hn : ∀ p ∈ ps, ∀ f ∈ p, f.ls ≠ []) : DocC W v ps := by
  obtain ⟨pa, c, h1, h2⟩ := h
  refine ⟨pa, c, h1, fun h0 => ?_⟩
  obtain ⟨g, o, h3, h4⟩ := h2 h0
  refine ⟨g, o, h3, fun i p hi => ?_⟩
  obtain ⟨u, h5, h6⟩ := h4 i p hi
  exact ⟨u, h5, h6.parC (hn p (List.mem_of_getElem? hi))⟩

/-- NOT TOO LONG. -/
def szG (f : Fd) : Prop := f.nm.length ≤ 16777216 ∧ (∀ l ∈ f.ls, l.length ≤ 16777216) ∧ f.ls.length ≤ 16777216
theorem szG.f {f : Fd} (h : szG f) : szF f := ⟨fun l hl => Nat.le_trans (h.2.1 l hl) (by decide), Nat.le_trans h.2.2 (by decide)⟩

theorem okF_ls {f : Fd} (h : okF f = true) : f.ls ≠ [] := fun e => by
  obtain ⟨nm, ls, ns⟩ := f
  simp only at e
  subst e
  simp [okF] at h

theorem apartN_of : ∀ (p : List Fd), (∀ (i j : Nat) (f h : Fd), i < j → p[i]? = some f → p[j]? = some h → small f.nm ≠ small h.nm) → apartN p = true
  | [], _ => rfl
  | x :: r, ha => by
    simp only [apartN, Bool.and_eq_true, Bool.not_eq_true']
    refine ⟨hasN_false.2 fun h hh e => ?_, apartN_of r fun i j f h hij h1 h2 => ha (i + 1) (j + 1) f h (by omega) h1 h2⟩
    obtain ⟨j, hj⟩ := List.mem_iff_getElem?.1 hh
    exact ha 0 (j + 1) x h (by omega) rfl hj e.symm

set_option maxRecDepth 100000 in
set_option maxHeartbeats 2000000 in
theorem mayBe_no (p : List Fd) (v : Value) (w : World) (hok : okP p = false) (hs : ∀ f ∈ p, szG f) (hl : p.length ≤ 268435456) (hP : ParG w v p) :
    Calls Tryd.prog 37 #[v] w fun e w' => e = .returned (.bool false) ∧ Below w.heap.size w w' := by
  obtain ⟨pa, c, rfl, hP⟩ := hP
  have hmm : ∀ (x : Int) (w : World), (Instr.makeMap 74 (some (.int .i64 x))).run Tryd.prog w = .ok (.map (some w.heap.size)) (w.alloc (.map #[] 0)) := fun x w => by
    simp [Instr.makeMap, run_underlying Tryd.underlying74]
    rfl
  have HP := hide hP
  have HK := hide hok
  clear hP hok
  go_enter Tryd.func37, Tryd.ntmps37
  go_wp2
  have bx : Below w.heap.size w (w.alloc (.map #[] 0)) := (Below.refl _ _).alloc (Nat.le_refl _) _
  have HX := hide bx
  have HM := hide (World.ownsMap_made (H := Unit) w Tryd.prog 9 (plainElem Tryd.prog 3))
  clear hmm bx
  go_loopw [11] (fun iv wr => ∃ k : Nat, k ≤ p.length ∧ iv = .int .i64 k ∧ Hid (∃ D, wr.ownsMap (H := Unit) Tryd.prog 9 (plainElem Tryd.prog 3) w.heap.size k D ∧ Maps.size D ≤ k ∧ (∀ j f, j < k → p[j]? = some f → Maps.has D (.string (small f.nm)) = true) ∧ (Maps.size D = k → ∀ (i j : Nat) (f h : Fd), i < j → j < k → p[i]? = some f → p[j]? = some h → small f.nm ≠ small h.nm)) ∧ Hid (Below w.heap.size w wr) ∧ Hid (∀ j f, j < k → p[j]? = some f → okF f = true)) (fun iv _ => p.length - (intOf iv).toNat)
  case atStart => exact ⟨0, Nat.zero_le _, rfl, hide ⟨_, unhide HM, Nat.le_refl _, fun j f h => absurd h (Nat.not_lt_zero _), fun _ i j f h _ hj => absurd hj (Nat.not_lt_zero _)⟩, HX, hide (fun j f h => absurd h (Nat.not_lt_zero _))⟩
  case round =>
    obtain ⟨k, hk, rfl, HD, HB, HA⟩ := hrel
    by_cases hlt : k < p.length
    · obtain ⟨D, hD, hD1, hD2, hD3⟩ := unhide HD
      obtain ⟨g, o, rfl, hf⟩ := unhide HP (by omega)
      have fg := (hf k _ (List.getElem?_eq_getElem hlt)).later (unhide HB)
      have hsk := hs _ (List.getElem_mem hlt)
      have hzr := (unhide HB).size
      have hlm := hD.lt
      have HPK := hide (show p[k]? = some p[k] from List.getElem?_eq_getElem hlt)
      clear hf
      cases hfk : okF p[k]
      · obtain ⟨la, lc, d1, d1c, d1l⟩ := fg.ls
        obtain ⟨na, nc, az, d2, _⟩ := fg.ns
        have d0 := fg.nm
        have c1 := hide (fun (W : World) (hb : Below wr.heap.size wr W) => Check_no p[k].nm p[k].ls la lc (.slice na az.length nc) W hfk (Nat.le_trans hsk.1 (by decide)) (fun l hl => Nat.le_trans (hsk.2.1 l hl) (by decide)) (Nat.le_trans hsk.2.2 (by decide)) d1c (d1l.later hb))
        clear HD hD hD1 hD2 hD3 fg hsk hfk d1l d1c
        generalize ba p[k].nm = sn at *
        generalize p[k].ls.length = ln at *
        generalize az.length = nn at *
        go_wp2_with (first | (go_at_call 23; refine (unhide c1 _ ((Below.refl _ _).alloc (Nat.le_refl _) _)).mono ?_; rintro e w2 ⟨rfl, hb2⟩; have HB2 := hide (bl_t (((unhide HB).alloc hzr _)) hb2); clear hb2))
        go_ret
        exact ⟨rfl, unhide HB2⟩
      · obtain ⟨b, q, lc, na, nn, nc, d0, d1, d2, cc⟩ := Check_of p[k] g (o + k * 3) wr hfk hsk.f (fg.fdC (okF_ls hfk))
        have hkey : keyOf Tryd.prog 9 (.string (ba (small p[k].nm))) = some (.string (small p[k].nm)) := by
          have := WideMaps.keyOf_string_mk (P := Tryd.prog) Tryd.underlying9 (s := ba (small p[k].nm)) (by rw [ba_size, small_len]; unfold maxLen; have := hsk.1; omega)
          rw [ba_list] at this
          exact this
        have c2 := hide (fun W => smallLetters_any (ba p[k].nm) W (by rw [ba_size]; have := hsk.1; omega))
        rw [ba_list] at c2
        have hwf : (Lit.int .i64 (k : Int)).wf = true := by
          have h0 : IntKind.i64.min = -9223372036854775808 := rfl
          simp [Lit.wf]
          omega
        have HN := hide (show ∀ D', D' = D.put (.string (small p[k].nm)) (.lit (.int .i64 k)) → Maps.size D' ≤ k + 1 ∧ (∀ j f, j < k + 1 → p[j]? = some f → Maps.has D' (.string (small f.nm)) = true) ∧ (Maps.size D' = k + 1 → ∀ (i j : Nat) (f h : Fd), i < j → j < k + 1 → p[i]? = some f → p[j]? = some h → small f.nm ≠ small h.nm) from fun D' e => by
          subst e
          have hsz := Maps.size_put (hD.tidy key9) (k := .string (small p[k].nm)) (d := .lit (.int .i64 k))
          refine ⟨?_, fun j f hj hjf => ?_, fun hsize i j f h hij hj hi' hj' => ?_⟩
          · rw [hsz]; split <;> omega
          · by_cases e : small f.nm = small p[k].nm
            · rw [e]; exact Maps.has_put_same hD.isMap (by trivial) _
            · rw [Maps.has_put_other (fun e2 => e (by injection e2))]
              by_cases ej : j < k
              · exact hD2 j f ej hjf
              · obtain rfl : j = k := by omega
                rw [unhide HPK] at hjf
                cases hjf
                exact absurd rfl e
          · rw [hsz] at hsize
            cases hhas : Maps.has D (.string (small p[k].nm)) with
            | true => rw [hhas] at hsize; simp at hsize; omega
            | false =>
              rw [hhas] at hsize
              by_cases ej : j < k
              · exact hD3 (by simpa using hsize) i j f h hij ej hi' hj'
              · obtain rfl : j = k := by omega
                rw [unhide HPK] at hj'
                cases hj'
                intro e
                have := hD2 i f hij hi'
                rw [e, hhas] at this
                cases this)
        have HA2 := hide (show ∀ j f, j < k + 1 → p[j]? = some f → okF f = true from fun j f hj hjf => by
          by_cases e : j < k
          · exact unhide HA j f e hjf
          · obtain rfl : j = k := by omega
            rw [unhide HPK] at hjf
            cases hjf
            exact hfk)
        have c1 := hide cc
        have HO := hide hD
        clear cc hD HD hD1 hD2 hD3 fg hsk hfk HPK HA hs
        generalize ba p[k].nm = sn at *
        generalize ba (small p[k].nm) = sk at *
        generalize small p[k].nm = key at *
        generalize p[k].ls.length = ln at *
        go_wp2_with (first | (go_at_call 23; refine (unhide c1 _ ((Below.refl _ _).alloc (Nat.le_refl _) _)).mono ?_; rintro e w2 ⟨rfl, hb2⟩; have HB2 := hide (bl_t (((unhide HB).alloc hzr _)) hb2); have x0 := (cell_later (show (wr.alloc (.cells #[.string sn, .slice (some ⟨b, q, none⟩) ln lc, .slice na nn nc] 49)).cell? ⟨wr.heap.size, 0, none⟩ = some (.string sn) from (cell_blk (World.alloc_heap_new wr _) 0).1) hb2); have HM2 := hide (ownsMap_same (unhide HO) ((hb2.block w.heap.size (by simp; omega)).trans (Below.heap_alloc wr _ _ hlm))); clear hb2) | (go_at_call 58; refine (unhide c2 _).mono ?_; rintro e w3 ⟨rfl, hb3⟩; have HB3 := hide (bl_t (unhide HB2) hb3); have HM3 := hide (ownsMap_same (unhide HM2) (hb3.block w.heap.size (unhide HM2).lt)); clear hb3) | (at_mapUpdate; go_must (refine wpList_mapUpdate_own _ rfl _ _ _ 74 rfl 9 3 key9 Tryd.underlying74 _ w.heap.size k D rfl (unhide HM3) (by unfold maxLen; omega) _ _ (.string key) rfl rfl hkey _ [] (plainElem_int Tryd.underlying3 hwf) ?_); intro w5 hown5 hgrow5; have HO5 := hide hown5; have HB5 := hide ((unhide HB3).grown hgrow5 (unhide HB3).size (fun j e => by cases e; exact Nat.le_refl _)); clear hown5 hgrow5))
        go_roundw
        case rel => exact ⟨k + 1, by omega, by go_num, hide ⟨_, unhide HO5, (unhide HN _ rfl).1, (unhide HN _ rfl).2.1, (unhide HN _ rfl).2.2⟩, HB5, HA2⟩
        case measure => simp [intOf]; omega
    · obtain rfl : k = p.length := by omega
      obtain ⟨D, hD, hD1, hD2, hD3⟩ := unhide HD
      have hlen := fun ty => hD.len (t := 74) Tryd.underlying74 ty
      have hcase : p.length = 0 ∨ (0 < p.length ∧ Maps.size D ≠ p.length) := by
        rcases Nat.eq_zero_or_pos p.length with h0 | h0
        · exact Or.inl h0
        · refine Or.inr ⟨h0, fun e => ?_⟩
          have h1 : p.all okF = true := List.all_eq_true.2 fun f hf => by
            obtain ⟨j, hj⟩ := List.mem_iff_getElem?.1 hf
            exact unhide HA j f (List.getElem?_eq_some_iff.1 hj).1 hj
          have h2 : apartN p = true := apartN_of p fun i j f h hij hi hj => hD3 e i j f h hij (List.getElem?_eq_some_iff.1 hj).1 hi hj
          have h3 : okP p = true := by
            unfold okP
            rw [h1, h2, decide_eq_true (List.length_pos_iff.1 h0)]
            rfl
          rw [unhide HK] at h3
          cases h3
      clear hD hD1 hD2 hD3 HD HP HK HA hs
      rcases hcase with h0 | ⟨h0, hne⟩
      · have hp0 : ¬ (0 : Int) < (p.length : Int) := by omega
        clear h0 hlen
        go_wp2
        go_ret
        exact ⟨rfl, unhide HB⟩
      · have hp0 : (0 : Int) < (p.length : Int) := by omega
        have hne2 : ((Maps.size D : Int) == (p.length : Int)) = false := by simp; omega
        clear h0 hne
        go_wp2
        go_ret
        exact ⟨rfl, unhide HB⟩

end Go.Proofs.YtiibobjbcgbknaaDoor
