import Derived.Test.YtiibobjbcgbknaaDoorSbB
import Derived.Maps.OwnSet
namespace Go.Proofs.YtiibobjbcgbknaaDoor
open Go.RowKit

/-- A FIELD, A PARAGRAPH, PARAGRAPHS AS THEY LIE. -/
structure FdC (W : World) (g o : Nat) (f : Fd) : Prop where
  nm : W.cell? ⟨g, o, none⟩ = some (.string (ba f.nm))
  ls : ∃ b q c, W.cell? ⟨g, o + 1, none⟩ = some (.slice (some ⟨b, q, none⟩) f.ls.length c) ∧ f.ls.length ≤ c ∧ b < W.heap.size ∧ ∀ i u, (strs f.ls)[i]? = some u → W.cell? ⟨b, q + i, none⟩ = some u
  ns : ∃ na nn nc, W.cell? ⟨g, o + 2, none⟩ = some (.slice na nn nc)
theorem FdC.later {W W2 : World} {g o : Nat} {f : Fd} (h : FdC W g o f) (hb : Below W.heap.size W W2) : FdC W2 g o f := by
  obtain ⟨b, q, c, h1, h2, h3, h4⟩ := h.ls
  obtain ⟨na, nn, nc, h5⟩ := h.ns
  exact ⟨cell_later h.nm hb, ⟨b, q, c, cell_later h1 hb, h2, Nat.lt_of_lt_of_le h3 hb.size, fun i u hi => cell_later (h4 i u hi) hb⟩, ⟨na, nn, nc, cell_later h5 hb⟩⟩
def ParC (W : World) (v : Value) (p : List Fd) : Prop :=
  ∃ pa c, v = .slice pa p.length c ∧ (0 < p.length → ∃ g o, pa = some ⟨g, o, none⟩ ∧ ∀ i f, p[i]? = some f → FdC W g (o + i * 3) f)
theorem ParC.later {W W2 : World} {v : Value} {p : List Fd} (h : ParC W v p) (hb : Below W.heap.size W W2) : ParC W2 v p := by
  obtain ⟨pa, c, h1, h2⟩ := h
  refine ⟨pa, c, h1, fun h0 => ?_⟩
  obtain ⟨g, o, h3, h4⟩ := h2 h0
  exact ⟨g, o, h3, fun i f hi => (h4 i f hi).later hb⟩
def DocC (W : World) (v : Value) (ps : List (List Fd)) : Prop :=
  ∃ pa c, v = .slice pa ps.length c ∧ (0 < ps.length → ∃ g o, pa = some ⟨g, o, none⟩ ∧ ∀ i p, ps[i]? = some p → ∃ u, W.cell? ⟨g, o + i, none⟩ = some u ∧ ParC W u p)
theorem DocC.later {W W2 : World} {v : Value} {ps : List (List Fd)} (h : DocC W v ps) (hb : Below W.heap.size W W2) : DocC W2 v ps := by
  obtain ⟨pa, c, h1, h2⟩ := h
  refine ⟨pa, c, h1, fun h0 => ?_⟩
  obtain ⟨g, o, h3, h4⟩ := h2 h0
  refine ⟨g, o, h3, fun i p hi => ?_⟩
  obtain ⟨u, h5, h6⟩ := h4 i p hi
  exact ⟨u, cell_later h5 hb, h6.later hb⟩

/-- NOT TOO LONG. -/
def szF (f : Fd) : Prop := (∀ l ∈ f.ls, l.length ≤ 268435456) ∧ f.ls.length ≤ 268435456
theorem Check_of (f : Fd) (g o : Nat) (w : World) (hok : okF f = true) (hs : szF f) (hC : FdC w g o f) :
    ∃ b q lc na nn nc, w.cell? ⟨g, o, none⟩ = some (.string (ba f.nm)) ∧ w.cell? ⟨g, o + 1, none⟩ = some (.slice (some ⟨b, q, none⟩) f.ls.length lc) ∧ w.cell? ⟨g, o + 2, none⟩ = some (.slice na nn nc) ∧
      ∀ W, Below w.heap.size w W → Calls Tryd.prog 23 #[.agg #[.string (ba f.nm), .slice (some ⟨b, q, none⟩) f.ls.length lc, .slice na nn nc]] W fun e w' => e = .returned (.int .i64 0) ∧ Below W.heap.size W w' := by
  obtain ⟨nm, ls, ns⟩ := f
  obtain ⟨b, q, c, h1, h2, h3, h4⟩ := hC.ls
  obtain ⟨na, nn, nc, h5⟩ := hC.ns
  cases ls with
  | nil => simp [okF] at hok
  | cons a r =>
    refine ⟨b, q, c, na, nn, nc, hC.nm, h1, h5, fun W hb => ?_⟩
    exact Check_yes nm a r b q c _ W (by simpa [okF] using hok) hs.1 (by have := hs.2; simp at this; omega) h2 (Nat.lt_of_lt_of_le h3 hb.size) fun i u hi => cell_later (h4 i u hi) hb

theorem apartN_get : ∀ (p : List Fd), apartN p = true → ∀ (j k : Nat) (f h : Fd), j < k → p[j]? = some f → p[k]? = some h → small f.nm ≠ small h.nm
  | [], _, j, k, f, h, _, h1, _ => by cases h1
  | x :: r, ha, 0, k + 1, f, h, _, h1, h2 => by
    simp only [apartN, Bool.and_eq_true, Bool.not_eq_true'] at ha
    cases h1
    exact fun e => hasN_false.1 ha.1 h (List.mem_of_getElem? h2) e.symm
  | x :: r, ha, j + 1, k + 1, f, h, hl, h1, h2 => by
    simp only [apartN, Bool.and_eq_true, Bool.not_eq_true'] at ha
    exact apartN_get r ha.2 j k f h (by omega) h1 h2
set_option maxRecDepth 100000 in
set_option maxHeartbeats 2000000 in
theorem mayBe_yes (p : List Fd) (v : Value) (w : World) (hok : okP p = true) (hs : ∀ f ∈ p, szF f) (hl : p.length ≤ 268435456) (hP : ParC w v p) :
    Calls Tryd.prog 37 #[v] w fun e w' => e = .returned (.bool true) ∧ Below w.heap.size w w' := by
  obtain ⟨pa, c, rfl, hP⟩ := hP
  obtain ⟨h1, h2, h3⟩ := okP_parts hok
  have h0 : 0 < p.length := by cases p with | nil => exact absurd rfl h2 | cons a b => simp
  obtain ⟨g, o, rfl, hf⟩ := hP h0
  have hmm : ∀ (x : Int) (w : World), (Instr.makeMap 74 (some (.int .i64 x))).run Tryd.prog w = .ok (.map (some w.heap.size)) (w.alloc (.map #[] 0)) := fun x w => by
    simp [Instr.makeMap, run_underlying Tryd.underlying74]
    rfl
  have HF := hide hf
  clear hf hP
  go_enter Tryd.func37, Tryd.ntmps37
  go_wp2
  have bx : Below w.heap.size w (w.alloc (.map #[] 0)) := (Below.refl _ _).alloc (Nat.le_refl _) _
  have HX := hide bx
  have HM := hide (World.ownsMap_made (H := Unit) w Tryd.prog 9 (plainElem Tryd.prog 3))
  clear hmm bx
  go_loopw [11] (fun iv wr => ∃ k : Nat, k ≤ p.length ∧ iv = .int .i64 k ∧ Hid (∃ D, wr.ownsMap (H := Unit) Tryd.prog 9 (plainElem Tryd.prog 3) w.heap.size k D ∧ Maps.size D = k ∧ ∀ s : Bs, Maps.has D (.string s) = true → ∃ j f, j < k ∧ p[j]? = some f ∧ small f.nm = s) ∧ Hid (Below w.heap.size w wr)) (fun iv _ => p.length - (intOf iv).toNat)
  case atStart => exact ⟨0, Nat.zero_le _, rfl, hide ⟨_, unhide HM, rfl, fun s h => by cases h⟩, HX⟩
  case round =>
    obtain ⟨k, hk, rfl, HD, HB⟩ := hrel
    by_cases hlt : k < p.length
    · obtain ⟨D, hD, hD1, hD2⟩ := unhide HD
      obtain ⟨b, q, lc, na, nn, nc, d0, d1, d2, cc⟩ := Check_of p[k] g (o + k * 3) wr (List.all_eq_true.1 h1 _ (List.getElem_mem hlt)) (hs _ (List.getElem_mem hlt)) ((unhide HF k _ (List.getElem?_eq_getElem hlt)).later (unhide HB))
      have hnl : p[k].nm.length ≤ 128 := by
        have hko := List.all_eq_true.1 h1 _ (List.getElem_mem hlt)
        simp only [okF, Bool.and_eq_true] at hko
        have := hko.1
        cases hx : p[k].nm with
        | nil => simp
        | cons x y => rw [hx] at this; simp only [nameL, Bool.and_eq_true, decide_eq_true_eq] at this; simp; omega
      have hkey : keyOf Tryd.prog 9 (.string (ba (small p[k].nm))) = some (.string (small p[k].nm)) := by
        have := WideMaps.keyOf_string_mk (P := Tryd.prog) Tryd.underlying9 (s := ba (small p[k].nm)) (by rw [ba_size, small_len]; unfold maxLen; omega)
        rw [ba_list] at this
        exact this
      have c2 := hide (fun W => smallLetters_any (ba p[k].nm) W (by rw [ba_size]; omega))
      rw [ba_list] at c2
      have hwf : (Lit.int .i64 (k : Int)).wf = true := by
        have h0 : IntKind.i64.min = -9223372036854775808 := rfl
        simp [Lit.wf]
        omega
      have HN := hide (show ∀ D', D' = D.put (.string (small p[k].nm)) (.lit (.int .i64 k)) → Maps.size D' = k + 1 ∧ ∀ s : Bs, Maps.has D' (.string s) = true → ∃ j f, j < k + 1 ∧ p[j]? = some f ∧ small f.nm = s from fun D' e => by
        have hno : Maps.has D (.string (small p[k].nm)) = false := by
          cases hx : Maps.has D (.string (small p[k].nm)) with
          | false => rfl
          | true =>
            obtain ⟨j, f, j1, j2, j3⟩ := hD2 _ hx
            exact absurd j3 (apartN_get p h3 j k f p[k] j1 j2 (List.getElem?_eq_getElem hlt))
        subst e
        refine ⟨?_, fun s hs2 => ?_⟩
        · rw [Maps.size_put (hD.tidy key9), hno, hD1]; rfl
        · by_cases hse : s = small p[k].nm
          · exact ⟨k, p[k], Nat.lt_succ_self _, List.getElem?_eq_getElem hlt, hse.symm⟩
          · rw [Maps.has_put_other (fun e => hse (by cases e; rfl))] at hs2
            obtain ⟨j, f, j1, j2, j3⟩ := hD2 _ hs2
            exact ⟨j, f, by omega, j2, j3⟩)
      have c1 := hide cc
      have HO := hide hD
      clear cc hD HD hD2 hnl
      generalize ba p[k].nm = sn at *
      generalize ba (small p[k].nm) = sk at *
      generalize small p[k].nm = key at *
      generalize p[k].ls.length = ln at *
      have hzr := (unhide HB).size
      have hlm := (unhide HO).lt
      go_wp2_with (first | (go_at_call 23; refine (unhide c1 _ ((Below.refl _ _).alloc (Nat.le_refl _) _)).mono ?_; rintro e w2 ⟨rfl, hb2⟩; have HB2 := hide (bl_t (((unhide HB).alloc hzr _)) hb2); have x0 := (cell_later (show (wr.alloc (.cells #[.string sn, .slice (some ⟨b, q, none⟩) ln lc, .slice na nn nc] 49)).cell? ⟨wr.heap.size, 0, none⟩ = some (.string sn) from (cell_blk (World.alloc_heap_new wr _) 0).1) hb2); have HM2 := hide (ownsMap_same (unhide HO) ((hb2.block w.heap.size (by simp; omega)).trans (Below.heap_alloc wr _ _ hlm))); clear hb2) | (go_at_call 58; refine (unhide c2 _).mono ?_; rintro e w3 ⟨rfl, hb3⟩; have HB3 := hide (bl_t (unhide HB2) hb3); have HM3 := hide (ownsMap_same (unhide HM2) (hb3.block w.heap.size (unhide HM2).lt)); clear hb3) | (at_mapUpdate; go_must (refine wpList_mapUpdate_own _ rfl _ _ _ 74 rfl 9 3 key9 Tryd.underlying74 _ w.heap.size k D rfl (unhide HM3) (by unfold maxLen; omega) _ _ (.string key) rfl rfl hkey _ [] (plainElem_int Tryd.underlying3 hwf) ?_); intro w5 hown5 hgrow5; have HO5 := hide hown5; have HB5 := hide ((unhide HB3).grown hgrow5 (unhide HB3).size (fun j e => by cases e; exact Nat.le_refl _)); clear hown5 hgrow5))
      go_roundw
      case rel => exact ⟨k + 1, by omega, by go_num, hide ⟨_, unhide HO5, (unhide HN _ rfl).1, (unhide HN _ rfl).2⟩, HB5⟩
      case measure => simp [intOf]; omega
    · obtain rfl : k = p.length := by omega
      obtain ⟨D, hD, hD1, hD2⟩ := unhide HD
      have hlen := fun ty => hD.len (t := 74) Tryd.underlying74 ty
      rw [hD1] at hlen
      have hp0 : (0 : Int) < (p.length : Int) := by omega
      clear hD hD2 HD HF
      go_wp2
      go_ret
      exact ⟨rfl, unhide HB⟩

end Go.Proofs.YtiibobjbcgbknaaDoor
