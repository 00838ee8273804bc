import Derived.Test.YtcebpdcijpgkjaaGreatDoorZc25
import Derived.Test.YtcebpdcijpgkjaaGreatDoorZc26
namespace Go.Proofs.YtcebpdcijpgkjaaGreatDoor
open Go.RowKit Go.Maps

/-- A CLAUSE IN THE PART AS A LIST OF ITS OWN. -/
theorem im_tr (ps : List Pk) (inn : Nat → Bool) (al : List At) (b1 b2 : Int) (hb : ∀ i p : Nat, (plL inn ps.length)[i]? = some p → ((i : Int) ≠ b1 ↔ (p : Int) ≠ b2)) : imP ((plL inn ps.length).map (pAt ps)) (fun _ => true) b1 al = imP ps inn b2 al := by
  obtain ⟨L, hL⟩ : ∃ L, L = plL inn ps.length := ⟨_, rfl⟩
  have hmem : ∀ p, p ∈ L ↔ p < ps.length ∧ inn p = true := fun p => by rw [hL]; unfold plL; rw [List.mem_filter, List.mem_range]
  rw [← hL] at hb ⊢
  have hat : ∀ i p, L[i]? = some p → (L.map (pAt ps))[i]? = some (pAt ps p) := fun i p h => by rw [List.getElem?_map, h]; rfl
  have hmp : ∀ (a : At) i p, L[i]? = some p → mP (L.map (pAt ps)) a i = mP ps a p := fun a i p h => by
    rw [mP_at (hat i p h), mP_at (pAt_at ((hmem p).1 (List.mem_of_getElem? h)).1)]
  rw [Bool.eq_iff_iff, imP_iff, imP_iff2]
  constructor
  · rintro ⟨a, ha, i, hm, hi⟩
    obtain ⟨p, hp⟩ : ∃ p, L[i]? = some p := ⟨_, List.getElem?_eq_getElem (by have := mP_lt hm; rwa [List.length_map] at this)⟩
    exact ⟨a, ha, p, by rw [← hmp a i p hp]; exact hm, ((hmem p).1 (List.mem_of_getElem? hp)).2, (hb i p hp).1 hi⟩
  · rintro ⟨a, ha, p, hm, hf, hp⟩
    obtain ⟨i, hi⟩ := List.getElem?_of_mem ((hmem p).2 ⟨mP_lt hm, hf⟩)
    exact ⟨a, ha, i, by rw [hmp a i p hi]; exact hm, (hb i p hi).2 hp⟩
theorem plL_rise (inn : Nat → Bool) (n : Nat) : (plL inn n).Pairwise (· < ·) := List.Pairwise.filter _ List.pairwise_lt_range
theorem plL_mem (inn : Nat → Bool) (n p : Nat) : p ∈ plL inn n ↔ p < n ∧ inn p = true := by unfold plL; rw [List.mem_filter, List.mem_range]
theorem plL_inj {inn : Nat → Bool} {n i j p : Nat} (hi : (plL inn n)[i]? = some p) (hj : (plL inn n)[j]? = some p) : i = j := by
  obtain ⟨h1, e1⟩ := List.getElem?_eq_some_iff.1 hi
  obtain ⟨h2, e2⟩ := List.getElem?_eq_some_iff.1 hj
  rcases Nat.lt_trichotomy i j with h | h | h
  · have := List.pairwise_iff_getElem.1 (plL_rise inn n) i j h1 h2 h; omega
  · exact h
  · have := List.pairwise_iff_getElem.1 (plL_rise inn n) j i h2 h1 h; omega
theorem im_dep (ps : List Pk) (inn : Nat → Bool) (al : List At) : imP ((plL inn ps.length).map (pAt ps)) (fun _ => true) (-1) al = imP ps inn (-1) al :=
  im_tr ps inn al _ _ fun i p _ => ⟨fun _ => by omega, fun _ => by omega⟩
theorem im_pre (ps : List Pk) (inn : Nat → Bool) (al : List At) {i p : Nat} (hi : (plL inn ps.length)[i]? = some p) : imP ((plL inn ps.length).map (pAt ps)) (fun _ => true) (i : Int) al = imP ps inn (p : Int) al :=
  im_tr ps inn al _ _ fun j x hj => ⟨fun hne hx => hne (by have : x = p := by omega
                                                           subst this
                                                           rw [plL_inj hj hi]), fun hne hx => hne (by have : j = i := by omega
                                                                                                      subst this
                                                                                                      rw [hi] at hj; cases hj; rfl)⟩
theorem cl1_part (ps : List Pk) (inn : Nat → Bool) {i p : Nat} (hi : (plL inn ps.length)[i]? = some p) : Cl1 ((plL inn ps.length).map (pAt ps)) i (pAt ps p) ↔ Wh ps inn p (pAt ps p) := by
  unfold Cl1 Wh
  constructor
  · rintro ⟨h1, h2⟩
    exact ⟨fun al ha => by rw [← im_dep]; exact h1 al ha, fun al ha => by rw [← im_pre ps inn al hi]; exact h2 al ha⟩
  · rintro ⟨h1, h2⟩
    exact ⟨fun al ha => by rw [im_dep]; exact h1 al ha, fun al ha => by rw [im_pre ps inn al hi]; exact h2 al ha⟩
/-- WHO STAYS BEHIND i PLACES OF A ROUND. -/
noncomputable def stay (ps : List Pk) (inn : Nat → Bool) (i : Nat) (p : Nat) : Bool := by
  classical
  exact inn p && !(decide (p ∈ (plL inn ps.length).take i) && !decide (Wh ps inn p (pAt ps p)))
theorem stay_zero (ps : List Pk) (inn : Nat → Bool) : stay ps inn 0 = inn := by
  funext p
  unfold stay
  simp
theorem stay_yes {ps : List Pk} {inn : Nat → Bool} {i p : Nat} (hi : (plL inn ps.length)[i]? = some p) (h : Wh ps inn p (pAt ps p)) : stay ps inn (i + 1) = stay ps inn i := by
  have hil := (List.getElem?_eq_some_iff.1 hi).1
  have e := (List.getElem?_eq_some_iff.1 hi).2
  funext x
  unfold stay
  rw [List.take_succ_eq_append_getElem hil, e]
  by_cases hx : x = p
  · subst hx; simp [h]
  · simp [hx]
theorem stay_no {ps : List Pk} {inn : Nat → Bool} {i p : Nat} (hi : (plL inn ps.length)[i]? = some p) (h : ¬ Wh ps inn p (pAt ps p)) : (fun x => if x = p then false else stay ps inn i x) = stay ps inn (i + 1) := by
  have hil := (List.getElem?_eq_some_iff.1 hi).1
  have e := (List.getElem?_eq_some_iff.1 hi).2
  funext x
  unfold stay
  rw [List.take_succ_eq_append_getElem hil, e]
  by_cases hx : x = p
  · subst hx; simp [h]
  · simp [hx]
theorem stay_sub {ps : List Pk} {inn : Nat → Bool} {i p : Nat} (h : stay ps inn i p = true) : inn p = true := by
  unfold stay at h
  rw [Bool.and_eq_true] at h
  exact h.1
theorem wh_mono2 {ps : List Pk} {G inn : Nat → Bool} {p : Nat} {q : Pk} (hw : Wh ps G p q) (h : ∀ x, x < ps.length → G x = true → inn x = true) : Wh ps inn p q := by
  have key : ∀ (but : Int) (al : List At), imP ps G but al = true → imP ps inn but al = true := fun but al e => by
    rw [imP_iff2] at e ⊢
    obtain ⟨a, ha, x, hm, hx, hn⟩ := e
    exact ⟨a, ha, x, hm, h x (mP_lt hm) hx, hn⟩
  exact ⟨fun al ha => key _ al (hw.1 al ha), fun al ha => key _ al (hw.2 al ha)⟩
/-- BETWEEN THE ROUNDS. -/
structure Gb (ps : List Pk) (inn : Nat → Bool) : Prop where
  big : ∀ G, Clo ps G → ∀ p, p < ps.length → G p = true → inn p = true
  lt : ∀ p, inn p = true → p < ps.length
theorem Gb.start (ps : List Pk) : Gb ps (fun i => decide (i < ps.length)) := ⟨fun _ _ _ hp _ => decide_eq_true hp, fun _ h => of_decide_eq_true h⟩
theorem Gb.next {ps : List Pk} {inn : Nat → Bool} (h : Gb ps inn) (i : Nat) : Gb ps (stay ps inn i) := by
  refine ⟨fun G hG p hp hg => ?_, fun p hp => h.lt p (stay_sub hp)⟩
  have h1 := h.big G hG p hp hg
  have h2 : Wh ps inn p (pAt ps p) := wh_mono2 (hG p _ (pAt_at hp) hg) fun x hxl hx => h.big G hG x hxl hx
  unfold stay
  simp [h1, h2]
theorem Gb.stop {ps : List Pk} {inn : Nat → Bool} (h : ∀ i p : Nat, (plL inn ps.length)[i]? = some p → Wh ps inn p (pAt ps p)) : Clo ps inn := by
  intro p q hq hp
  have hpl := (List.getElem?_eq_some_iff.1 hq).1
  obtain ⟨i, hi⟩ := List.getElem?_of_mem ((plL_mem inn ps.length p).2 ⟨hpl, hp⟩)
  have e : pAt ps p = q := by have := pAt_at hpl; rw [hq] at this; exact (Option.some.inj this).symm
  have := h i p hi
  rw [e] at this
  exact this

end Go.Proofs.YtcebpdcijpgkjaaGreatDoor

namespace Go.Proofs.YtcebpdcijpgkjaaGreatDoor
open Go.RowKit Go.Maps

theorem gf_range (i : Nat) : (fun p : Nat => decide (p ∈ List.range i)) = fun p => decide (p < i) := by
  funext p
  exact decide_eq_decide.2 (by simp)
theorem sm_part {ps : List Pk} (sm : SmP ps) (inn : Nat → Bool) : SmP ((plL inn ps.length).map (pAt ps)) := by
  have e : plL inn ps.length = flP ps.length ((List.range ps.length).map inn) := by
    unfold plL flP
    refine List.filter_congr fun x hx => ?_
    have := List.mem_range.1 hx
    rw [List.getD_eq_getElem?_getD, List.getElem?_map, List.getElem?_range this]
    rfl
  rw [e]
  exact sm.part _
/-- WITHIN A ROUND. -/
structure Rn (W w1 X : World) (gi : Nat) (ps : List Pk) (inn : Nat → Bool) (i g : Nat) : Prop where
  b : Bb X gi ps.length (stay ps inn i)
  fx : Fx (fun c => c = gi) w1 X
  none_ : g = 0 → ∀ j p, j < i → (plL inn ps.length)[j]? = some p → Wh ps inn p (pAt ps p)
  some_ : g ≠ 0 → ∃ j p, j < i ∧ (plL inn ps.length)[j]? = some p ∧ ¬ Wh ps inn p (pAt ps p)
theorem Rn.start {W w1 : World} {gi : Nat} {ps : List Pk} {inn : Nat → Bool} (h : Bb w1 gi ps.length inn) : Rn W w1 w1 gi ps inn 0 0 :=
  ⟨by rw [stay_zero]; exact h, Fx.refl _ _, fun _ j p hj => absurd hj (Nat.not_lt_zero _), fun h => absurd rfl h⟩
theorem Rn.yes {W w1 X Y : World} {gi : Nat} {ps : List Pk} {inn : Nat → Bool} {i g p : Nat} (h : Rn W w1 X gi ps inn i g) (hb : RowKit.Below X.heap.size X Y) (hi : (plL inn ps.length)[i]? = some p) (hw : Wh ps inn p (pAt ps p)) : Rn W w1 Y gi ps inn (i + 1) g := by
  refine ⟨by rw [stay_yes hi hw]; exact h.b.later hb, h.fx.trans (Fx.of hb), fun hg j q hj hq => ?_, fun hg => ?_⟩
  · by_cases e : j = i
    · subst e; rw [hi] at hq; cases hq; exact hw
    · exact h.none_ hg j q (by omega) hq
  · obtain ⟨j, q, h1, h2, h3⟩ := h.some_ hg
    exact ⟨j, q, by omega, h2, h3⟩
theorem Rn.no {W w1 X Y : World} {gi : Nat} {ps : List Pk} {inn : Nat → Bool} {i g p : Nat} (h : Rn W w1 X gi ps inn i g) (hb : RowKit.Below X.heap.size X Y) (hi : (plL inn ps.length)[i]? = some p) (hp : p < ps.length) (hw : ¬ Wh ps inn p (pAt ps p)) : Rn W w1 (Y.setCell ⟨gi, p, none⟩ (.bool false)) gi ps inn (i + 1) (g + 1) := by
  refine ⟨?_, (h.fx.trans (Fx.of hb)).set rfl _ _, fun hg => absurd hg (by omega), fun _ => ⟨i, p, by omega, hi, hw⟩⟩
  rw [← stay_no hi hw]
  exact (h.b.later hb).set hp false

set_option maxRecDepth 100000 in
set_option maxHeartbeats 8000000 in
/-- THE REFERENCE'S Closed. -/
theorem rClosed_any {w : World} {v : Value} {ps : List Pk} (sm : SmP ps) (pk : Pkl w v ps) :
    Calls Tryz.prog 14 #[v] w fun e w' => ∃ r inn, e = .returned r ∧ w'.ownsRow w.heap.size 3 1 r (plL inn ps.length).length (ints (plL inn ps.length)) ∧ (Clo ps inn ∧ (∀ G, Clo ps G → ∀ p, p < ps.length → G p = true → inn p = true) ∧ ∀ p, inn p = true → p < ps.length) ∧ RowKit.Below w.heap.size w w' := by
  obtain ⟨va, vc, rfl⟩ : ∃ a c, v = .slice a ps.length c := let ⟨a, c, e, _⟩ := pk; ⟨a, c, e⟩
  have hl := sm.l
  have hmk := makeBB ps.length hl w
  have CP := hide (fun (X : World) (inn : Nat → Bool) (hX : RowKit.Below w.heap.size w X) (hb : Bb X w.heap.size ps.length inn) => rfpart_gen hX sm pk hb)
  have CW := hide (fun (inn : Nat → Bool) (X : World) (r : Value) (i p : Nat) (hk : Pkl X r ((plL inn ps.length).map (pAt ps))) (hi : (plL inn ps.length)[i]? = some p) => rwhole_any (sm_part sm inn) hk (show ((plL inn ps.length).map (pAt ps))[i]? = some (pAt ps p) by rw [List.getElem?_map, hi]; rfl))
  have HS := hide (Gf.start w ps.length)
  have HGB := hide (Gb.start ps)
  clear sm pk
  obtain ⟨W1, hW1⟩ : ∃ W, W = w.alloc (.cells (madeCells #[.bool false] ps.length) 4) := ⟨_, rfl⟩
  rw [← hW1] at HS hmk
  clear hW1
  go_enter Tryz.func14, Tryz.ntmps14
  go_wp2_with fail
  go_loopg [4] ps.length (fun gq iv wr => ∃ i : Nat, iv = .int .i64 i ∧ i ≤ ps.length ∧ ps.length - i ≤ gq ∧ Hid (Gf w wr ps.length (List.range i)))
  case atStart => exact ⟨0, by go_num, by omega, by omega, HS⟩
  case round =>
    clear HS
    obtain ⟨i, rfl, hi, hgq, HF⟩ := hrel
    by_cases hlt : i < ps.length
    · have hin : (i : Int) < (ps.length : Int) := by omega
      obtain ⟨k1, k2⟩ := (unhide HF).b.cell hlt
      have hlt2 := (unhide HF).b.lt
      have HF' := hide ((unhide HF).set hlt)
      rw [← List.range_succ] at HF'
      go_wp2_with fail
      go_roundg (ps.length - (i + 1))
      case measure => omega
      case rel => exact ⟨i + 1, by go_num, by omega, by omega, HF'⟩
    · obtain rfl : i = ps.length := by omega
      have HB0 := hide (unhide HF).bw
      have HBB : Hid (Bb wr w.heap.size ps.length (fun p => decide (p < ps.length))) := hide (by rw [← gf_range ps.length]; exact (unhide HF).b)
      clear HF
      go_wp2_with fail
      go_loopg [7] (ps.length + 1) (fun gq _ X => ∃ inn : Nat → Bool, (plL inn ps.length).length + 1 ≤ gq ∧ Hid (Bb X w.heap.size ps.length inn ∧ RowKit.Below w.heap.size w X ∧ Gb ps inn))
      case atStart => exact ⟨_, Nat.add_le_add_right (plL_len _ _) 1, hide ⟨unhide HBB, unhide HB0, unhide HGB⟩⟩
      case round =>
        clear HBB HB0 HGB
        obtain ⟨inn, hgq, HI⟩ := hrel
        have CP' := hide (unhide CP _ inn (unhide HI).2.1 (unhide HI).1)
        go_wp2_with fail
        refine (unhide CP').mono ?_
        rintro e w1 ⟨r1, r2, rfl, hpk, hbl, hrow, hb1⟩
        have hbw1 := bl_t (unhide HI).2.1 hb1
        obtain ⟨ra, rc, rfl⟩ : ∃ a c, r1 = .slice a ((plL inn ps.length).map (pAt ps)).length c := let ⟨a, c, e, _⟩ := hpk w1 (fun _ _ => rfl) hbw1; ⟨a, c, e⟩
        rw [List.length_map] at hpk hbl ⊢
        obtain ⟨⟨la, ln, lk⟩, rfl, hln⟩ := slice_hd hrow
        simp only at hln
        subst hln
        unfold hv at *
        have HR := hide (And.intro hpk (And.intro hbl (And.intro hrow (And.intro hb1 hbw1))))
        have HS := hide (Rn.start (W := w) ((unhide HI).1.later hb1))
        clear hpk hbl hrow hb1 hbw1 CP'
        have hml := plL_len inn ps.length
        go_wp2_with fail
        go_loopg [7, 8] (plL inn ps.length).length (fun gq gv iv X => ∃ i g : Nat, iv = .int .i64 i ∧ gv = .int .i64 g ∧ g ≤ i ∧ i ≤ (plL inn ps.length).length ∧ (plL inn ps.length).length - i ≤ gq ∧ Hid (Rn w w1 X w.heap.size ps inn i g))
        case atStart => exact ⟨0, 0, by go_num, by go_num, by omega, by omega, by omega, HS⟩
        case round =>
          clear HS
          obtain ⟨i, g, rfl, rfl, hgi, hi, hgq2, HN⟩ := hrel
          have hfx := (unhide HN).fx
          have hbX := fx_below (unhide HR).2.2.2.2 hfx (Nat.le_refl _)
          by_cases hlt : i < (plL inn ps.length).length
          · have hin : (i : Int) < ((plL inn ps.length).length : Int) := by omega
            obtain ⟨p, hp⟩ : ∃ p, (plL inn ps.length)[i]? = some p := ⟨_, List.getElem?_eq_getElem hlt⟩
            have hpl := ((plL_mem inn ps.length p).1 (List.mem_of_getElem? hp)).1
            have hgl := (unhide HI).1.lt
            have hrowX := own_same (unhide HR).2.2.1 (fun b e => hfx.blk b (World.ownsRow.lt (unhide HR).2.2.1 b e).2 (by have := (World.ownsRow.lt (unhide HR).2.2.1 b e).1; omega))
            have hpkX := (unhide HR).1 _ (fun b e => hfx.blk b ((unhide HR).2.1 b e).2 (by have := ((unhide HR).2.1 b e).1; omega)) hbX
            have CW' := hide (unhide CW inn _ _ i p hpkX hp)
            have HX := hide (And.intro hrowX hbX)
            clear hrowX hpkX hfx hbX hgl
            go_wp2_with fail
            refine (unhide CW').mono ?_
            rintro e Y ⟨b, rfl, hbi, hbY⟩
            rw [cl1_part ps inn hp] at hbi
            cases b
            · have hw : ¬ Wh ps inn p (pAt ps p) := fun q => by have := hbi.2 q; cases this
              obtain ⟨g', rfl, hc⟩ := row_at (unhide HX).1 hbY hlt
              rw [show (plL inn ps.length)[i] = p from (List.getElem?_eq_some_iff.1 hp).2] at hc
              obtain ⟨k1, k2⟩ := ((unhide HN).b.later hbY).cell hpl
              have k3 := ((unhide HN).b.later hbY).lt
              have HN' := hide ((unhide HN).no hbY hp hpl hw)
              have hpi : (p : Int) < (ps.length : Int) := by omega
              clear hbi hw hbY CW' HN HX hp
              go_wp2_with fail
              go_roundg ((plL inn ps.length).length - (i + 1))
              case measure => omega
              case rel => exact ⟨i + 1, g + 1, by go_num, by go_num, by omega, by omega, by omega, HN'⟩
            · have hw : Wh ps inn p (pAt ps p) := hbi.1 rfl
              have HN' := hide ((unhide HN).yes hbY hp hw)
              clear hbi hw hbY CW' HN HX hp
              go_wp2_with fail
              go_roundg ((plL inn ps.length).length - (i + 1))
              case measure => omega
              case rel => exact ⟨i + 1, g, by go_num, by go_num, by omega, by omega, by omega, HN'⟩
          · have hie : i = (plL inn ps.length).length := by omega
            have hgl := (unhide HI).1.lt
            have hrowX := own_same (unhide HR).2.2.1 (fun b e => hfx.blk b (World.ownsRow.lt (unhide HR).2.2.1 b e).2 (by have := (World.ownsRow.lt (unhide HR).2.2.1 b e).1; omega))
            have HX := hide (And.intro (row_lo2 hrowX (unhide HI).2.1.size) hbX)
            clear hrowX hfx hbX
            by_cases hg0 : g = 0
            · subst hg0
              have HE := hide (show Clo ps inn ∧ (∀ G, Clo ps G → ∀ p, p < ps.length → G p = true → inn p = true) ∧ ∀ p, inn p = true → p < ps.length from
                ⟨Gb.stop fun j q hq => (unhide HN).none_ rfl j q (by have := (List.getElem?_eq_some_iff.1 hq).1; omega) hq, (unhide HI).2.2.big, (unhide HI).2.2.lt⟩)
              clear HN
              go_wp2_with fail
              go_ret
              exact ⟨_, inn, rfl, (unhide HX).1, unhide HE, (unhide HX).2⟩
            · have hgb : ((g : Int) == 0) = false := beq_eq_false_iff_ne.2 (by omega)
              have hgn : ¬ (g : Int) = 0 := by omega
              obtain ⟨j, q, hj, hq, hw⟩ := (unhide HN).some_ hg0
              have hqm := (plL_mem inn ps.length q).1 (List.mem_of_getElem? hq)
              have hless : (plL (stay ps inn i) ps.length).length < (plL inn ps.length).length := by
                refine plL_less (fun p hp => stay_sub hp) hqm.1 hqm.2 ?_
                have hm : q ∈ (plL inn ps.length).take i := by
                  rw [List.take_of_length_le (by omega)]
                  exact List.mem_of_getElem? hq
                unfold stay
                simp [hm, hw]
              have HI' := hide (show Bb wr w.heap.size ps.length (stay ps inn i) ∧ RowKit.Below w.heap.size w wr ∧ Gb ps (stay ps inn i) from ⟨(unhide HN).b, (unhide HX).2, (unhide HI).2.2.next i⟩)
              clear HN hj hq hw hqm HX
              go_wp2_with fail
              go_roundg ((plL (stay ps inn i) ps.length).length + 1)
              case measure => omega
              case rel => exact ⟨_, Nat.le_refl _, HI'⟩

end Go.Proofs.YtcebpdcijpgkjaaGreatDoor

