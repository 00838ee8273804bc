import Derived.Test.YtfembjjpmjfklaaDoorLent3
namespace Go.Proofs.YtfembjjpmjfklaaDoor
open Go.RowKit

theorem keepS {w w' : World} {b o : Nat} {x : Value} (g : b < w.heap.size) (k : w.cell? ⟨b, o, none⟩ = some x) (B : Below w.heap.size w w') : w'.cell? ⟨b, o, none⟩ = some x ∧ Below w.heap.size w w' :=
  ⟨(B.cell (p := ⟨b, o, none⟩) g).trans k, B⟩

theorem LentA.spots {w W : World} {M C : Nat} {al : List At} (h : LentA w W M C al) :
    (∃ z, W.cell? ⟨C, al.length * 3, none⟩ = some z) ∧ (∃ z, W.cell? ⟨C, al.length * 3 + 1, none⟩ = some z) ∧ (∃ z, W.cell? ⟨C, al.length * 3 + 2, none⟩ = some z) ∧ (∃ z, W.cell? ⟨M, 0, none⟩ = some z) ∧ (∃ z, W.cell? ⟨M, 1, none⟩ = some z) :=
  ⟨Option.isSome_iff_exists.1 (h.last 0 (by omega)), Option.isSome_iff_exists.1 (h.last 1 (by omega)), Option.isSome_iff_exists.1 (h.last 2 (by omega)), Option.isSome_iff_exists.1 (h.two 0 (by omega)), Option.isSome_iff_exists.1 (h.two 1 (by omega))⟩

/-- .. AND THE MARK BEHIND THE ATOMS. -/
structure LentL (w W : World) (M C : Nat) (al : List At) : Prop where
  la : LentA w W M C al
  l0 : W.cell? ⟨C, al.length * 3, none⟩ = some (.string ⟨#[77, 65, 82, 75]⟩)
  l1 : W.cell? ⟨C, al.length * 3 + 1, none⟩ = some (.int .i64 77)
  l2 : W.cell? ⟨C, al.length * 3 + 2, none⟩ = some (.string ⟨#[]⟩)

theorem off_ne {b i j : Nat} (h : i ≠ j) : (⟨b, i, none⟩ : Addr) ≠ ⟨b, j, none⟩ := fun e => h (by injection e)
theorem blk_ne {b c i j : Nat} (h : b ≠ c) : (⟨b, i, none⟩ : Addr) ≠ ⟨c, j, none⟩ := fun e => h (by injection e)

theorem LentA.mark {w W : World} {M C : Nat} {al : List At} (h : LentA w W M C al) :
    LentL w (((W.setCell ⟨C, al.length * 3, none⟩ (.string ⟨#[77, 65, 82, 75]⟩)).setCell ⟨C, al.length * 3 + 1, none⟩ (.int .i64 77)).setCell ⟨C, al.length * 3 + 2, none⟩ (.string ⟨#[]⟩)) M C al := by
  obtain ⟨⟨z0, hz0⟩, ⟨z1, hz1⟩, ⟨z2, hz2⟩, ⟨y0, hy0⟩, ⟨y1, hy1⟩⟩ := h.spots
  have hne := h.ne
  have hlo := h.loM
  have hel : ∀ j, j ≠ al.length * 3 → j ≠ al.length * 3 + 1 → j ≠ al.length * 3 + 2 → (((W.setCell ⟨C, al.length * 3, none⟩ (.string ⟨#[77, 65, 82, 75]⟩)).setCell ⟨C, al.length * 3 + 1, none⟩ (.int .i64 77)).setCell ⟨C, al.length * 3 + 2, none⟩ (.string ⟨#[]⟩)).cell? ⟨C, j, none⟩ = W.cell? ⟨C, j, none⟩ := fun j h0 h1 h2 => by
    rw [World.cell?_setCell_other _ _ _ _ (off_ne (Ne.symm h2)), World.cell?_setCell_other _ _ _ _ (off_ne (Ne.symm h1)), World.cell?_setCell_other _ _ _ _ (off_ne (Ne.symm h0))]
  have hM : ∀ j, (((W.setCell ⟨C, al.length * 3, none⟩ (.string ⟨#[77, 65, 82, 75]⟩)).setCell ⟨C, al.length * 3 + 1, none⟩ (.int .i64 77)).setCell ⟨C, al.length * 3 + 2, none⟩ (.string ⟨#[]⟩)).cell? ⟨M, j, none⟩ = W.cell? ⟨M, j, none⟩ := fun j => by
    rw [World.cell?_setCell_other _ _ _ _ (blk_ne (by omega)), World.cell?_setCell_other _ _ _ _ (blk_ne (by omega)), World.cell?_setCell_other _ _ _ _ (blk_ne (by omega))]
  have e0 : (((W.setCell ⟨C, al.length * 3, none⟩ (.string ⟨#[77, 65, 82, 75]⟩)).setCell ⟨C, al.length * 3 + 1, none⟩ (.int .i64 77)).setCell ⟨C, al.length * 3 + 2, none⟩ (.string ⟨#[]⟩)).cell? ⟨C, al.length * 3, none⟩ = some (.string ⟨#[77, 65, 82, 75]⟩) := by
    rw [World.cell?_setCell_other _ _ _ _ (off_ne (by omega)), World.cell?_setCell_other _ _ _ _ (off_ne (by omega))]
    exact World.cell?_setCell_same _ _ _ hz0
  have e1 : (((W.setCell ⟨C, al.length * 3, none⟩ (.string ⟨#[77, 65, 82, 75]⟩)).setCell ⟨C, al.length * 3 + 1, none⟩ (.int .i64 77)).setCell ⟨C, al.length * 3 + 2, none⟩ (.string ⟨#[]⟩)).cell? ⟨C, al.length * 3 + 1, none⟩ = some (.int .i64 77) := by
    rw [World.cell?_setCell_other _ _ _ _ (off_ne (by omega))]
    exact World.cell?_setCell_same _ _ _ (by rw [World.cell?_setCell_other _ _ _ _ (off_ne (by omega))]; exact hz1)
  have e2 : (((W.setCell ⟨C, al.length * 3, none⟩ (.string ⟨#[77, 65, 82, 75]⟩)).setCell ⟨C, al.length * 3 + 1, none⟩ (.int .i64 77)).setCell ⟨C, al.length * 3 + 2, none⟩ (.string ⟨#[]⟩)).cell? ⟨C, al.length * 3 + 2, none⟩ = some (.string ⟨#[]⟩) :=
    World.cell?_setCell_same _ _ _ (by rw [World.cell?_setCell_other _ _ _ _ (off_ne (by omega)), World.cell?_setCell_other _ _ _ _ (off_ne (by omega))]; exact hz2)
  refine ⟨⟨fun i hi => ?_, fun j hj => ?_, fun j hj => ?_, fun j => ?_, fun j => ?_, ?_, ?_, h.loM, h.ne, ?_⟩, e0, e1, e2⟩
  · rw [hel _ (by omega) (by omega) (by omega), hel _ (by omega) (by omega) (by omega), hel _ (by omega) (by omega) (by omega)]
    exact h.elem i hi
  · have : j = 0 ∨ j = 1 ∨ j = 2 := by omega
    rcases this with rfl | rfl | rfl
    · exact congrArg Option.isSome e0
    · exact congrArg Option.isSome e1
    · exact congrArg Option.isSome e2
  · rw [hM]; exact h.two j hj
  · rw [World.frozen?_setCell, World.frozen?_setCell, World.frozen?_setCell]; exact h.frC j
  · rw [World.frozen?_setCell, World.frozen?_setCell, World.frozen?_setCell]; exact h.frM j
  · simpa using h.ltM
  · simpa using h.ltC
  · have hwC : w.heap.size ≤ C := by omega
    exact ((h.bel.setCell (p := ⟨C, _, none⟩) hwC _).setCell (p := ⟨C, _, none⟩) hwC _).setCell (p := ⟨C, _, none⟩) hwC _

/-- .. AND THE LIST'S FIRST PLACE. -/
structure LentM (w W : World) (M C : Nat) (al : List At) : Prop where
  ll : LentL w W M C al
  m0 : W.cell? ⟨M, 0, none⟩ = some (.slice (some ⟨C, 0, none⟩) al.length (al.length + 1))

theorem LentL.put {w W : World} {M C : Nat} {al : List At} (h : LentL w W M C al) : LentM w (W.setCell ⟨M, 0, none⟩ (.slice (some ⟨C, 0, none⟩) al.length (al.length + 1))) M C al := by
  obtain ⟨-, -, -, ⟨y0, hy0⟩, ⟨y1, hy1⟩⟩ := h.la.spots
  have hne := h.la.ne
  have hlo := h.la.loM
  have hC : ∀ j, (W.setCell ⟨M, 0, none⟩ (.slice (some ⟨C, 0, none⟩) al.length (al.length + 1))).cell? ⟨C, j, none⟩ = W.cell? ⟨C, j, none⟩ := fun j => World.cell?_setCell_other _ _ _ _ (blk_ne (by omega))
  have e0 : (W.setCell ⟨M, 0, none⟩ (.slice (some ⟨C, 0, none⟩) al.length (al.length + 1))).cell? ⟨M, 0, none⟩ = some (.slice (some ⟨C, 0, none⟩) al.length (al.length + 1)) := World.cell?_setCell_same _ _ _ hy0
  refine ⟨⟨⟨fun i hi => ?_, fun j hj => ?_, fun j hj => ?_, fun j => ?_, fun j => ?_, ?_, ?_, h.la.loM, h.la.ne, ?_⟩, (hC _).trans h.l0, (hC _).trans h.l1, (hC _).trans h.l2⟩, e0⟩
  · rw [hC, hC, hC]; exact h.la.elem i hi
  · rw [hC]; exact h.la.last j hj
  · have : j = 0 ∨ j = 1 := by omega
    rcases this with rfl | rfl
    · rw [e0]; rfl
    · rw [World.cell?_setCell_other _ _ _ _ (off_ne (by omega)), hy1]; rfl
  · rw [World.frozen?_setCell]; exact h.la.frC j
  · rw [World.frozen?_setCell]; exact h.la.frM j
  · simpa using h.la.ltM
  · simpa using h.la.ltC
  · exact h.la.bel.setCell (p := ⟨M, 0, none⟩) hlo _

theorem LentM.later {w W W' : World} {M C : Nat} {al : List At} (h : LentM w W M C al) (hb : Below W.heap.size W W') : LentM w W' M C al :=
  ⟨⟨h.ll.la.later hb, (hb.cell (p := ⟨C, _, none⟩) h.ll.la.ltC).trans h.ll.l0, (hb.cell (p := ⟨C, _, none⟩) h.ll.la.ltC).trans h.ll.l1, (hb.cell (p := ⟨C, _, none⟩) h.ll.la.ltC).trans h.ll.l2⟩, (hb.cell (p := ⟨M, 0, none⟩) h.ll.la.ltM).trans h.m0⟩

theorem LentM.done {w W : World} {M C : Nat} {al : List At} (h : LentM w W M C al) :
    Lent w ((W.alloc (.cells #[.string ⟨#[77, 65, 82, 75]⟩, .int .i64 78, .string ⟨#[]⟩] 34)).setCell ⟨M, 1, none⟩ (.slice (some ⟨W.heap.size, 0, none⟩) 1 1)) M C W.heap.size al := by
  obtain ⟨W1, hW1, k0, k1, k2, q, B⟩ := atomNew W (.string ⟨#[77, 65, 82, 75]⟩) (.int .i64 78) (.string ⟨#[]⟩) 34
  have h1 := h.later B
  rw [hW1]
  have hlM := h.ll.la.ltM
  have hlC := h.ll.la.ltC
  have hne := h.ll.la.ne
  have hlo := h.ll.la.loM
  obtain ⟨-, -, -, -, ⟨y1, hy1⟩⟩ := h1.ll.la.spots
  have hC : ∀ j, (W1.setCell ⟨M, 1, none⟩ (.slice (some ⟨W.heap.size, 0, none⟩) 1 1)).cell? ⟨C, j, none⟩ = W1.cell? ⟨C, j, none⟩ := fun j => World.cell?_setCell_other _ _ _ _ (blk_ne (by omega))
  have hK : ∀ j, (W1.setCell ⟨M, 1, none⟩ (.slice (some ⟨W.heap.size, 0, none⟩) 1 1)).cell? ⟨W.heap.size, j, none⟩ = W1.cell? ⟨W.heap.size, j, none⟩ := fun j => World.cell?_setCell_other _ _ _ _ (blk_ne (by omega))
  refine ⟨fun i hi => ?_, (hC _).trans h1.ll.l0, (hC _).trans h1.ll.l1, (hC _).trans h1.ll.l2, ?_, World.cell?_setCell_same _ _ _ hy1, (hK _).trans k0, (hK _).trans k1, (hK _).trans k2, fun j => ?_, ?_, ?_, ?_, h.ll.la.loM, h.ll.la.ne, hlC, ?_⟩
  · rw [hC, hC, hC]; exact h1.ll.la.elem i hi
  · rw [World.cell?_setCell_other _ _ _ _ (off_ne (by omega))]; exact h1.m0
  · rw [World.frozen?_setCell]; exact h1.ll.la.frC j
  · simpa using h1.ll.la.ltM
  · simpa using h1.ll.la.ltC
  · simpa using q
  · exact h1.ll.la.bel.setCell (p := ⟨M, 1, none⟩) hlo _

set_option maxRecDepth 8000 in
set_option maxHeartbeats 4000000 in
theorem lentField_one (al : List At) (hal : al.length ≤ 3518437208883) (v x : Value) (w : World) (h1 : One w v x) (ha : Ats w x al) :
    Calls Tryd.prog 30 #[v] w fun e w' => ∃ M C K, e = .returned (.slice (some ⟨M, 0, none⟩) 1 2) ∧ Lent w w' M C K al := by
  have HA := hide ha
  obtain ⟨b1, o1, c1, rfl, g1, k1⟩ := h1
  obtain ⟨xa, xc, rfl, hxb, -⟩ := ha
  have mk22 := make22
  have mk52 := make52 al.length hal
  have HLA := hide (lentA_of w al)
  have HB1 := hide (((Below.refl w.heap.size w).alloc (Nat.le_refl _) (.cells (madeCells #[.slice none 0 0] 2) 52)).alloc (by simp) (.cells (madeCells #[.string ⟨#[]⟩, .int .i64 0, .string ⟨#[]⟩] ((al.length + 1) * 3)) 34))
  have hcp0 : ∃ v', (Builtin.copy_ #[52, 52] 3 #[.slice (some ⟨w.heap.size + 1, 0, none⟩) (al.length + 1) (al.length + 1), .slice xa al.length xc]).run Tryd.prog ((w.alloc (.cells (madeCells #[.slice none 0 0] 2) 52)).alloc (.cells (madeCells #[.string ⟨#[]⟩, .int .i64 0, .string ⟨#[]⟩] ((al.length + 1) * 3)) 34)) = .ok v' (((w.alloc (.cells (madeCells #[.slice none 0 0] 2) 52)).alloc (.cells (madeCells #[.string ⟨#[]⟩, .int .i64 0, .string ⟨#[]⟩] ((al.length + 1) * 3)) 34)).setCells (w.heap.size + 1) 0 (flat al)) := by
    refine copy_clause al _ 3 _ _ _ ((unhide HA).later (unhide HB1)) (fun j hj => ?_) (fun j => ?_)
    · rw [World.cell?_alloc_at _ _ _ _ (by simp)]
      exact made_some _ _ _ (by omega)
    · rw [World.frozen?_alloc_at _ _ _ _ (by simp)]
  obtain ⟨v', hcp⟩ := hcp0
  obtain ⟨W3, hW3, hLA⟩ : ∃ W3, (((w.alloc (.cells (madeCells #[.slice none 0 0] 2) 52)).alloc (.cells (madeCells #[.string ⟨#[]⟩, .int .i64 0, .string ⟨#[]⟩] ((al.length + 1) * 3)) 34)).setCells (w.heap.size + 1) 0 (flat al)) = W3 ∧ LentA w W3 w.heap.size (w.heap.size + 1) al := ⟨_, rfl, unhide HLA⟩
  rw [hW3] at hcp
  have HL := hide hLA
  clear hW3 HLA HB1 hLA
  go_enter Tryd.func30, Tryd.ntmps30
  go_wp2_with fail
  go_loopw [4, 5] (fun iv _ wr => ∃ k : Nat, iv = .int .i64 k ∧ ((k = 0 ∧ wr = w.alloc (.cells (madeCells #[.slice none 0 0] 2) 52)) ∨ (k = 1 ∧ Hid (LentM w wr w.heap.size (w.heap.size + 1) al)))) (fun iv _ _ => 1 - (intOf iv).toNat)
  case atStart => exact ⟨0, rfl, .inl ⟨rfl, rfl⟩⟩
  case round =>
    obtain ⟨k, rfl, hk⟩ := hrel
    rcases hk with ⟨rfl, rfl⟩ | ⟨rfl, HQ⟩
    · have k3 := keepS g1 k1 (unhide HL).bel
      obtain ⟨k3, -⟩ := k3
      have g3 := Nat.lt_of_lt_of_le g1 (unhide HL).bel.size
      have hC := Nat.le_succ w.heap.size
      rw [show ((0 : Nat) : Int) = 0 from rfl]
      go_wp2_with fail
      clear hcp mk22 mk52
      have j1 : (0 : Int) ≤ (al.length : Int) := by omega
      have j2 : (al.length : Int) < (al.length : Int) + 1 := by omega
      go_region_held3 (fun w' => w'.cell? ⟨b1, o1, none⟩ = some (.slice xa al.length xc) ∧ Below w.heap.size w w') (first | exact keepS g1 k1 (unhide HL).bel.drew | exact keepS g1 k1 (unhide HB5) | exact keepS g1 k1 ((((unhide HB5).setCell (p := ⟨w.heap.size + 1, _, none⟩) hC _).setCell (p := ⟨w.heap.size + 1, _, none⟩) hC _).setCell (p := ⟨w.heap.size + 1, _, none⟩) hC _))
        (first | (go_at_call 22; refine (mark2_any 77 _).mono ?_; rintro x w5 ⟨rfl, hb5⟩; have HL5 := hide ((unhide HL).later ((Below.refl _ _).drew.trans hb5)); have HB5 := hide (unhide HL5).bel; obtain ⟨⟨z0, hz0⟩, ⟨z1, hz1⟩, ⟨z2, hz2⟩, -, -⟩ := (unhide HL5).spots; have hf0 := (unhide HL5).frC (al.length * 3); have hf1 := (unhide HL5).frC (al.length * 3 + 1); have hf2 := (unhide HL5).frC (al.length * 3 + 2); clear hb5))
      have HQ := hide (unhide HL5).mark
      have k7 := keepS g1 k1 (unhide HQ).la.bel
      obtain ⟨k7, -⟩ := k7
      obtain ⟨-, -, -, ⟨y0, hy0⟩, -⟩ := (unhide HQ).la.spots
      have fy := (unhide HQ).la.frM 0
      generalize (((w5.setCell ⟨w.heap.size + 1, al.length * 3, none⟩ (.string ⟨#[77, 65, 82, 75]⟩)).setCell ⟨w.heap.size + 1, al.length * 3 + 1, none⟩ (.int .i64 77)).setCell ⟨w.heap.size + 1, al.length * 3 + 2, none⟩ (.string ⟨#[]⟩)) = W7 at *
      have j3 : (al.length : Int) ≤ (al.length : Int) + 1 := by omega
      go_wp2_with fail
      go_roundw
      case rel => exact ⟨1, rfl, .inr ⟨rfl, hide (unhide HQ).put⟩⟩
      case measure => simp [intOf]
    · rw [show ((1 : Nat) : Int) = 1 from rfl]
      go_wp2_with fail
      refine (mark2_any 78 _).mono ?_
      rintro x w5 ⟨rfl, hb5⟩
      have HQ5 := hide ((unhide HQ).later hb5)
      obtain ⟨-, -, -, -, ⟨y1, hy1⟩⟩ := (unhide HQ5).ll.la.spots
      have fM := (unhide HQ5).ll.la.frM 1
      have ltM := (unhide HQ5).ll.la.ltM
      clear hb5 hcp mk22 mk52
      go_wp2_with fail
      go_ret
      have hD := (unhide HQ5).done
      rw [World.setCell_alloc_past _ _ _ _ ltM] at hD
      exact ⟨_, _, _, rfl, hD⟩

end Go.Proofs.YtfembjjpmjfklaaDoor
