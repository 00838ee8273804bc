import Derived.Test.YtfembjjpmjfklaaDoorLenQ
namespace Go.Proofs.YtfembjjpmjfklaaDoor
open Go.RowKit

theorem Cls.shapeL {w : World} {v : Value} {cl : List (List Am)} (h : Cls w v cl) : ∃ a c, v = .slice a cl.length c := by
  obtain ⟨a, c, e, _⟩ := h
  exact ⟨a, c, e⟩
theorem Ams.shapeL {w : World} {v : Value} {al : List Am} (h : Ams w v al) : ∃ a c, v = .slice a al.length c := by
  obtain ⟨a, c, e, _⟩ := h
  exact ⟨a, c, e⟩
/-- WHAT THE STORE OF A MARK READS. -/
theorem tail_spots {lo : Nat} {W : World} {C L : Nat} {xs ys : List Value} (h : W.ownsRow lo 34 3 (.slice (some ⟨C, 0, none⟩) (L + 1) (L + 1)) (L + 1) (xs ++ ys)) (hx : xs.length = L * 3) (hy : ys.length = 3) :
    C < W.heap.size ∧ (∃ z, W.cell? ⟨C, L * 3, none⟩ = some z) ∧ (∃ z, W.cell? ⟨C, L * 3 + 1, none⟩ = some z) ∧ (∃ z, W.cell? ⟨C, L * 3 + 2, none⟩ = some z) ∧ ∀ j, W.frozen? ⟨C, j, none⟩ = false := by
  have hc : ∀ j, j < L * 3 + 3 → ∃ z, W.cell? ⟨C, j, none⟩ = some z := fun j hj => by
    have := h.cells (g := C) rfl j ((xs ++ ys)[j]'(by simp; omega)) (List.getElem?_eq_getElem _)
    rw [Go.WideShapes.add_plain, Nat.zero_add] at this
    exact ⟨_, this⟩
  exact ⟨(h.lt C rfl).2, hc _ (by omega), hc _ (by omega), hc _ (by omega), fun j => ownsRow_free h j⟩
theorem LF.spot {lo : Nat} {W : World} {M : Nat} {ms : List Value} {cl : List (List Am)} {k : Nat} (h : LF lo W M ms cl k) {j : Nat} (hj : j ≤ cl.length) : (∃ z, W.cell? ⟨M, j, none⟩ = some z) ∧ W.frozen? ⟨M, j, none⟩ = false ∧ M < W.heap.size := by
  have hl := h.len
  have := h.row.cells (g := M) rfl j (ms[j]'(by omega)) (List.getElem?_eq_getElem _)
  rw [Go.WideShapes.add_plain, Nat.zero_add] at this
  exact ⟨⟨_, this⟩, ownsRow_free h.row j, h.ltM.2⟩
theorem LF.start (w : World) (cl : List (List Am)) (hN : cl.length ≤ 5864062014804) : LF w.heap.size (w.alloc (.cells (madeCells #[.slice none 0 0] (cl.length + 1)) 52)) w.heap.size (madeCells #[Value.slice none 0 0] ((cl.length + 1) * 1)).toList cl 0 := by
  have h := made_own w #[.slice none 0 0] (cl.length + 1) 1 52 w.heap.size (Nat.le_refl _) (by unfold maxLen; omega)
  rw [Nat.mul_one] at h ⊢
  exact ⟨h, fun i _ hi => absurd hi (Nat.not_lt_zero _), fun i j x y _ _ hi => absurd hi (Nat.not_lt_zero _), fun i x _ hi => absurd hi (Nat.not_lt_zero _)⟩
theorem LF.setOther {lo : Nat} {W : World} {M : Nat} {ms : List Value} {cl : List (List Am)} {k : Nat} (h : LF lo W M ms cl k) {s g o : Nat} (hg : s ≤ g) (hM : M < s) (hlt : ∀ (i : Nat) (y : Value), ms[i]? = some y → i < k → ∀ g, y.ownBlock = some g → g < s) (u : Value) : LF lo (W.setCell ⟨g, o, none⟩ u) M ms cl k :=
  { h with
    row := ownsRow_setCell_other h.row (a := ⟨g, o, none⟩) (fun e => by have := Option.some.inj e; simp at this; omega) u
    el := fun i hi hik => by
      obtain ⟨x, h1, h2⟩ := h.el i hi hik
      exact ⟨x, h1, h2.setOther (fun e => by have := hlt i x h1 hik g e; omega) u⟩ }

theorem LF.done {lo : Nat} {W : World} {M : Nat} {ms : List Value} {cl : List (List Am)} (h : LF lo W M ms cl cl.length) (hlo : lo ≤ W.heap.size) :
    LN lo ((W.alloc (.cells #[.string ⟨#[77, 65, 82, 75]⟩, .int .i64 78, .string ⟨#[]⟩] 34)).setCell ⟨M, cl.length, none⟩ (.slice (some ⟨W.heap.size, 0, none⟩) 1 1)) M W.heap.size (ms.set cl.length (.slice (some ⟨W.heap.size, 0, none⟩) 1 1)) cl := by
  have hl := h.len
  have hM := h.ltM
  have hbnd := h.lt (Nat.le_refl _)
  have hb : Below W.heap.size W (W.alloc (.cells #[.string ⟨#[77, 65, 82, 75]⟩, .int .i64 78, .string ⟨#[]⟩] 34)) := (Below.refl _ W).alloc (Nat.le_refl _) _
  have h1 := h.later hb
  have hat : ∀ (i : Nat) (y : Value), (ms.set cl.length (.slice (some ⟨W.heap.size, 0, none⟩) 1 1))[i]? = some y → i < cl.length → ms[i]? = some y := fun i y hy hi => by
    rw [List.getElem?_set_ne (by omega)] at hy
    exact hy
  have hk : OwnA lo (W.alloc (.cells #[.string ⟨#[77, 65, 82, 75]⟩, .int .i64 78, .string ⟨#[]⟩] 34)) (.slice (some ⟨W.heap.size, 0, none⟩) 1 1) [mk1 78] := by
    refine ⟨rfl, .inr ⟨W.heap.size, 1, #[.string ⟨#[77, 65, 82, 75]⟩, .int .i64 78, .string ⟨#[]⟩], rfl, hlo, ?_, Nat.le_refl _, by decide, rfl, rfl⟩⟩
    show (W.heap.push (.cells #[.string ⟨#[77, 65, 82, 75]⟩, .int .i64 78, .string ⟨#[]⟩] 34))[W.heap.size]? = some (.cells #[.string ⟨#[77, 65, 82, 75]⟩, .int .i64 78, .string ⟨#[]⟩] 34 (0, 0))
    simp
  generalize W.alloc (.cells #[.string ⟨#[77, 65, 82, 75]⟩, .int .i64 78, .string ⟨#[]⟩] 34) = W1 at *
  refine ⟨⟨ownsRow_set h1.row _ _, fun i hi hik => ?_, fun i j x y hx hy hi hj => h.ap i j x y (hat i x hx hi) (hat j y hy hj) hi hj, fun i x hx hi => h.ar i x (hat i x hx hi) hi⟩, List.getElem?_set_self (by omega), ?_, by omega, fun i x hx hi e => ?_⟩
  · obtain ⟨x, e1, e2⟩ := h1.el i hi hik
    exact ⟨x, by rw [List.getElem?_set_ne (by omega)]; exact e1, e2.setOther (h.ar i x e1 hik) _⟩
  · exact ownsRow_setCell_other hk (a := ⟨M, _, none⟩) (fun e => by have := Option.some.inj e; simp at this; omega) _
  · have := hbnd i x (hat i x hx hi) hi _ e
    omega

set_option maxRecDepth 100000 in
set_option maxHeartbeats 8000000 in
theorem lentField_any (cl : List (List Am)) (v : Value) (w : World) (hv : Cls w v cl) (hN : cl.length ≤ 5864062014804) (hL : ∀ i (h : i < cl.length), cl[i].length ≤ 3518437208883) :
    Calls Tryd.prog 30 #[v] w fun e w' => ∃ M K ms, e = .returned (.slice (some ⟨M, 0, none⟩) cl.length (cl.length + 1)) ∧ LN w.heap.size w' M K ms cl ∧ Below w.heap.size w w' := by
  obtain ⟨va, vc, rfl⟩ := hv.shapeL
  have HV := hide hv
  have HLL := hide hL
  have HST := hide (LF.start w cl hN)
  obtain ⟨N, hNe⟩ : ∃ N, cl.length = N := ⟨_, rfl⟩
  have mkL := makeL N (by omega)
  have hN' : N ≤ 5864062014804 := by omega
  have hn1 : wrap64 ((N : Int) + 1) = (N : Int) + 1 := by unfold wrap64; omega
  rw [hNe] at HV HST ⊢
  clear hv hL hN
  go_enter Tryd.func30, Tryd.ntmps30
  go_wp2_with fail
  go_loopw [4, 5] (fun iv _ wr => ∃ (k : Nat) (ms : List Value), k ≤ N ∧ iv = .int .i64 k ∧ Hid (LF w.heap.size wr w.heap.size ms cl k) ∧ Hid (Below w.heap.size w wr)) (fun iv _ _ => N - (intOf iv).toNat)
  case atStart => exact ⟨0, _, Nat.zero_le _, rfl, HST, hide ((Below.refl _ w).alloc (Nat.le_refl _) _)⟩
  case round =>
    obtain ⟨k, ms, hk, rfl, HF, HB⟩ := hrel
    clear HST
    by_cases hlt : k < N
    · have hkl : k < cl.length := by omega
      obtain ⟨b, o, x, rfl, hbl, q0, hx⟩ := ((unhide HV).later (unhide HB)).elem k hkl
      obtain ⟨xa, xc, rfl⟩ := hx.shapeL
      have hLk := unhide HLL k hkl
      obtain ⟨v', W3, ys, hcp, ho3, hy3, hb3⟩ := copyA cl[k] xa xc 3 wr w.heap.size (unhide HB).size hLk hx
      have mkA := makeA cl[k].length hLk
      have HO3 := hide ho3
      have HY := hide hy3
      have HB3 := hide hb3
      have HBnd := hide ((unhide HF).lt (by omega))
      have hMs := (unhide HF).ltM.2
      have HF3 := hide ((unhide HF).later (unhide HB3))
      have HQ := hide (fun (w' : World) (hb : Below W3.heap.size W3 w') => (hb.cell (p := ⟨b, o + k, none⟩) (Nat.lt_of_lt_of_le hbl (unhide HB3).size)).trans (((unhide HB3).cell (p := ⟨b, o + k, none⟩) hbl).trans q0))
      have q3 := unhide HQ W3 (Below.refl _ _)
      have hbl3 := Nat.lt_of_lt_of_le hbl (unhide HB3).size
      have hC3 := ((unhide HO3).lt wr.heap.size rfl).2
      have B0 := hide ((Below.refl W3.heap.size W3).drew)
      have HPut := hide (fun (W : World) (x : Value) (h : LF w.heap.size W w.heap.size ms cl k) (hx : LE w.heap.size W x cl[k]) (hs : ∀ g, x.ownBlock = some g → wr.heap.size ≤ g) => h.put hkl (Nat.le_of_lt hkl) hx hs hMs (unhide HBnd))
      have HMk := hide (fun (W : World) (h : W.ownsRow w.heap.size 34 3 (.slice (some ⟨wr.heap.size, 0, none⟩) (cl[k].length + 1) (cl[k].length + 1)) (cl[k].length + 1) (cl[k].flatMap amCells ++ ys)) => LE.mark h (unhide HY))
      have HTs := hide (fun (W : World) (h : W.ownsRow w.heap.size 34 3 (.slice (some ⟨wr.heap.size, 0, none⟩) (cl[k].length + 1) (cl[k].length + 1)) (cl[k].length + 1) (cl[k].flatMap amCells ++ ys)) => tail_spots h (flatA_len _) (unhide HY))
      obtain ⟨xs0, hxs0⟩ : ∃ xs0, cl[k].flatMap amCells = xs0 := ⟨_, rfl⟩
      obtain ⟨L, hLe⟩ : ∃ L, cl[k].length = L := ⟨_, rfl⟩
      rw [hxs0] at HO3 HMk HTs
      rw [hLe] at HO3 HMk HTs hcp mkA q0 q3 HQ hLk
      clear ho3 hy3 hb3 hx hxs0 hLe
      have j1 : (0 : Int) ≤ (L : Int) := by omega
      have j2 : (L : Int) < (L : Int) + 1 := by omega
      have j3 : (L : Int) ≤ (L : Int) + 1 := by omega
      have hn2 : wrap64 ((L : Int) + 1) = (L : Int) + 1 := by unfold wrap64; omega
      go_wp2_with fail
      clear hcp mkL mkA
      go_region_held3 (fun w' => w'.cell? ⟨b, o + k, none⟩ = some (.slice xa L xc)) (first | exact unhide HQ _ (unhide B0) | exact unhide HQ _ (unhide B1) | exact unhide HQ7) (first | (go_at_call 22; refine (markA_any _ _).mono ?_; rintro x w5 ⟨rfl, hb5⟩; have B1 := hide ((unhide B0).trans (hb5.mono (unhide B0).size)); have HO5 := hide (ownsRow_below (unhide HO3) (unhide B1)); obtain ⟨hC5, ⟨z0, hz0⟩, ⟨z1, hz1⟩, ⟨z2, hz2⟩, hfz⟩ := unhide HTs _ (unhide HO5); have hf0 := hfz (L * 3); have hf1 := hfz (L * 3 + 1); have hf2 := hfz (L * 3 + 2); clear hfz hb5; have HQ7 := hide (show (((w5.setCell ⟨wr.heap.size, L * 3, none⟩ (.string ⟨#[77, 65, 82, 75]⟩)).setCell ⟨wr.heap.size, L * 3 + 1, none⟩ (.int .i64 77)).setCell ⟨wr.heap.size, L * 3 + 2, none⟩ (.string ⟨#[]⟩)).cell? ⟨b, o + k, none⟩ = some (.slice xa L xc) by rw [World.cell?_setCell_other _ _ _ _ (fun e => by injection e; omega), World.cell?_setCell_other _ _ _ _ (fun e => by injection e; omega), World.cell?_setCell_other _ _ _ _ (fun e => by injection e; omega)]; exact unhide HQ _ (unhide B1))))
      have HE7 := hide (unhide HMk _ (unhide HO5))
      have HF7 := hide (((((unhide HF3).later (unhide B1)).setOther (o := L * 3) (Nat.le_refl wr.heap.size) hMs (unhide HBnd) (.string ⟨#[77, 65, 82, 75]⟩)).setOther (o := L * 3 + 1) (Nat.le_refl wr.heap.size) hMs (unhide HBnd) (.int .i64 77)).setOther (o := L * 3 + 2) (Nat.le_refl wr.heap.size) hMs (unhide HBnd) (.string ⟨#[]⟩))
      have HB7 := hide ((((((unhide HB).trans ((unhide HB3).mono (unhide HB).size)).trans ((unhide B1).mono (Nat.le_trans (unhide HB).size (unhide HB3).size))).setCell (p := ⟨wr.heap.size, L * 3, none⟩) (unhide HB).size (.string ⟨#[77, 65, 82, 75]⟩)).setCell (p := ⟨wr.heap.size, L * 3 + 1, none⟩) (unhide HB).size (.int .i64 77)).setCell (p := ⟨wr.heap.size, L * 3 + 2, none⟩) (unhide HB).size (.string ⟨#[]⟩))
      have hbl7 : b < (((w5.setCell ⟨wr.heap.size, L * 3, none⟩ (.string ⟨#[77, 65, 82, 75]⟩)).setCell ⟨wr.heap.size, L * 3 + 1, none⟩ (.int .i64 77)).setCell ⟨wr.heap.size, L * 3 + 2, none⟩ (.string ⟨#[]⟩)).heap.size := by have := (unhide B1).size; simp; omega
      generalize (((w5.setCell ⟨wr.heap.size, L * 3, none⟩ (.string ⟨#[77, 65, 82, 75]⟩)).setCell ⟨wr.heap.size, L * 3 + 1, none⟩ (.int .i64 77)).setCell ⟨wr.heap.size, L * 3 + 2, none⟩ (.string ⟨#[]⟩)) = W7 at *
      obtain ⟨⟨y0, hy0⟩, fy, ltM7⟩ := (unhide HF7).spot (j := k) (by omega)
      have HPP := hide (unhide HPut _ _ (unhide HF7) (unhide HE7) (fun g e => by have := Option.some.inj e; simp at this; omega))
      have q7 := unhide HQ7
      have HB8 := hide ((unhide HB7).setCell (p := ⟨w.heap.size, k, none⟩) (Nat.le_refl _) (.slice (some ⟨wr.heap.size, 0, none⟩) L (L + 1)))
      clear hz0 hz1 hz2 hf0 hf1 hf2 HO5 HMk HTs HPut HQ HQ7 HF3 HO3 B0 B1 hC5
      go_wp2_with fail
      go_roundw
      case rel => exact ⟨k + 1, _, by omega, by go_num, HPP, HB8⟩
      case measure => simp [intOf]; omega
    · obtain rfl : k = N := by omega
      go_wp2_with fail
      refine (markA_any _ _).mono ?_
      rintro x w5 ⟨rfl, hb5⟩
      have HF5 := hide ((unhide HF).later hb5)
      have HB5 := hide ((unhide HB).trans (hb5.mono (unhide HB).size))
      obtain ⟨⟨y1, hy1⟩, fM, ltM⟩ := (unhide HF5).spot (j := k) (by omega)
      have HD := hide (show LN w.heap.size ((w5.alloc (.cells #[.string ⟨#[77, 65, 82, 75]⟩, .int .i64 78, .string ⟨#[]⟩] 34)).setCell ⟨w.heap.size, k, none⟩ (.slice (some ⟨w5.heap.size, 0, none⟩) 1 1)) w.heap.size w5.heap.size _ cl by have h := (unhide HF5); rw [← hNe] at h ⊢; exact h.done (unhide HB5).size)
      have HB6 := hide (((unhide HB5).alloc (unhide HB5).size (.cells #[.string ⟨#[77, 65, 82, 75]⟩, .int .i64 78, .string ⟨#[]⟩] 34)).setCell (p := ⟨w.heap.size, k, none⟩) (Nat.le_refl _) (.slice (some ⟨w5.heap.size, 0, none⟩) 1 1))
      rw [World.setCell_alloc_past _ _ _ _ ltM] at HD HB6
      have j1 : (0 : Int) ≤ (k : Int) := by omega
      have j2 : (k : Int) < (k : Int) + 1 := by omega
      have j3 : (k : Int) ≤ (k : Int) + 1 := by omega
      clear hb5 HF HB HF5
      go_wp2_with fail
      go_ret
      exact ⟨_, _, _, rfl, unhide HD, unhide HB6⟩

end Go.Proofs.YtfembjjpmjfklaaDoor
