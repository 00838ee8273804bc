import Derived.Test.YtiibobjbcgbknaaDoorStW
import Derived.Lib.SlBytesConst
namespace Go.Proofs.YtiibobjbcgbknaaDoor
open Go.RowKit

theorem Wh_one {a b : Nat} {W : World} {v : Value} {f : Fd} (h : Wh a b W v [f]) : ∃ g c lg lc ag ac, v = .slice (some ⟨g, 0, none⟩) 1 c ∧ W.cell? ⟨g, 0, none⟩ = some (.string (ba f.nm)) ∧ W.cell? ⟨g, 1, none⟩ = some (.slice (some ⟨lg, 0, none⟩) f.ls.length lc) ∧ W.cell? ⟨g, 2, none⟩ = some (.slice (some ⟨ag, 0, none⟩) f.ns.length ac) ∧ Cl W (some ⟨lg, 0, none⟩) (strs f.ls) ∧ Cl W (some ⟨ag, 0, none⟩) (ints f.ns) := by
  obtain ⟨xs, h1, h2, _⟩ := h.sh
  cases xs with
  | nil => cases h1
  | cons x r =>
    cases r with
    | cons y r => simp at h1
    | nil =>
      have hf : x.f = f := by simpa using h1
      subst hf
      obtain ⟨g, cap, cur, rfl, hg, _, htk, _⟩ := slice_of (n := 0) h2.row
      have hx := h2.ok x (by simp)
      refine ⟨g, cap, x.lg, x.lc, x.ag, x.ac, rfl, (cell_blk hg 0).1.trans (take_get htk rfl), (cell_blk hg 1).1.trans (take_get htk rfl), (cell_blk hg 2).1.trans (take_get htk rfl), Cl.of_owns hx.l, Cl.of_owns hx.a⟩

abbrev lit : Bs := [65, 58, 32, 49, 10, 32, 98, 10, 10, 67, 58, 10]
abbrev f0 : Fd := ⟨[65], [[49], [98]], [1, 2]⟩
abbrev f1 : Fd := ⟨[67], [[]], [4]⟩
theorem lit_out : pOut lit = (0, 0) := by kernel_rfl
theorem lit_ps : shut (parseT lit) = [[f0], [f1]] := by kernel_rfl

theorem cl_new2 (W : World) (a b : Value) (t : TypeId) : Cl (W.alloc (.cells #[a, b] t)) (some ⟨W.heap.size, 0, none⟩) [a, b] := fun _ =>
  ⟨W.heap.size, 0, rfl, fun i u hi => by
    have hb : (W.alloc (.cells #[a, b] t)).heap[W.heap.size]? = some (.cells #[a, b] t (0, 0)) := World.alloc_heap_new W _
    rw [Nat.zero_add, (cell_blk hb i).1, ← hi]
    simp⟩
theorem cl_new1 (W : World) (a : Value) (t : TypeId) : Cl (W.alloc (.cells #[a] t)) (some ⟨W.heap.size, 0, none⟩) [a] := fun _ =>
  ⟨W.heap.size, 0, rfl, fun i u hi => by
    have hb : (W.alloc (.cells #[a] t)).heap[W.heap.size]? = some (.cells #[a] t (0, 0)) := World.alloc_heap_new W _
    rw [Nat.zero_add, (cell_blk hb i).1, ← hi]
    simp⟩
theorem cell_later {W W2 : World} {p : Addr} {v : Value} (h : W.cell? p = some v) (hb : Below W.heap.size W W2) : W2.cell? p = some v := by
  have hlt : p.block < W.heap.size := by
    by_cases hl : p.block < W.heap.size
    · exact hl
    · rw [World.cell?] at h
      simp [Array.getElem?_eq_none (Nat.le_of_not_lt hl)] at h
  exact (hb.cell hlt).trans h
/-- THE FIRST OF THE THREE: the row built beyond a copy of the Field. -/
theorem texts_two (W2 : World) (a b c : Value) (t : TypeId) (lg lc : Nat) (k1 : Cl W2 (some ⟨lg, 0, none⟩) (strs [[49], [98]])) :
    Calls Tryd.prog 33 #[.slice (some ⟨lg, 0, none⟩) 2 lc, .slice (some ⟨W2.heap.size + 1, 0, none⟩) 2 2] ((W2.alloc (.cells #[a, b, c] t)).alloc (.cells #[.string ⟨#[49]⟩, .string ⟨#[98]⟩] 9)) fun e W3 => e = .returned (.bool true) ∧ Below W2.heap.size W2 W3 ∧ W3.cell? ⟨W2.heap.size, 2, none⟩ = some c := by
  have b1 : Below W2.heap.size W2 (W2.alloc (.cells #[a, b, c] t)) := (Below.refl _ _).alloc (Nat.le_refl _) _
  have b2 : Below (W2.alloc (.cells #[a, b, c] t)).heap.size (W2.alloc (.cells #[a, b, c] t)) ((W2.alloc (.cells #[a, b, c] t)).alloc (.cells #[.string ⟨#[49]⟩, .string ⟨#[98]⟩] 9)) := (Below.refl _ _).alloc (Nat.le_refl _) _
  have hn := cl_new2 (W2.alloc (.cells #[a, b, c] t)) (.string ⟨#[49]⟩) (.string ⟨#[98]⟩) 9
  rw [World.size_alloc] at hn
  refine (texts_same [[49], [98]] _ _ lc 2 _ (by decide) (k1.later (bl_t b1 b2)) hn).mono ?_
  rintro e W3 ⟨rfl, hb⟩
  have hc : (W2.alloc (.cells #[a, b, c] t)).cell? ⟨W2.heap.size, 2, none⟩ = some c := (cell_blk (World.alloc_heap_new W2 (.cells #[a, b, c] t)) 2).1
  exact ⟨rfl, bl_t (bl_t b1 b2) hb, cell_later hc (bl_t b2 hb)⟩
theorem numbers_two (W3 : World) (lg lc : Nat) (k1 : Cl W3 (some ⟨lg, 0, none⟩) (ints [1, 2])) :
    Calls Tryd.prog 34 #[.slice (some ⟨lg, 0, none⟩) 2 lc, .slice (some ⟨W3.heap.size, 0, none⟩) 2 2] (W3.alloc (.cells #[.int .i64 1, .int .i64 2] 3)) fun e W5 => e = .returned (.bool true) ∧ Below W3.heap.size W3 W5 := by
  have b1 : Below W3.heap.size W3 (W3.alloc (.cells #[.int .i64 1, .int .i64 2] 3)) := (Below.refl _ _).alloc (Nat.le_refl _) _
  refine (numbers_same [1, 2] _ _ lc 2 _ (by decide) (k1.later b1) (cl_new2 W3 (.int .i64 1) (.int .i64 2) 3)).mono ?_
  rintro e W5 ⟨rfl, hb⟩
  exact ⟨rfl, bl_t b1 hb⟩
theorem texts_one (W3 : World) (lg lc : Nat) (k1 : Cl W3 (some ⟨lg, 0, none⟩) (strs [[]])) :
    Calls Tryd.prog 33 #[.slice (some ⟨lg, 0, none⟩) 1 lc, .slice (some ⟨W3.heap.size, 0, none⟩) 1 1] (W3.alloc (.cells #[.string ⟨#[]⟩] 9)) fun e W5 => e = .returned (.bool true) ∧ Below W3.heap.size W3 W5 := by
  have b1 : Below W3.heap.size W3 (W3.alloc (.cells #[.string ⟨#[]⟩] 9)) := (Below.refl _ _).alloc (Nat.le_refl _) _
  refine (texts_same [[]] _ _ lc 1 _ (by decide) (k1.later b1) (cl_new1 W3 (.string ⟨#[]⟩) 9)).mono ?_
  rintro e W5 ⟨rfl, hb⟩
  exact ⟨rfl, bl_t b1 hb⟩
theorem rb_new (W : World) : Rb (W.alloc (.cells #[.int .u8 65, .int .u8 58, .int .u8 32, .int .u8 49, .int .u8 10, .int .u8 32, .int .u8 98, .int .u8 10, .int .u8 10, .int .u8 67, .int .u8 58, .int .u8 10] 5 (12, 13))) (some ⟨W.heap.size, 0, none⟩) lit := fun _ =>
  ⟨W.heap.size, 0, rfl, fun i hi => by
    have hb : (W.alloc (.cells #[.int .u8 65, .int .u8 58, .int .u8 32, .int .u8 49, .int .u8 10, .int .u8 32, .int .u8 98, .int .u8 10, .int .u8 10, .int .u8 67, .int .u8 58, .int .u8 10] 5 (12, 13))).heap[W.heap.size]? = some (.cells #[.int .u8 65, .int .u8 58, .int .u8 32, .int .u8 49, .int .u8 10, .int .u8 32, .int .u8 98, .int .u8 10, .int .u8 10, .int .u8 67, .int .u8 58, .int .u8 10] 5 (12, 13)) := World.alloc_heap_new W _
    rw [Nat.zero_add]
    simp only [World.cell?, hb]
    have h12 : i < 12 := hi
    match i, h12 with
    | 0, _ => rfl
    | 1, _ => rfl
    | 2, _ => rfl
    | 3, _ => rfl
    | 4, _ => rfl
    | 5, _ => rfl
    | 6, _ => rfl
    | 7, _ => rfl
    | 8, _ => rfl
    | 9, _ => rfl
    | 10, _ => rfl
    | 11, _ => rfl
    | n + 12, h => exact absurd h (by omega)⟩

set_option maxRecDepth 100000 in
set_option maxHeartbeats 4000000 in
theorem lives_any (w : World) (hG : Glob w) :
    Calls Tryd.prog 10 #[] w fun e w' => e = .returned (.bool true) ∧ Below w.heap.size w w' := by
  have b0 : Below w.heap.size w (w.alloc (.cells #[.int .u8 65, .int .u8 58, .int .u8 32, .int .u8 49, .int .u8 10, .int .u8 32, .int .u8 98, .int .u8 10, .int .u8 10, .int .u8 67, .int .u8 58, .int .u8 10] 5 (12, 13))) := (Below.refl _ _).alloc (Nat.le_refl _) _
  have cP := hide (show Calls Tryd.prog 11 #[.slice (some ⟨w.heap.size, 0, none⟩) 12 12] (w.alloc (.cells #[.int .u8 65, .int .u8 58, .int .u8 32, .int .u8 49, .int .u8 10, .int .u8 32, .int .u8 98, .int .u8 10, .int .u8 10, .int .u8 67, .int .u8 58, .int .u8 10] 5 (12, 13))) fun e W2 => ∃ gl cl g0 c0 lg0 lc0 ag0 ac0 g1 c1 lg1 lc1, e = .returned (.tuple #[.slice (some ⟨gl, 0, none⟩) 2 cl, .int .i64 0, .int .i64 0]) ∧ Below w.heap.size w W2 ∧
      (W2.cell? ⟨gl, 0, none⟩ = some (.slice (some ⟨g0, 0, none⟩) 1 c0) ∧ W2.cell? ⟨gl, 1, none⟩ = some (.slice (some ⟨g1, 0, none⟩) 1 c1) ∧ W2.cell? ⟨g0, 0, none⟩ = some (.string ⟨#[65]⟩) ∧ W2.cell? ⟨g0, 1, none⟩ = some (.slice (some ⟨lg0, 0, none⟩) 2 lc0) ∧ W2.cell? ⟨g0, 2, none⟩ = some (.slice (some ⟨ag0, 0, none⟩) 2 ac0) ∧ W2.cell? ⟨g1, 1, none⟩ = some (.slice (some ⟨lg1, 0, none⟩) 1 lc1)) ∧
      Cl W2 (some ⟨lg0, 0, none⟩) (strs [[49], [98]]) ∧ Cl W2 (some ⟨ag0, 0, none⟩) (ints [1, 2]) ∧ Cl W2 (some ⟨lg1, 0, none⟩) (strs [[]]) by
    refine (Parse_any lit (some ⟨w.heap.size, 0, none⟩) 12 _ (by decide) (hG.later (n := w.heap.size) hG.big b0) (fun W hb => ((rb_new w).later hb).cv 12)).mono ?_
    rintro e W2 ⟨lv, rfl, hb, _, h2⟩
    rw [lit_out, lit_ps] at *
    obtain ⟨vs, hv1, hv2, hv3⟩ := h2 rfl
    have hl : vs.length = 2 := hv1
    match vs, hl with
    | [v0, v1], _ =>
      obtain ⟨g0, c0, lg0, lc0, ag0, ac0, rfl, a1, a2, a3, a4, a5⟩ := Wh_one (hv3 0 v0 [f0] rfl rfl)
      obtain ⟨g1, c1, lg1, lc1, ag1, ac1, rfl, d1, d2, d3, d4, d5⟩ := Wh_one (hv3 1 v1 [f1] rfl rfl)
      obtain ⟨gl, cl, cur, rfl, hg, _, htk, _⟩ := slice_of (n := 1) hv2
      exact ⟨gl, cl, g0, c0, lg0, lc0, ag0, ac0, g1, c1, lg1, lc1, rfl, bl_t b0 hb, ⟨(cell_blk hg 0).1.trans (take_get htk rfl), (cell_blk hg 1).1.trans (take_get htk rfl), a1, a2, a3, d2⟩, a4, a5, d4⟩)
  clear b0 hG
  have kc := fun (w : World) (C : Array Value) (n c : Nat) => Lib.run_convert_bytes_const (P := Tryd.prog) w 22 5 C n c Tryd.underlying22 Tryd.underlying5
  go_enter Tryd.func10, Tryd.ntmps10
  go_wp2_with (first | (go_at_call 11; refine (unhide cP).mono ?_; rintro e W2 ⟨gl, cl, g0, c0, lg0, lc0, ag0, ac0, g1, c1, lg1, lc1, rfl, hb, ⟨e1, e2, e3, e4, e5, e6⟩, k1, k2, k3⟩; have HB := hide hb; have HK1 := hide k1; have HK2 := hide k2; have HK3 := hide k3; have HE := hide (And.intro e2 e6); clear hb k1 k2 k3 cP) | (go_at_call 33; have _u := HB5; clear _u; refine (texts_one W5 lg1 lc1 (unhide HJ5)).mono ?_; rintro e W7 ⟨rfl, hb7⟩; have HB7 := hide (bl_t (unhide HB) (bl_t (unhide HB5) hb7)); clear hb7) | (go_at_call 33; refine (texts_two W2 _ _ _ _ lg0 lc0 (unhide HK1)).mono ?_; rintro e W3 ⟨rfl, hb3, m2⟩; have HB3 := hide hb3; have HJ3 := hide ((unhide HK2).later hb3); clear hb3) | (go_at_call 34; refine (numbers_two W3 ag0 ac0 (unhide HJ3)).mono ?_; rintro e W5 ⟨rfl, hb5⟩; have HB5 := hide (bl_t (unhide HB3) hb5); have HJ5 := hide ((unhide HK3).later (unhide HB5)); have n1 := cell_later (unhide HE).1 (unhide HB5); have n2 := cell_later (unhide HE).2 (unhide HB5); clear hb5))
  exact ⟨rfl, _, results_tmp (t := 0) (by kernel_rfl) _ _ _, rfl, unhide HB7⟩

end Go.Proofs.YtiibobjbcgbknaaDoor
