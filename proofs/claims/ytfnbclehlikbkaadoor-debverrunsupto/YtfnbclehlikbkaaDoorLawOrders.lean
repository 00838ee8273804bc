import Derived.Test.YtfnbclehlikbkaaDoorOrders
import Derived.Deep.RegionHeld3
namespace Go.Proofs.YtfnbclehlikbkaaDoor
open Go.RowKit

/-- A BOX OF PARTS. -/
def Box5 (b : Nat) (w' : World) (e u r : ByteArray) (c d : Bool) : Prop :=
  w'.cell? ⟨b, 0, none⟩ = some (.string e) ∧ w'.cell? ⟨b, 1, none⟩ = some (.string u) ∧ w'.cell? ⟨b, 2, none⟩ = some (.string r) ∧ w'.cell? ⟨b, 3, none⟩ = some (.bool c) ∧ w'.cell? ⟨b, 4, none⟩ = some (.bool d) ∧ b < w'.heap.size
theorem Box5.later {b : Nat} {w1 w2 : World} {e u r : ByteArray} {c d : Bool} (h : Box5 b w1 e u r c d) (hb : Below w1.heap.size w1 w2) : Box5 b w2 e u r c d :=
  ⟨(hb.cell (p := ⟨b, 0, none⟩) h.2.2.2.2.2).trans h.1, (hb.cell (p := ⟨b, 1, none⟩) h.2.2.2.2.2).trans h.2.1, (hb.cell (p := ⟨b, 2, none⟩) h.2.2.2.2.2).trans h.2.2.1, (hb.cell (p := ⟨b, 3, none⟩) h.2.2.2.2.2).trans h.2.2.2.1, (hb.cell (p := ⟨b, 4, none⟩) h.2.2.2.2.2).trans h.2.2.2.2.1, Nat.lt_of_lt_of_le h.2.2.2.2.2 hb.size⟩
theorem Box5.drew {b : Nat} {w1 : World} {e u r : ByteArray} {c d : Bool} (h : Box5 b w1 e u r c d) : Box5 b w1.drew e u r c d := h

theorem keepS {w W W' : World} {e u r E U R : ByteArray} {c d C D : Bool} (hb : Below W.heap.size W W')
    (h0 : W.cell? ⟨w.heap.size, 0, none⟩ = some (.string e)) (h1 : W.cell? ⟨w.heap.size, 1, none⟩ = some (.string u)) (h2 : W.cell? ⟨w.heap.size, 2, none⟩ = some (.string r)) (h3 : W.cell? ⟨w.heap.size, 3, none⟩ = some (.bool c)) (h4 : W.cell? ⟨w.heap.size, 4, none⟩ = some (.bool d))
    (m0 : W.cell? ⟨w.heap.size + 1, 0, none⟩ = some (.string E)) (m1 : W.cell? ⟨w.heap.size + 1, 1, none⟩ = some (.string U)) (m2 : W.cell? ⟨w.heap.size + 1, 2, none⟩ = some (.string R)) (m3 : W.cell? ⟨w.heap.size + 1, 3, none⟩ = some (.bool C)) (m4 : W.cell? ⟨w.heap.size + 1, 4, none⟩ = some (.bool D))
    (q0 : w.heap.size < W.heap.size) (q1 : w.heap.size + 1 < W.heap.size) (hB : Below w.heap.size w W) :
    W'.cell? ⟨w.heap.size, 0, none⟩ = some (.string e) ∧ W'.cell? ⟨w.heap.size, 1, none⟩ = some (.string u) ∧ W'.cell? ⟨w.heap.size, 2, none⟩ = some (.string r) ∧ W'.cell? ⟨w.heap.size, 3, none⟩ = some (.bool c) ∧ W'.cell? ⟨w.heap.size, 4, none⟩ = some (.bool d) ∧ W'.cell? ⟨w.heap.size + 1, 0, none⟩ = some (.string E) ∧ W'.cell? ⟨w.heap.size + 1, 1, none⟩ = some (.string U) ∧ W'.cell? ⟨w.heap.size + 1, 2, none⟩ = some (.string R) ∧ W'.cell? ⟨w.heap.size + 1, 3, none⟩ = some (.bool C) ∧ W'.cell? ⟨w.heap.size + 1, 4, none⟩ = some (.bool D) ∧ w.heap.size < W'.heap.size ∧ w.heap.size + 1 < W'.heap.size ∧ Below w.heap.size w W' :=
  ⟨(hb.cell (p := ⟨w.heap.size, 0, none⟩) q0).trans h0, (hb.cell (p := ⟨w.heap.size, 1, none⟩) q0).trans h1, (hb.cell (p := ⟨w.heap.size, 2, none⟩) q0).trans h2, (hb.cell (p := ⟨w.heap.size, 3, none⟩) q0).trans h3, (hb.cell (p := ⟨w.heap.size, 4, none⟩) q0).trans h4,
   (hb.cell (p := ⟨w.heap.size + 1, 0, none⟩) q1).trans m0, (hb.cell (p := ⟨w.heap.size + 1, 1, none⟩) q1).trans m1, (hb.cell (p := ⟨w.heap.size + 1, 2, none⟩) q1).trans m2, (hb.cell (p := ⟨w.heap.size + 1, 3, none⟩) q1).trans m3, (hb.cell (p := ⟨w.heap.size + 1, 4, none⟩) q1).trans m4,
   Nat.lt_of_lt_of_le q0 hb.size, Nat.lt_of_lt_of_le q1 hb.size, hB.trans (hb.mono (Nat.le_of_lt q0))⟩

set_option maxHeartbeats 4000000 in
/-- DebverOrders, AT ANY PARTS AND ANY TEXTS. -/
theorem debverOrders_walk (e u r : ByteArray) (c d : Bool) (E U R : ByteArray) (C D : Bool) (a b : ByteArray) (he : e.size ≤ 140737488355328) (hu : u.size ≤ maxLen) (hr : r.size ≤ maxLen) (hE : E.size ≤ 140737488355328) (hU : U.size ≤ maxLen) (hR : R.size ≤ maxLen) (ha : a.size ≤ maxLen) (hb : b.size ≤ maxLen) (w : World) :
    Calls Tryd.prog 9 #[.agg #[.string e, .string u, .string r, .bool c, .bool d], .agg #[.string E, .string U, .string R, .bool C, .bool D], .string a, .string b] w fun x w' => x = .returned (.bool true) ∧ Below w.heap.size w w' := by
  rcases hf : cmpT a b with ⟨X, n⟩
  have k1 := hide (fun w => Compare_any a b ha hb _ _ hf w)
  have k2 := hide (fun w => rCompare_any a b ha hb _ _ hf w)
  have k3 := hide (fun w => Order_any e u r c d E U R C D he hu hr hE hU hR w)
  have k4 := hide (fun w => rOrder_any e u r c d E U R C D (by omega) hu hr (by omega) hU hR w)
  generalize ordG ⟨e, u, r, c, d⟩ ⟨E, U, R, C, D⟩ = Y at *
  clear hf
  have HX := hide (show Box5 w.heap.size ((w.alloc (.cells #[.string e, .string u, .string r, .bool c, .bool d] 24)).alloc (.cells #[.string E, .string U, .string R, .bool C, .bool D] 24)) e u r c d by refine ⟨?_, ?_, ?_, ?_, ?_, ?_⟩ <;> go_simp)
  have HY := hide (show Box5 (w.heap.size + 1) ((w.alloc (.cells #[.string e, .string u, .string r, .bool c, .bool d] 24)).alloc (.cells #[.string E, .string U, .string R, .bool C, .bool D] 24)) E U R C D by refine ⟨?_, ?_, ?_, ?_, ?_, ?_⟩ <;> go_simp)
  have HB := hide (show Below w.heap.size w ((w.alloc (.cells #[.string e, .string u, .string r, .bool c, .bool d] 24)).alloc (.cells #[.string E, .string U, .string R, .bool C, .bool D] 24)) from ((Below.refl w.heap.size w).alloc (Nat.le_refl _) _).alloc (by simp) _)
  have hz0 : ((w.alloc (.cells #[.string e, .string u, .string r, .bool c, .bool d] 24)).alloc (.cells #[.string E, .string U, .string R, .bool C, .bool D] 24)).heap.size = w.heap.size + 2 := by simp
  go_enter Tryd.func9, Tryd.ntmps9
  go_wp2_with fail
  generalize (w.alloc (.cells #[.string e, .string u, .string r, .bool c, .bool d] 24)).alloc (.cells #[.string E, .string U, .string R, .bool C, .bool D] 24) = W0 at *
  refine (unhide k1 _).mono ?_
  rintro x w1 ⟨rfl, hb1⟩
  have hz1 := hb1.size
  have HX1 := hide ((unhide HX).later hb1)
  have HY1 := hide ((unhide HY).later hb1)
  have HB1 := hide ((unhide HB).trans (hb1.mono (by omega)))
  clear hb1 HX HY HB
  go_wp2_with fail
  refine (unhide k2 _).mono ?_
  rintro x w2 ⟨rfl, hb2⟩
  have hz2 := hb2.size
  have HX2 := (unhide HX1).later hb2
  have HY2 := (unhide HY1).later hb2
  have HB2 := hide ((unhide HB1).trans (hb2.mono (by omega)))
  clear hb2 HX1 HY1 HB1
  have HXX := hide HX2
  have HYY := hide HY2
  obtain ⟨x0, x1, x2, x3, x4, x5⟩ := HX2
  obtain ⟨y0, y1, y2, y3, y4, y5⟩ := HY2
  have q2 : w.heap.size ≤ w2.heap.size := by omega
  clear hz0 hz1 hz2 k1 k2
  go_wp2_with fail
  have hBB := (unhide HB2).drew
  go_region_held3 (fun w' => w'.cell? ⟨w.heap.size, 0, none⟩ = some (.string e) ∧ w'.cell? ⟨w.heap.size, 1, none⟩ = some (.string u) ∧ w'.cell? ⟨w.heap.size, 2, none⟩ = some (.string r) ∧ w'.cell? ⟨w.heap.size, 3, none⟩ = some (.bool c) ∧ w'.cell? ⟨w.heap.size, 4, none⟩ = some (.bool d) ∧ w'.cell? ⟨w.heap.size + 1, 0, none⟩ = some (.string E) ∧ w'.cell? ⟨w.heap.size + 1, 1, none⟩ = some (.string U) ∧ w'.cell? ⟨w.heap.size + 1, 2, none⟩ = some (.string R) ∧ w'.cell? ⟨w.heap.size + 1, 3, none⟩ = some (.bool C) ∧ w'.cell? ⟨w.heap.size + 1, 4, none⟩ = some (.bool D) ∧ w.heap.size < w'.heap.size ∧ w.heap.size + 1 < w'.heap.size ∧ Below w.heap.size w w') (first | go_keep | (go_split_ands; exact keepS (by assumption) (by assumption) (by assumption) (by assumption) (by assumption) (by assumption) (by assumption) (by assumption) (by assumption) (by assumption) (by assumption) (by assumption) (by assumption) (by assumption)))
    (first | (go_at_call 27; refine (num_any _ _).mono ?_; rintro x w' ⟨rfl, rfl⟩) | (go_at_call 17; refine (unhide k3 _).mono ?_; rintro x w3 ⟨rfl, hb3⟩) | (go_at_call 26; refine (unhide k4 _).mono ?_; rintro x w4 ⟨rfl, hb4⟩))
  go_split_ands
  go_wp2
  go_ret
  exact ⟨rfl, by assumption⟩

end Go.Proofs.YtfnbclehlikbkaaDoor
