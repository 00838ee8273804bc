import Derived.Test.YtdkpglmdncjnbaaGreatDoorZf06
import Derived.Lib.SlicesS
import Derived.Deep.MidRow
import Derived.Sort.BigQuietIn
namespace Go.Proofs.YtdkpglmdncjnbaaGreatDoor
section
open Go.RowKit
abbrev y7_1 : Oper := ⟨some 16, .load 46 (.tmp 3), 46, "relation.go:68", #[], none⟩
def holdsB (d op : Int) : Bool := if (op == 1) = true then decide (d < 0) else if (op == 2) = true then decide (d ≤ 0) else if (op == 3) = true then (d == 0) else if (op == 4) = true then decide (0 ≤ d) else decide (0 < d)
set_option maxHeartbeats 1000000 in
theorem holds_any (d op : Int) (w : World) :
 Calls Tryz.prog 125 #[.int .i64 d, .int .i64 op] w fun x w' => x = .returned (.bool (holdsB d op)) ∧ w' = w := by
 cases h1 : (op == 1) <;> cases h2 : (op == 2) <;> cases h3 : (op == 3) <;> cases h4 : (op == 4)
 all_goals
  go_enter Tryz.func125, Tryz.ntmps125
  go_wp2
  go_ret
  exact ⟨ret_bool (by simp only [holdsB, h1, h2, h3, h4]; rfl), rfl⟩
def fitsT (s : ByteArray) (op : Int) (b : ByteArray) : Bool × Int :=
 if 0 ≤ op ∧ op ≤ 5 then
  if (parse s).2 = 0 then
   if op = 0 then (true, 0)
   else if (parse b).2 = 0 then (holdsB (ordV (parse s).1 (parse b).1) op, 0) else (false, (parse b).2)
  else (false, (parse s).2)
 else (false, 1)
set_option maxHeartbeats 2000000 in
theorem Fits_any (a : ByteArray) (op : Int) (b : ByteArray) (ha : a.size ≤ maxLen) (hb : b.size ≤ maxLen) (x0 : Bool) (n0 : Int) (h : fitsT a op b = (x0, n0)) (w : World) :
 Calls Tryz.prog 105 #[.string a, .int .i64 op, .string b] w fun x w' => x = .returned (.tuple #[.bool x0, .int .i64 n0]) ∧ Below w.heap.size w w' := by
 rcases hp : parse a with ⟨⟨e, u, r, c, d⟩, n⟩
 rcases hq : parse b with ⟨⟨E, U, R, C, D⟩, m⟩
 have c1 := hide (fun w => Parse_any a ha e u r c d n hp w)
 have c2 := hide (fun w => Parse_any b hb E U R C D m hq w)
 have c3 := hide (fun w => order_parsed a b ha hb e u r c d n E U R C D m hp hq w)
 unfold fitsT at h
 rw [hp, hq] at h
 simp only at h
 clear hp hq ha hb
 by_cases h0 : 0 ≤ op ∧ op ≤ 5
 ·rw [if_pos h0] at h
  obtain ⟨o1, o2⟩ := h0
  by_cases e1 : n = 0
  ·subst e1
   rw [if_pos rfl] at h
   by_cases eo : op = 0
   ·subst eo
    rw [if_pos rfl] at h
    cases h
    go_enter Tryz.func105, Tryz.ntmps105
    go_wp2_with fail
    refine (unhide c1 _).mono ?_
    rintro x w1 ⟨rfl, hb1⟩
    have hz1 := hb1.size
    have hb1' := hide hb1
    clear hb1
    go_wp2_with fail
    go_ret2
    exact ⟨rfl, (unhide hb1').alloc (by omega) _⟩
   ·rw [if_neg eo] at h
    have ho : (op == 0) = false := by simpa using eo
    by_cases e2 : m = 0
    ·subst e2
     rw [if_pos rfl] at h
     cases h
     have c4 := hide (fun w => holds_any (ordV ⟨e, u, r, c, d⟩ ⟨E, U, R, C, D⟩) op w)
     generalize holdsB (ordV ⟨e, u, r, c, d⟩ ⟨E, U, R, C, D⟩) op = bb at *
     generalize ordV ⟨e, u, r, c, d⟩ ⟨E, U, R, C, D⟩ = res at *
     clear eo
     go_enter Tryz.func105, Tryz.ntmps105
     go_wp2_with fail
     refine (unhide c1 _).mono ?_
     rintro x w1 ⟨rfl, hb1⟩
     have hz1 := hb1.size
     have hb1' := hide hb1
     clear hb1
     go_wp2_with fail
     refine (unhide c2 _).mono ?_
     rintro x w2 ⟨rfl, hb2⟩
     have hz2 := hb2.size
     have hb2' := hide hb2
     obtain ⟨hc2, hf2⟩ := bcell hb2
     clear hb2
     simp at hz2
     have q1 : w1.heap.size < w2.heap.size := by omega
     go_wp2_with fail
     refine (unhide c3 _).mono ?_
     rintro x w3 ⟨rfl, hb3⟩
     have hb3' := hide hb3
     clear hb3
     go_wp2_with fail
     refine (unhide c4 _).mono ?_
     rintro x w' ⟨rfl, rfl⟩
     go_wp2_with fail
     go_ret2
     exact ⟨rfl, (((((unhide hb1').alloc (by omega) _).trans ((unhide hb2').mono (by simp; omega))).alloc (by omega) _).trans ((unhide hb3').mono (by simp; omega)))⟩
    ·rw [if_neg e2] at h
     cases h
     have n2 : (n0 != 0) = true := by simpa using e2
     clear e2 eo
     go_enter Tryz.func105, Tryz.ntmps105
     go_wp2_with fail
     refine (unhide c1 _).mono ?_
     rintro x w1 ⟨rfl, hb1⟩
     have hz1 := hb1.size
     have hb1' := hide hb1
     clear hb1
     go_wp2_with fail
     refine (unhide c2 _).mono ?_
     rintro x w2 ⟨rfl, hb2⟩
     have hz2 := hb2.size
     have hb2' := hide hb2
     clear hb2
     simp at hz2
     go_wp2_with fail
     go_ret2
     exact ⟨rfl, (((unhide hb1').alloc (by omega) _).trans ((unhide hb2').mono (by simp; omega))).alloc (by omega) _⟩
  ·rw [if_neg e1] at h
   cases h
   have n1 : (n0 != 0) = true := by simpa using e1
   clear e1
   go_enter Tryz.func105, Tryz.ntmps105
   go_wp2_with fail
   refine (unhide c1 _).mono ?_
   rintro x w1 ⟨rfl, hb1⟩
   have hz1 := hb1.size
   have hb1' := hide hb1
   clear hb1
   go_wp2_with fail
   go_ret2
   exact ⟨rfl, (unhide hb1').alloc (by omega) _⟩
 ·rw [if_neg h0] at h
  cases h
  clear c1 c2 c3
  by_cases o1 : op < 0
  ·go_enter Tryz.func105, Tryz.ntmps105
   go_wp2
   all_goals go_ret2
   all_goals exact ⟨rfl, Below.refl _ _⟩
  ·have o2 : 5 < op := by omega
   have o3 : 0 ≤ op := by omega
   clear h0 o1
   go_enter Tryz.func105, Tryz.ntmps105
   go_wp2
   all_goals go_ret2
   all_goals exact ⟨rfl, Below.refl _ _⟩
end
section
open Go.RowKit
theorem parse_small (s : ByteArray) : (parse s).1.e.size ≤ 256 := by
 unfold parse
 split
 ·exact Nat.zero_le _
 ·split
  ·exact Nat.le_trans (cut_size s).1 (by omega)
  ·exact Nat.zero_le _
theorem rorder_parsed (a b : ByteArray) (ha : a.size ≤ maxLen) (hb : b.size ≤ maxLen) (e u r : ByteArray) (c d : Bool) (n : Int) (E U R : ByteArray) (C D : Bool) (m : Int)
 (h1 : parse a = (⟨e, u, r, c, d⟩, n)) (h2 : parse b = (⟨E, U, R, C, D⟩, m)) (w : World) :
 Calls Tryz.prog 123 #[.agg #[.string e, .string u, .string r, .bool c, .bool d], .agg #[.string E, .string U, .string R, .bool C, .bool D]] w fun x w' =>
  x = .returned (.int .i64 (ordV ⟨e, u, r, c, d⟩ ⟨E, U, R, C, D⟩)) ∧ Below w.heap.size w w' := by
 have z1 := parse_size a ha
 have z2 := parse_size b hb
 have d1 := parse_dig a
 have d2 := parse_dig b
 rw [h1] at z1 d1
 rw [h2] at z2 d2
 have g1 := parse_small a
 have g2 := parse_small b
 rw [h1] at g1
 rw [h2] at g2
 have := rOrder_any e u r c d E U R C D (by have : e.size ≤ 256 := g1
                                            omega) z1.2.1 z1.2.2 (by have : E.size ≤ 256 := g2
                                                                     omega) z2.2.1 z2.2.2 w
 rw [ordG_dig _ _ d1 d2] at this
 exact this
set_option maxHeartbeats 2000000 in
theorem rCompare_any (a b : ByteArray) (ha : a.size ≤ maxLen) (hb : b.size ≤ maxLen) (x0 n0 : Int) (h : cmpT a b = (x0, n0)) (w : World) :
 Calls Tryz.prog 103 #[.string a, .string b] w fun x w' => x = .returned (.tuple #[.int .i64 x0, .int .i64 n0]) ∧ Below w.heap.size w w' := by
 rcases hp : parse a with ⟨⟨e, u, r, c, d⟩, n⟩
 rcases hq : parse b with ⟨⟨E, U, R, C, D⟩, m⟩
 have c1 := hide (fun w => rParse_any a ha e u r c d n hp w)
 have c2 := hide (fun w => rParse_any b hb E U R C D m hq w)
 have c3 := hide (fun w => rorder_parsed a b ha hb e u r c d n E U R C D m hp hq w)
 unfold cmpT at h
 rw [hp, hq] at h
 simp only at h
 clear hp hq ha hb
 by_cases e1 : n = 0
 ·subst e1
  rw [if_pos rfl] at h
  by_cases e2 : m = 0
  ·subst e2
   rw [if_pos rfl] at h
   cases h
   generalize ordV ⟨e, u, r, c, d⟩ ⟨E, U, R, C, D⟩ = res at *
   go_enter Tryz.func103, Tryz.ntmps103
   go_wp2_with fail
   refine (unhide c1 _).mono ?_
   rintro x w1 ⟨rfl, hb1⟩
   have hz1 := hb1.size
   have hb1' := hide hb1
   clear hb1
   go_wp2_with fail
   refine (unhide c2 _).mono ?_
   rintro x w2 ⟨rfl, hb2⟩
   have hz2 := hb2.size
   have hb2' := hide hb2
   obtain ⟨hc2, hf2⟩ := bcell hb2
   clear hb2
   simp at hz2
   have q1 : w1.heap.size < w2.heap.size := by omega
   go_wp2_with fail
   refine (unhide c3 _).mono ?_
   rintro x w3 ⟨rfl, hb3⟩
   have hb3' := hide hb3
   clear hb3
   go_wp2_with fail
   go_ret2
   exact ⟨rfl, (((((unhide hb1').alloc (by omega) _).trans ((unhide hb2').mono (by simp; omega))).alloc (by omega) _).trans ((unhide hb3').mono (by simp; omega)))⟩
  ·rw [if_neg e2] at h
   cases h
   have n2 : (n0 != 0) = true := by simpa using e2
   clear e2
   go_enter Tryz.func103, Tryz.ntmps103
   go_wp2_with fail
   refine (unhide c1 _).mono ?_
   rintro x w1 ⟨rfl, hb1⟩
   have hz1 := hb1.size
   have hb1' := hide hb1
   clear hb1
   go_wp2_with fail
   refine (unhide c2 _).mono ?_
   rintro x w2 ⟨rfl, hb2⟩
   have hz2 := hb2.size
   have hb2' := hide hb2
   clear hb2
   simp at hz2
   go_wp2_with fail
   go_ret2
   exact ⟨rfl, (((unhide hb1').alloc (by omega) _).trans ((unhide hb2').mono (by simp; omega))).alloc (by omega) _⟩
 ·rw [if_neg e1] at h
  cases h
  have n1 : (n0 != 0) = true := by simpa using e1
  clear e1
  go_enter Tryz.func103, Tryz.ntmps103
  go_wp2_with fail
  refine (unhide c1 _).mono ?_
  rintro x w1 ⟨rfl, hb1⟩
  have hz1 := hb1.size
  have hb1' := hide hb1
  clear hb1
  go_wp2_with fail
  go_ret2
  exact ⟨rfl, (unhide hb1').alloc (by omega) _⟩
end
section
open Go.RowKit
def fitsA (op : Int) (bd v : ByteArray) : Bool := if op = 0 then true else ((fitsT v op bd).2 == 0) && (fitsT v op bd).1
theorem fitsT_cmp (a b : ByteArray) (op : Int) (h1 : 1 ≤ op) (h2 : op ≤ 5) (X n : Int) (h : cmpT a b = (X, n)) : fitsT a op b = if n = 0 then (holdsB X op, 0) else (false, n) := by
 unfold cmpT at h
 unfold fitsT
 rw [if_pos ⟨by omega, h2⟩]
 by_cases e1 : (parse a).2 = 0
 ·rw [if_pos e1] at h ⊢
  rw [if_neg (by omega)]
  by_cases e2 : (parse b).2 = 0
  ·rw [if_pos e2] at h ⊢
   cases h
   rfl
  ·rw [if_neg e2] at h ⊢
   cases h
   rw [if_neg e2]
 ·rw [if_neg e1] at h ⊢
  cases h
  rw [if_neg e1]
theorem cmpT_rg (a b : ByteArray) (X n : Int) (h : cmpT a b = (X, n)) : (n ≠ 0 ∧ X = 0) ∨ (n = 0 ∧ (X = -1 ∨ X = 0 ∨ X = 1)) := by
 unfold cmpT at h
 by_cases e1 : (parse a).2 = 0
 ·rw [if_pos e1] at h
  by_cases e2 : (parse b).2 = 0
  ·rw [if_pos e2] at h
   cases h
   exact .inr ⟨rfl, pre_ordV.rng _ _⟩
  ·rw [if_neg e2] at h
   cases h
   exact .inl ⟨e2, rfl⟩
 ·rw [if_neg e1] at h
  cases h
  exact .inl ⟨e1, rfl⟩
theorem fitsA_out (op : Int) (bd v : ByteArray) (h : op < 0 ∨ 5 < op) : fitsA op bd v = false := by
 unfold fitsA fitsT
 rw [if_neg (by omega), if_neg (by omega)]
 rfl
theorem fitsA_bad (op : Int) (bd v : ByteArray) (h1 : 1 ≤ op) (h2 : op ≤ 5) (X n : Int) (h : cmpT v bd = (X, n)) (hn : n ≠ 0) : fitsA op bd v = false := by
 unfold fitsA
 rw [if_neg (by omega), fitsT_cmp v bd op h1 h2 X n h, if_neg hn]
 simp
theorem fitsA_ok (op : Int) (bd v : ByteArray) (h1 : 1 ≤ op) (h2 : op ≤ 5) (X : Int) (h : cmpT v bd = (X, 0)) : fitsA op bd v = holdsB X op := by
 unfold fitsA
 rw [if_neg (by omega), fitsT_cmp v bd op h1 h2 X 0 h, if_pos rfl]
 rfl
set_option maxHeartbeats 2000000 in
theorem FitsA_any (n : ByteArray) (op : Int) (bd v : ByteArray) (hb : bd.size ≤ maxLen) (hv : v.size ≤ maxLen) (w : World) :
 Calls Tryz.prog 85 #[.agg #[.string n, .int .i64 op, .string bd], .string v] w fun e w' => e = .returned (.bool (fitsA op bd v)) ∧ Below w.heap.size w w' := by
 have hB := hide ((Below.refl w.heap.size w).alloc (Nat.le_refl _) (.cells #[.string n, .int .i64 op, .string bd] 48))
 by_cases o : op = 0
 ·subst o
  go_enter Tryz.func85, Tryz.ntmps85
  go_wp2
  go_ret
  exact ⟨rfl, unhide hB⟩
 ·rcases hf : fitsT v op bd with ⟨x0, n0⟩
  have HF := hide (show fitsA op bd v = (n0 == 0 && x0) by unfold fitsA; rw [if_neg o, hf])
  have c1 := hide (fun w => Fits_any v op bd hv hb x0 n0 hf w)
  have o' : (op == 0) = false := by simpa using o
  clear hf hb hv o
  cases hn : (n0 == 0)
  all_goals
   rw [hn] at HF
   go_enter Tryz.func85, Tryz.ntmps85
   go_wp2_with (go_at_call 105; refine (unhide c1 _).mono ?_; rintro e w' ⟨rfl, hb⟩; have hb' := hide hb; clear hb)
   go_ret
   exact ⟨ret_bool (unhide HF).symm, (unhide hB).trans ((unhide hb').mono (by simp))⟩
set_option maxHeartbeats 4000000 in
theorem rFitsA_any (n : ByteArray) (op : Int) (bd v : ByteArray) (hb : bd.size ≤ maxLen) (hv : v.size ≤ maxLen) (w : World) :
 Calls Tryz.prog 82 #[.agg #[.string n, .int .i64 op, .string bd], .string v] w fun e w' => e = .returned (.bool (fitsA op bd v)) ∧ Below w.heap.size w w' := by
 have hB := hide ((Below.refl w.heap.size w).alloc (Nat.le_refl _) (.cells #[.string n, .int .i64 op, .string bd] 48))
 by_cases o : op = 0
 ·subst o
  go_enter Tryz.func82, Tryz.ntmps82
  go_wp2
  go_ret
  exact ⟨rfl, unhide hB⟩
 ·rcases hf : cmpT v bd with ⟨X, m⟩
  have c1 := hide (fun w => rCompare_any v bd hv hb X m hf w)
  have o' : (op == 0) = false := by simpa using o
  have hr := cmpT_rg v bd X m hf
  clear hb hv
  by_cases o1 : op < 0 ∨ 5 < op
  ·have HF := hide (fitsA_out op bd v o1)
   clear hf o hr
   cases hm : (m != 0)
   all_goals
    rcases o1 with o1 | o1
    all_goals
     go_enter Tryz.func82, Tryz.ntmps82
     go_wp2_with (go_at_call 103; refine (unhide c1 _).mono ?_; rintro e w1 ⟨rfl, hb⟩; have hz1 := hb.size; have hb' := hide hb; obtain ⟨hc1, hf1⟩ := bcell hb; clear hb; simp at hz1; have q1 : w.heap.size < w.heap.size + 1 := Nat.lt_succ_self _)
     go_ret
     exact ⟨ret_bool (unhide HF).symm, (unhide hB).trans ((unhide hb').mono (by simp))⟩
  ·rcases hr with ⟨hm, rfl⟩ | ⟨rfl, hx⟩
   ·have HF := hide (fitsA_bad op bd v (by omega) (by omega) _ _ hf hm)
    have hm' : (m != 0) = true := by simpa using hm
    clear hf o hm
    go_enter Tryz.func82, Tryz.ntmps82
    go_wp2_with (go_at_call 103; refine (unhide c1 _).mono ?_; rintro e w1 ⟨rfl, hb⟩; have hb' := hide hb; clear hb)
    go_ret
    exact ⟨ret_bool (unhide HF).symm, (unhide hB).trans ((unhide hb').mono (by simp))⟩
   ·have HF := hide (fitsA_ok op bd v (by omega) (by omega) X hf)
    have ho : op = 1 ∨ op = 2 ∨ op = 3 ∨ op = 4 ∨ op = 5 := by omega
    clear hf o o' o1
    rcases ho with rfl | rfl | rfl | rfl | rfl <;> rcases hx with rfl | rfl | rfl
    all_goals
     go_enter Tryz.func82, Tryz.ntmps82
     go_wp2_with (go_at_call 103; refine (unhide c1 _).mono ?_; rintro e w1 ⟨rfl, hb⟩; have hz1 := hb.size; have hb' := hide hb; obtain ⟨hc1, hf1⟩ := bcell hb; clear hb; simp at hz1; have q1 : w.heap.size < w.heap.size + 1 := Nat.lt_succ_self _)
     go_ret
     exact ⟨ret_bool (unhide HF).symm, (unhide hB).trans ((unhide hb').mono (by simp))⟩
end
section
open Go.RowKit
def Strs (w : World) (v : Value) (pl : List ByteArray) : Prop :=
 ∃ a c, v = .slice a pl.length c ∧ pl.length ≤ 9223372036854775807 ∧ ∀ i (h : i < pl.length), ∃ b o, a = some ⟨b, o, none⟩ ∧ b < w.heap.size ∧ w.cell? ⟨b, o + i, none⟩ = some (.string pl[i])
theorem Strs.later {w w' : World} {v : Value} {pl : List ByteArray} (h : Strs w v pl) (hb : Below w.heap.size w w') : Strs w' v pl := by
 obtain ⟨a, c, h1, h2, h3⟩ := h
 refine ⟨a, c, h1, h2, fun i hi => ?_⟩
 obtain ⟨b, o, e1, e2, e3⟩ := h3 i hi
 exact ⟨b, o, e1, Nat.lt_of_lt_of_le e2 hb.size, (hb.cell (p := ⟨b, o + i, none⟩) e2).trans e3⟩
theorem containsS_hit (pl : List ByteArray) (x : ByteArray) (k : Nat) (h : k < pl.length) (hx : pl[k] = x) : Lib.containsS pl x = true :=
 (Lib.containsS_iff pl x).2 (hx ▸ List.getElem_mem h)
theorem containsS_miss (pl : List ByteArray) (x : ByteArray) (h : ∀ j (hj : j < pl.length), pl[j] ≠ x) : Lib.containsS pl x = false := by
 cases e : Lib.containsS pl x with
 | false => rfl
 | true =>
   obtain ⟨j, hj, ej⟩ := List.getElem_of_mem ((Lib.containsS_iff pl x).1 e)
   exact absurd ej (h j hj)
theorem ba_beq {a b : ByteArray} : (a.toList == b.toList) = true ↔ a = b := by
 constructor
 ·intro h
  have h1 := eq_of_beq h
  rw [Lib.toList_data, Lib.toList_data] at h1
  apply ByteArray.ext
  apply Array.ext'
  exact h1
 ·rintro rfl
  simp
set_option maxHeartbeats 1000000 in
theorem Index_any (v : Value) (pl : List ByteArray) (x : ByteArray) (w : World) (h : Strs w v pl) :
 Calls Tryz.prog 120 #[v, .string x] w fun e w' => (∃ n : Int, e = .returned (.int .i64 n) ∧ decide (0 ≤ n) = Lib.containsS pl x) ∧ w' = w := by
 obtain ⟨a, c, rfl, hbig, hcell⟩ := h
 have HC : Hid (∀ i (h : i < pl.length), ∃ b o, a = some ⟨b, o, none⟩ ∧ b < w.heap.size ∧ w.cell? ⟨b, o + i, none⟩ = some (.string pl[i])) := hcell
 clear hcell
 go_enter Tryz.func120, Tryz.ntmps120
 go_wp2
 go_loop [5, 8] (fun _ i => ∃ k : Nat, k ≤ pl.length ∧ i = .int .i64 k ∧ ∀ j (hj : j < pl.length), j < k → pl[j] ≠ x) (fun _ i => pl.length - (intOf i).toNat)
 case atStart => exact ⟨0, Nat.zero_le _, rfl, fun j hj h => absurd h (Nat.not_lt_zero _)⟩
 case round =>
  obtain ⟨k, hk, rfl, hall⟩ := hrel
  have HA : Hid (∀ j (hj : j < pl.length), j < k → pl[j] ≠ x) := hall
  clear hall
  by_cases hlt : k < pl.length
  ·obtain ⟨b, o, rfl, hbw, hcb⟩ := HC.out k hlt
   have HE : Hid ((x.toList == pl[k].toList) = true ↔ x = pl[k]) := ba_beq
   generalize hq : pl[k] = q at *
   have HQ : Hid (pl[k] = q) := hq
   clear hq
   cases hc : (x.toList == q.toList)
   ·have HN : Hid (q ≠ x) := fun e => by have := HE.out.2 e.symm; rw [hc] at this; cases this
    go_wp2
    go_round
    case rel =>
     refine ⟨k + 1, by omega, by go_num, fun j hj h => ?_⟩
     by_cases e : j = k
     ·subst e; rw [HQ.out]; exact HN.out
     ·exact HA.out j hj (by omega)
    case measure => simp [intOf]; omega
   ·have HY : Hid (q = x) := (HE.out.1 hc).symm
    go_wp2
    go_ret
    exact ⟨⟨k, rfl, by rw [containsS_hit pl x k hlt (HQ.out.trans HY.out)]; simp⟩, rfl⟩
  ·go_wp2
   go_ret
   exact ⟨⟨-1, rfl, by rw [containsS_miss pl x fun j hj => HA.out j hj (by omega)]; rfl⟩, rfl⟩
theorem Contains_any (v : Value) (pl : List ByteArray) (x : ByteArray) (w : World) (h : Strs w v pl) :
 Calls Tryz.prog 99 #[v, .string x] w fun e w' => e = .returned (.bool (Lib.containsS pl x)) ∧ w' = w := by
 have c1 : Hid (∀ (w' : World), w' = w → Calls Tryz.prog 120 #[v, .string x] w' fun e w2 => (∃ n : Int, e = .returned (.int .i64 n) ∧ decide (0 ≤ n) = Lib.containsS pl x) ∧ w2 = w') := fun w' e => e ▸ Index_any v pl x w h
 clear h
 go_enter Tryz.func99, Tryz.ntmps99
 go_wp2_with (go_at_call 120; refine (c1.out _ rfl).mono ?_; rintro e w' ⟨⟨n, rfl, hn⟩, rfl⟩; have HN : Hid (decide (0 ≤ n) = Lib.containsS pl x) := hn; clear hn)
 go_ret
 exact ⟨by first | (rw [← HN.out]; rfl) | (congr 2; rw [← HN.out]; rfl), rfl⟩
end
section
open Go.RowKit
structure Pkg (cs : List Value) (nm vr : ByteArray) (pv : Value) : Prop where
 len : cs.length = 43
 n : cs[0]? = some (.string nm)
 v : cs[1]? = some (.string vr)
 p : cs[6]? = some pv
theorem pkgNew (w : World) (cs : List Value) (t : TypeId) : ∃ W, w.alloc (.cells cs.toArray t) = W ∧ (∀ i v, cs[i]? = some v → W.cell? ⟨w.heap.size, i, none⟩ = some v) ∧ w.heap.size < W.heap.size ∧ Below w.heap.size w W := by
 refine ⟨_, rfl, fun i v h => ?_, by simp, (Below.refl w.heap.size w).alloc (Nat.le_refl _) _⟩
 rw [World.cell?_alloc_new]
 simpa using h
set_option maxHeartbeats 1000000 in
theorem rProvides_any (cs : List Value) (nm vr : ByteArray) (pv : Value) (pl : List ByteArray) (x : ByteArray) (w : World) (hp : Pkg cs nm vr pv) (h : Strs w pv pl) :
 Calls Tryz.prog 100 #[.agg cs.toArray, .string x] w fun e w' => e = .returned (.bool (Lib.containsS pl x)) ∧ Below w.heap.size w w' := by
 obtain ⟨W, hW, hcells, hq, hB⟩ := pkgNew w cs 46
 have k6 := hcells 6 pv hp.p
 obtain ⟨a, c, rfl, hbig, hcell⟩ := h.later hB
 have HC : Hid (∀ i (h : i < pl.length), ∃ b o, a = some ⟨b, o, none⟩ ∧ b < W.heap.size ∧ W.cell? ⟨b, o + i, none⟩ = some (.string pl[i])) := hcell
 have HB : Hid (Below w.heap.size w W) := hB
 clear hcell hcells hp hB h
 go_enter Tryz.func100, Tryz.ntmps100
 go_wp2
 try rw [hW]
 clear hW
 go_loop [5] (fun i => ∃ k : Nat, k ≤ pl.length ∧ i = .int .i64 k ∧ ∀ j (hj : j < pl.length), j < k → pl[j] ≠ x) (fun i => pl.length - (intOf i).toNat)
 case atStart => exact ⟨0, Nat.zero_le _, rfl, fun j hj h => absurd h (Nat.not_lt_zero _)⟩
 case round =>
  obtain ⟨k, hk, rfl, hall⟩ := hrel
  have HA : Hid (∀ j (hj : j < pl.length), j < k → pl[j] ≠ x) := hall
  clear hall
  by_cases hlt : k < pl.length
  ·obtain ⟨b, o, rfl, hbw, hcb⟩ := HC.out k hlt
   have HE : Hid ((pl[k].toList == x.toList) = true ↔ pl[k] = x) := ba_beq
   generalize hq : pl[k] = q at *
   have HQ : Hid (pl[k] = q) := hq
   clear hq
   cases hc : (q.toList == x.toList)
   ·have HN : Hid (q ≠ x) := fun e => by have := HE.out.2 e; rw [hc] at this; cases this
    go_wp2
    go_round
    case rel =>
     refine ⟨k + 1, by omega, by go_num, fun j hj h => ?_⟩
     by_cases e : j = k
     ·subst e; rw [HQ.out]; exact HN.out
     ·exact HA.out j hj (by omega)
    case measure => simp [intOf]; omega
   ·have HY : Hid (q = x) := HE.out.1 hc
    go_wp2
    go_ret
    exact ⟨by rw [containsS_hit pl x k hlt (HQ.out.trans HY.out)]; rfl, HB.out⟩
  ·go_wp2
   go_ret
   exact ⟨by rw [containsS_miss pl x fun j hj => HA.out j hj (by omega)]; rfl, HB.out⟩
end
section
open Go.RowKit
structure At where
 n : ByteArray
 op : Int
 v : ByteArray
theorem atomNew (w : World) (v0 v1 v2 : Value) (t : TypeId) : ∃ W, w.alloc (.cells #[v0, v1, v2] t) = W ∧ W.cell? ⟨w.heap.size, 0, none⟩ = some v0 ∧ W.cell? ⟨w.heap.size, 1, none⟩ = some v1 ∧ W.cell? ⟨w.heap.size, 2, none⟩ = some v2 ∧ w.heap.size < W.heap.size ∧ Below w.heap.size w W := by
 refine ⟨_, rfl, ?_, ?_, ?_, by simp, (Below.refl w.heap.size w).alloc (Nat.le_refl _) _⟩
 all_goals go_simp
structure Boxes (W : World) (b c : Nat) (n : ByteArray) (op : Int) (bd nm vr : ByteArray) (pv : Value) : Prop where
 a0 : W.cell? ⟨b, 0, none⟩ = some (.string n)
 a1 : W.cell? ⟨b, 1, none⟩ = some (.int .i64 op)
 a2 : W.cell? ⟨b, 2, none⟩ = some (.string bd)
 p0 : W.cell? ⟨c, 0, none⟩ = some (.string nm)
 p1 : W.cell? ⟨c, 1, none⟩ = some (.string vr)
 p6 : W.cell? ⟨c, 6, none⟩ = some pv
 bl : b < W.heap.size
 cl : c < W.heap.size
theorem Boxes.later {W W' : World} {b c : Nat} {n : ByteArray} {op : Int} {bd nm vr : ByteArray} {pv : Value} (h : Boxes W b c n op bd nm vr pv) (hb : Below W.heap.size W W') : Boxes W' b c n op bd nm vr pv :=
 ⟨(hb.cell (p := ⟨b, 0, none⟩) h.bl).trans h.a0, (hb.cell (p := ⟨b, 1, none⟩) h.bl).trans h.a1, (hb.cell (p := ⟨b, 2, none⟩) h.bl).trans h.a2, (hb.cell (p := ⟨c, 0, none⟩) h.cl).trans h.p0, (hb.cell (p := ⟨c, 1, none⟩) h.cl).trans h.p1, (hb.cell (p := ⟨c, 6, none⟩) h.cl).trans h.p6, Nat.lt_of_lt_of_le h.bl hb.size, Nat.lt_of_lt_of_le h.cl hb.size⟩
theorem boxes_new (w : World) (n : ByteArray) (op : Int) (bd nm vr : ByteArray) (pv : Value) (cs : List Value) (hp : Pkg cs nm vr pv) :
 ∃ W, (w.alloc (.cells #[.string n, .int .i64 op, .string bd] 48)).alloc (.cells cs.toArray 46) = W ∧ Boxes W w.heap.size (w.heap.size + 1) n op bd nm vr pv ∧ (∀ i v, cs[i]? = some v → W.cell? ⟨w.heap.size + 1, i, none⟩ = some v) ∧ Below w.heap.size w W := by
 obtain ⟨W1, h1, k0, k1, k2, q1, B1⟩ := atomNew w (.string n) (.int .i64 op) (.string bd) 48
 have hs : W1.heap.size = w.heap.size + 1 := by rw [← h1]; simp
 obtain ⟨W2, h2, kc, q2, B2⟩ := pkgNew W1 cs 46
 rw [hs] at kc q2
 refine ⟨W2, by rw [h1, h2], ⟨(B2.cell (p := ⟨w.heap.size, 0, none⟩) q1).trans k0, (B2.cell (p := ⟨w.heap.size, 1, none⟩) q1).trans k1, (B2.cell (p := ⟨w.heap.size, 2, none⟩) q1).trans k2, kc 0 _ hp.n, kc 1 _ hp.v, kc 6 _ hp.p, by omega, q2⟩, kc, B1.trans (B2.mono (by omega))⟩
end
section
open Go.RowKit
def meetsA (n : ByteArray) (op : Int) (bd nm vr : ByteArray) (pl : List ByteArray) : Bool :=
 (nm.toList == n.toList && fitsA op bd vr) || (op == 0 && Lib.containsS pl n)
theorem containsB_any (v : Value) (pl : List ByteArray) (x : ByteArray) (w : World) (h : Strs w v pl) :
 Calls Tryz.prog 99 #[v, .string x] w fun e w' => e = .returned (.bool (Lib.containsS pl x)) ∧ Below w.heap.size w w' :=
 (Contains_any v pl x w h).mono fun _ _ ⟨h1, h2⟩ => ⟨h1, h2 ▸ Below.refl _ _⟩
set_option maxRecDepth 20000 in
set_option maxHeartbeats 8000000 in
theorem Meets_any (n : ByteArray) (op : Int) (bd nm vr : ByteArray) (pv : Value) (pl : List ByteArray) (cs : List Value) (hbd : bd.size ≤ maxLen) (hvr : vr.size ≤ maxLen) (w : World) (hp : Pkg cs nm vr pv) (h : Strs w pv pl) :
 Calls Tryz.prog 76 #[.agg #[.string n, .int .i64 op, .string bd], .agg cs.toArray] w fun e w' => e = .returned (.bool (meetsA n op bd nm vr pl)) ∧ Below w.heap.size w w' := by
 obtain ⟨W, hW, hbx, hcells, hB⟩ := boxes_new w n op bd nm vr pv cs hp
 have c1 := hide (fun w => FitsA_any n op bd vr hbd hvr w)
 have HS := hide (fun (w' : World) (hb : Below w.heap.size w w') => containsB_any pv pl n w' (h.later hb))
 have HB := hide hB
 have HX := hide hbx
 obtain ⟨a0, a1, a2, p0, p1, p6, bl, cl⟩ := hbx
 clear hp h hbd hvr hB hcells
 cases hE : (nm.toList == n.toList) <;> cases hF : fitsA op bd vr <;> cases hO : (op == 0) <;> cases hC : Lib.containsS pl n
 all_goals
  rw [hF] at c1
  simp only [hC] at HS
  have HM := hide (show meetsA n op bd nm vr pl = _ by simp only [meetsA, hE, hF, hO, hC]; rfl)
  clear hF hC
  go_enter Tryz.func76, Tryz.ntmps76
  go_wp2_with (first
   | (go_at_call 85; refine (unhide c1 _).mono ?_; rintro e w1 ⟨rfl, hb1⟩; have HB1 := hide ((unhide HB).trans (hb1.mono (unhide HB).size)); obtain ⟨a0', a1', a2', p0', p1', p6', bl', cl'⟩ := (unhide HX).later hb1; have HR1 := hide hb1; clear hb1)
   | (go_at_call 99; refine (unhide HS _ (by first | exact unhide HB1 | exact unhide HB)).mono ?_; rintro e w2 ⟨rfl, hb2⟩; have HB2 := hide hb2; clear hb2))
  go_ret
  exact ⟨ret_bool (unhide HM).symm, by first | exact (unhide HB1).trans ((unhide HB2).mono (unhide HB1).size) | exact (unhide HB).trans ((unhide HB2).mono (unhide HB).size) | exact unhide HB1 | exact unhide HB⟩
end
section
open Go.RowKit
theorem bl_drewN (w : World) (n : Nat) : Below w.heap.size w (w.drewN n) := (Below.refl _ w).trans ⟨rfl, rfl, rfl, Nat.le_refl _, fun _ _ => rfl⟩
def Ats (w : World) (v : Value) (al : List At) : Prop :=
 ∃ a c, v = .slice a al.length c ∧ al.length ≤ 3074457345618258602 ∧ ∀ i (h : i < al.length), ∃ b o, a = some ⟨b, o, none⟩ ∧ b < w.heap.size ∧ w.cell? ⟨b, o + i * 3, none⟩ = some (.string al[i].n) ∧ w.cell? ⟨b, o + i * 3 + 1, none⟩ = some (.int .i64 al[i].op) ∧ w.cell? ⟨b, o + i * 3 + 2, none⟩ = some (.string al[i].v)
theorem Ats.later {w w' : World} {v : Value} {al : List At} (h : Ats w v al) (hb : Below w.heap.size w w') : Ats w' v al := by
 obtain ⟨a, c, h1, h2, h3⟩ := h
 refine ⟨a, c, h1, h2, fun i hi => ?_⟩
 obtain ⟨b, o, e1, e2, e3, e4, e5⟩ := h3 i hi
 exact ⟨b, o, e1, Nat.lt_of_lt_of_le e2 hb.size, (hb.cell (p := ⟨b, _, none⟩) e2).trans e3, (hb.cell (p := ⟨b, _, none⟩) e2).trans e4, (hb.cell (p := ⟨b, _, none⟩) e2).trans e5⟩
end
section
open Go.RowKit
def firstA (al : List At) (nm vr : ByteArray) (pl : List ByteArray) : Int × Bool :=
 match al.findIdx? (fun a => meetsA a.n a.op a.v nm vr pl) with
 | some i => ((i : Int), true)
 | none => (0, false)
theorem firstA_hit (al : List At) (nm vr : ByteArray) (pl : List ByteArray) (k : Nat) (h : k < al.length) (hk : meetsA al[k].n al[k].op al[k].v nm vr pl = true) (hb : ∀ j (hj : j < al.length), j < k → meetsA al[j].n al[j].op al[j].v nm vr pl = false) : firstA al nm vr pl = ((k : Int), true) := by
 unfold firstA
 have : al.findIdx? (fun a => meetsA a.n a.op a.v nm vr pl) = some k := by
  rw [List.findIdx?_eq_some_iff_getElem]
  exact ⟨h, hk, fun j hj => by rw [hb j (by omega) hj]; simp⟩
 rw [this]
theorem firstA_miss (al : List At) (nm vr : ByteArray) (pl : List ByteArray) (hb : ∀ j (hj : j < al.length), meetsA al[j].n al[j].op al[j].v nm vr pl = false) : firstA al nm vr pl = (0, false) := by
 unfold firstA
 have : al.findIdx? (fun a => meetsA a.n a.op a.v nm vr pl) = none := by
  rw [List.findIdx?_eq_none_iff]
  intro a ha
  obtain ⟨j, hj, rfl⟩ := List.getElem_of_mem ha
  exact hb j hj
 rw [this]
theorem wpList_load_p {P : Program} {ops : Array Oper} {rest : List Oper} {op : Oper} {a : Act} {w : World} {Q : Exit → Act → World → Prop} (hgd : op.guard = none) (ty : TypeId) (x : Operand) (ho : op.op = .load ty x)
 (b o : Nat) (hx : a.eval x = .pointer (some ⟨b, o, none⟩)) (cs : List Value) (d : TypeDesc) (hc : w.rangeAt b o cs)
 (hu : P.underlying ty = some d) (hd : d.isRow = true) (hi : (P.info? ty).map (·.size) = some cs.length)
 (h : wpList P ops Q rest (a.put op.dst (.agg cs.toArray)) w) : wpList P ops Q (op :: rest) a w :=
 wpList_load_mid hgd ty x ho b o hx cs d hc hu hd hi h
theorem range_of1 {W : World} {c : Nat} {cs : List Value} (h : ∀ i v, cs[i]? = some v → W.cell? ⟨c, i, none⟩ = some v) : W.rangeAt c 0 cs := fun j v hj => by rw [Nat.zero_add]; exact h j v hj
theorem range_later1 {W W' : World} {c : Nat} {cs : List Value} (h : W.rangeAt c 0 cs) (hc : c < W.heap.size) (hb : Below W.heap.size W W') : W'.rangeAt c 0 cs := fun j v hj => (hb.cell (p := ⟨c, _, none⟩) hc).trans (h j v hj)
set_option maxRecDepth 20000 in
set_option maxHeartbeats 2000000 in
theorem First_any (al : List At) (nm vr : ByteArray) (pv : Value) (pl : List ByteArray) (cs : List Value) (v : Value) (hsz : ∀ i (h : i < al.length), al[i].v.size ≤ maxLen) (hvr : vr.size ≤ maxLen) (w : World) (hp : Pkg cs nm vr pv) (h : Strs w pv pl) (ha : Ats w v al) :
 Calls Tryz.prog 64 #[v, .agg cs.toArray] w fun e w' => e = .returned (.tuple #[.int .i64 (firstA al nm vr pl).1, .bool (firstA al nm vr pl).2]) ∧ Below w.heap.size w w' := by
 obtain ⟨W, hW, hcells, hq, hB⟩ := pkgNew w cs 46
 have HR := hide (range_of1 hcells)
 have HI77 := hide (show (Tryz.prog.info? 46).map (·.size) = some cs.length by rw [hp.len]; kernel_rfl)
 have HM := hide (fun (i : Nat) (hi : i < al.length) (w' : World) (hb : Below w.heap.size w w') => Meets_any al[i].n al[i].op al[i].v nm vr pv pl cs (hsz i hi) hvr w' hp (h.later hb))
 have HA := hide ha
 obtain ⟨xa, xc, rfl, hxb, -⟩ := ha
 have HB := hide hB
 clear hcells hp h hsz hvr hB
 go_enter Tryz.func64, Tryz.ntmps64
 go_wp2_with fail
 go_loopw [6, 7, 10] (fun _ _ iv wr => ∃ k : Nat, k ≤ al.length ∧ iv = .int .i64 k ∧ Hid (Below W.heap.size W wr ∧ ∀ j (hj : j < al.length), j < k → meetsA al[j].n al[j].op al[j].v nm vr pl = false)) (fun _ _ iv _ => al.length - (intOf iv).toNat)
 case atStart => exact ⟨0, Nat.zero_le _, rfl, hide ⟨Below.refl _ _, fun j hj h => absurd h (Nat.not_lt_zero _)⟩⟩
 case round =>
  obtain ⟨k, hk, rfl, HQ⟩ := hrel
  by_cases hlt : k < al.length
  ·have Bw := (unhide HB).trans ((unhide HQ).1.mono (unhide HB).size)
   have HBw := hide Bw
   obtain ⟨_, _, e0, -, hcc⟩ := (unhide HA).later Bw
   injection e0 with e1 e2 e3
   subst e1
   obtain ⟨b, o, rfl, hb, c0, c1, c2⟩ := hcc k hlt
   have HMk := hide (unhide HM k hlt)
   have hr1 := range_later1 (unhide HR) hq (unhide HQ).1
   have HR1 := hide hr1
   have hcl := Nat.lt_of_lt_of_le hq (unhide HQ).1.size
   clear hr1
   clear hcc e3
   rcases hak : al[k] with ⟨q0, q1, q2⟩
   rw [hak] at c0 c1 c2 HMk
   have HK := hide hak
   clear hak
   simp only at c0 c1 c2
   cases hm : meetsA q0 q1 q2 nm vr pl
   ·have HMk1 := hide hm
    rw [show meetsA (At.mk q0 q1 q2).n (At.mk q0 q1 q2).op (At.mk q0 q1 q2).v nm vr pl = false from hm] at HMk
    clear hm
    go_wp2_with (first
     | (refine wpList_load_p (op := y7_1) rfl 46 (.tmp 3) rfl _ 0 rfl cs _ (range_later1 (unhide HR1) hcl ((Below.refl _ _).alloc (Nat.le_refl _) _)) Tryz.underlying46 rfl (unhide HI77) ?_)
     | (go_at_call 76; refine (unhide HMk _ ((unhide HBw).alloc (unhide HBw).size _)).mono ?_; rintro e w5 ⟨rfl, hb5⟩; have HB5 := hide hb5; clear hb5))
    have B6 := (unhide HQ).1.alloc (unhide HQ).1.size (.cells #[.string q0, .int .i64 q1, .string q2] 48)
    have HB6 := hide (B6.trans ((unhide HB5).mono B6.size))
    clear B6
    go_roundw
    case rel =>
     refine ⟨k + 1, by omega, by go_num, hide ⟨unhide HB6, fun j hj h => ?_⟩⟩
     by_cases e : j = k
     ·subst e; rw [unhide HK]; exact unhide HMk1
     ·exact (unhide HQ).2 j hj (by omega)
    case measure => simp [intOf]; omega
   ·have HMk1 := hide hm
    rw [show meetsA (At.mk q0 q1 q2).n (At.mk q0 q1 q2).op (At.mk q0 q1 q2).v nm vr pl = true from hm] at HMk
    clear hm
    go_wp2_with (first
     | (refine wpList_load_p (op := y7_1) rfl 46 (.tmp 3) rfl _ 0 rfl cs _ (range_later1 (unhide HR1) hcl ((Below.refl _ _).alloc (Nat.le_refl _) _)) Tryz.underlying46 rfl (unhide HI77) ?_)
     | (go_at_call 76; refine (unhide HMk _ ((unhide HBw).alloc (unhide HBw).size _)).mono ?_; rintro e w5 ⟨rfl, hb5⟩; have HB5 := hide hb5; clear hb5))
    have B6 := (unhide HQ).1.alloc (unhide HQ).1.size (.cells #[.string q0, .int .i64 q1, .string q2] 48)
    have HB6 := hide (B6.trans ((unhide HB5).mono B6.size))
    clear B6
    exact bodyPost_ret (v := .tuple #[.int .i64 k, .bool true]) (by simp [results, Tryz.results64, go_sem]) rfl ⟨by rw [firstA_hit al nm vr pl k hlt (by rw [unhide HK]; exact unhide HMk1) (fun j hj h => (unhide HQ).2 j hj h)], (unhide HB).trans ((unhide HB6).mono (unhide HB).size)⟩
  ·go_wp2
   exact bodyPost_ret (v := .tuple #[.int .i64 0, .bool false]) (by simp [results, Tryz.results64, go_sem]) rfl ⟨by rw [firstA_miss al nm vr pl fun j hj => (unhide HQ).2 j hj (by omega)], (unhide HB).trans ((unhide HQ).1.mono (unhide HB).size)⟩
end
end Go.Proofs.YtdkpglmdncjnbaaGreatDoor
