import Derived.Test.YtfnbclehlikbkaaDoorBack
namespace Go.Proofs.YtfnbclehlikbkaaDoor
open Go.RowKit

/-- THE BOX OF THE PARTS THAT CAME IN, IN A LATER WORLD. -/
def Box (w w' : World) (e u r : ByteArray) (c d : Bool) : Prop :=
  w'.cell? ⟨w.heap.size, 0, none⟩ = some (.string e) ∧ w'.cell? ⟨w.heap.size, 1, none⟩ = some (.string u) ∧ w'.cell? ⟨w.heap.size, 2, none⟩ = some (.string r) ∧ w'.cell? ⟨w.heap.size, 3, none⟩ = some (.bool c) ∧ w'.cell? ⟨w.heap.size, 4, none⟩ = some (.bool d) ∧ w.heap.size < w'.heap.size

theorem Box.later {w w1 w2 : World} {e u r : ByteArray} {c d : Bool} (h : Box w w1 e u r c d) (hb : Below w1.heap.size w1 w2) : Box w w2 e u r c d :=
  ⟨(hb.cell (p := ⟨w.heap.size, 0, none⟩) h.2.2.2.2.2).trans h.1, (hb.cell (p := ⟨w.heap.size, 1, none⟩) h.2.2.2.2.2).trans h.2.1, (hb.cell (p := ⟨w.heap.size, 2, none⟩) h.2.2.2.2.2).trans h.2.2.1, (hb.cell (p := ⟨w.heap.size, 3, none⟩) h.2.2.2.2.2).trans h.2.2.2.1, (hb.cell (p := ⟨w.heap.size, 4, none⟩) h.2.2.2.2.2).trans h.2.2.2.2.1, Nat.lt_of_lt_of_le h.2.2.2.2.2 hb.size⟩

theorem Box.new (w : World) (e u r : ByteArray) (c d : Bool) : Box w (w.alloc (.cells #[.string e, .string u, .string r, .bool c, .bool d] 24)) e u r c d := by
  refine ⟨?_, ?_, ?_, ?_, ?_, by simp⟩ <;> go_simp

theorem Box.alloc {w w1 : World} {e u r : ByteArray} {c d : Bool} (h : Box w w1 e u r c d) (o : Obj) : Box w (w1.alloc o) e u r c d :=
  h.later ((Below.refl _ w1).alloc (Nat.le_refl _) o)

set_option maxHeartbeats 4000000 in
/-- DebverBack, AT ANY TEXT AND ANY PARTS. -/
theorem debverBack_walk (s e u r : ByteArray) (c d : Bool) (hs : s.size ≤ maxLen) (hsum : e.size + u.size + r.size + 2 ≤ 9223372036854775807) (w : World) :
    Calls Tryd.prog 6 #[.string s, .agg #[.string e, .string u, .string r, .bool c, .bool d]] w fun x w' => x = .returned (.bool true) ∧ Below w.heap.size w w' := by
  rcases hp : parse s with ⟨⟨E, U, R, C, D⟩, n⟩
  rcases ht : text e u r c d with ⟨t, m⟩
  have k1 := hide (fun w => Parse_any s hs E U R C D n hp w)
  have k4 := hide (fun w => Text_any e u r c d hsum t m ht w)
  have k5 := hide (fun w => Check_any e u r c d hsum t m ht w)
  -- the first half
  have hn : (n = 0 ∧ text E U R C D = (s, 0) ∧ E.size + U.size + R.size + 2 ≤ 9223372036854775807) ∨ (n == 0) = false := by
    by_cases h0 : n = 0
    · subst h0
      have hz := parse_short_of_ok s _ hp
      have hps := parse_size s hs
      have hcs := cut_size s
      refine .inl ⟨rfl, text_parsed s E U R C D hp, ?_⟩
      have hcut : cut s = ⟨E, U, R, C, D⟩ := by
        unfold parse at hp
        rw [if_neg (by omega)] at hp
        by_cases hc : chkV (cut s) = 0
        · rw [if_pos hc] at hp; exact (Prod.mk.inj hp).1
        · rw [if_neg hc] at hp; exact absurd (Prod.mk.inj hp).2 hc
      rw [hcut] at hcs
      simp only at hcs
      omega
    · exact .inr (by simpa using h0)
  -- the second half
  have hm : (m ≠ 0 ∧ t = nob) ∨ (m = 0 ∧ t.size ≤ maxLen ∧ ∃ E2 U2 R2 C2 D2, parse t = (⟨E2, U2, R2, C2, D2⟩, 0) ∧ eqv ⟨E2, U2, R2, C2, D2⟩ ⟨e, u, r, c, d⟩ = true) := by
    by_cases h0 : m = 0
    · subst h0
      obtain ⟨⟨E2, U2, R2, C2, D2⟩, h1, h2⟩ := text_back e u r c d t ht
      have hz := parse_short_of_ok t _ h1
      exact .inr ⟨rfl, by unfold maxLen; omega, E2, U2, R2, C2, D2, h1, h2⟩
    · refine .inl ⟨h0, ?_⟩
      unfold text at ht
      split at ht
      · split at ht
        · split at ht
          · cases ht; exact absurd rfl h0
          · cases ht; rfl
        · cases ht; rfl
      · cases ht; rfl
  clear hp ht hs hsum
  rcases hn with ⟨rfl, hte, hsz⟩ | hn
  · have k2 := hide (fun w => Text_any E U R C D hsz s 0 hte w)
    have k3 := hide (fun w => Check_any E U R C D hsz s 0 hte w)
    clear hte hsz
    rcases hm with ⟨hm, rfl⟩ | ⟨rfl, htz, E2, U2, R2, C2, D2, hpt, heq⟩
    · have m1 : (m != 0) = true := by simpa using hm
      have hee := isEmpty_nob
      clear hm
      go_enter Tryd.func6, Tryd.ntmps6
      go_wp2_with fail
      refine (alive_any _).mono ?_
      rintro x w0 ⟨rfl, hb0⟩
      have hz0 := hb0.size
      have hB0 := hide (((Below.refl _ w).alloc (Nat.le_refl _) _).trans (hb0.mono (by simp)))
      have hX0 := hide ((Box.new w e u r c d).later hb0)
      clear hb0
      simp at hz0
      go_wp2_with fail
      refine (unhide k1 _).mono ?_
      rintro x w1 ⟨rfl, hb1⟩
      have hz1 := hb1.size
      have hB1 := hide ((unhide hB0).trans (hb1.mono (by omega)))
      have hX1 := hide ((unhide hX0).later hb1)
      clear hb1
      go_wp2_with fail
      refine (unhide k2 _).mono ?_
      rintro x w2 ⟨rfl, hb2⟩
      have hz2 := hb2.size
      have hB2 := hide (((unhide hB1).alloc (by omega) _).trans (hb2.mono (by simp; omega)))
      have hX2 := hide (((unhide hX1).alloc _).later hb2)
      obtain ⟨hc2, hf2⟩ := bcell hb2
      clear hb2
      simp at hz2
      go_wp2_with fail
      refine (unhide k3 _).mono ?_
      rintro x w3 ⟨rfl, hb3⟩
      have hz3 := hb3.size
      have hB3 := hide ((unhide hB2).trans (hb3.mono (by omega)))
      have hX3 := unhide hX2 |>.later hb3
      clear hb3 hc2 hf2
      obtain ⟨x0, x1, x2, x3, x4, x5⟩ := hX3
      have hX3 := hide (show Box w w3 e u r c d from ⟨x0, x1, x2, x3, x4, x5⟩)
      go_wp2_with fail
      refine (unhide k4 _).mono ?_
      rintro x w4 ⟨rfl, hb4⟩
      have hz4 := hb4.size
      have hB4 := hide ((unhide hB3).trans (hb4.mono (by omega)))
      have hX4 := (unhide hX3).later hb4
      clear hb4 x0 x1 x2 x3 x4 x5
      obtain ⟨y0, y1, y2, y3, y4, y5⟩ := hX4
      go_wp2_with fail
      refine (unhide k5 _).mono ?_
      rintro x w5 ⟨rfl, hb5⟩
      have hB5 := hide ((unhide hB4).trans (hb5.mono (by omega)))
      clear hb5
      go_wp2_with fail
      go_ret
      exact ⟨rfl, unhide hB5⟩
    · have k6 := hide (fun w => Parse_any t htz E2 U2 R2 C2 D2 0 hpt w)
      have ce : ∀ w, (binOp .eql 24 (.agg #[.string E2, .string U2, .string R2, .bool C2, .bool D2]) (.agg #[.string e, .string u, .string r, .bool c, .bool d])).run Tryd.prog w = .ok (.bool true) w := by
        intro w
        rw [cmp_eql, heq]
      clear hpt heq htz
      go_enter Tryd.func6, Tryd.ntmps6
      go_wp2_with fail
      refine (alive_any _).mono ?_
      rintro x w0 ⟨rfl, hb0⟩
      have hz0 := hb0.size
      have hB0 := hide (((Below.refl _ w).alloc (Nat.le_refl _) _).trans (hb0.mono (by simp)))
      have hX0 := hide ((Box.new w e u r c d).later hb0)
      clear hb0
      simp at hz0
      go_wp2_with fail
      refine (unhide k1 _).mono ?_
      rintro x w1 ⟨rfl, hb1⟩
      have hz1 := hb1.size
      have hB1 := hide ((unhide hB0).trans (hb1.mono (by omega)))
      have hX1 := hide ((unhide hX0).later hb1)
      clear hb1
      go_wp2_with fail
      refine (unhide k2 _).mono ?_
      rintro x w2 ⟨rfl, hb2⟩
      have hz2 := hb2.size
      have hB2 := hide (((unhide hB1).alloc (by omega) _).trans (hb2.mono (by simp; omega)))
      have hX2 := hide (((unhide hX1).alloc _).later hb2)
      obtain ⟨hc2, hf2⟩ := bcell hb2
      clear hb2
      simp at hz2
      go_wp2_with fail
      refine (unhide k3 _).mono ?_
      rintro x w3 ⟨rfl, hb3⟩
      have hz3 := hb3.size
      have hB3 := hide ((unhide hB2).trans (hb3.mono (by omega)))
      have hX3 := unhide hX2 |>.later hb3
      clear hb3 hc2 hf2
      obtain ⟨x0, x1, x2, x3, x4, x5⟩ := hX3
      have hX3 := hide (show Box w w3 e u r c d from ⟨x0, x1, x2, x3, x4, x5⟩)
      go_wp2_with fail
      refine (unhide k4 _).mono ?_
      rintro x w4 ⟨rfl, hb4⟩
      have hz4 := hb4.size
      have hB4 := hide ((unhide hB3).trans (hb4.mono (by omega)))
      have hX4 := hide ((unhide hX3).later hb4)
      clear hb4 x0 x1 x2 x3 x4 x5
      have hy4 : w.heap.size < w4.heap.size := (unhide hX4).2.2.2.2.2
      go_wp2_with fail
      refine (unhide k6 _).mono ?_
      rintro x w5 ⟨rfl, hb5⟩
      have hz5 := hb5.size
      have hB5 := hide ((unhide hB4).trans (hb5.mono (by omega)))
      have hX5 := (unhide hX4).later hb5
      clear hb5
      obtain ⟨y0, y1, y2, y3, y4, y5⟩ := hX5
      go_wp2_with fail
      refine (unhide k5 _).mono ?_
      rintro x w6 ⟨rfl, hb6⟩
      have hB6 := hide (((unhide hB5).alloc (by omega) _).trans (hb6.mono (by simp; omega)))
      clear hb6
      go_wp2_with fail
      go_ret
      exact ⟨rfl, unhide hB6⟩
  · rcases hm with ⟨hm, rfl⟩ | ⟨rfl, htz, E2, U2, R2, C2, D2, hpt, heq⟩
    · have m1 : (m != 0) = true := by simpa using hm
      have hee := isEmpty_nob
      clear hm
      go_enter Tryd.func6, Tryd.ntmps6
      go_wp2_with fail
      refine (alive_any _).mono ?_
      rintro x w0 ⟨rfl, hb0⟩
      have hz0 := hb0.size
      have hB0 := hide (((Below.refl _ w).alloc (Nat.le_refl _) _).trans (hb0.mono (by simp)))
      have hX0 := hide ((Box.new w e u r c d).later hb0)
      clear hb0
      simp at hz0
      go_wp2_with fail
      refine (unhide k1 _).mono ?_
      rintro x w1 ⟨rfl, hb1⟩
      have hz1 := hb1.size
      have hB1 := hide ((unhide hB0).trans (hb1.mono (by omega)))
      have hX1 := hide ((unhide hX0).later hb1)
      clear hb1
      have hB3 := hide ((unhide hB1).alloc (by omega) (.cells #[.string E, .string U, .string R, .bool C, .bool D] 24))
      have hX3 := hide ((unhide hX1).alloc (.cells #[.string E, .string U, .string R, .bool C, .bool D] 24))
      obtain ⟨x0, x1, x2, x3, x4, x5⟩ := unhide hX3
      have hz3 : w.heap.size < w1.heap.size := by omega
      go_wp2_with fail
      refine (unhide k4 _).mono ?_
      rintro x w4 ⟨rfl, hb4⟩
      have hz4 := hb4.size
      have hB4 := hide ((unhide hB3).trans (hb4.mono (by simp; omega)))
      have hX4 := (unhide hX3).later hb4
      clear hb4 x0 x1 x2 x3 x4 x5
      obtain ⟨y0, y1, y2, y3, y4, y5⟩ := hX4
      go_wp2_with fail
      refine (unhide k5 _).mono ?_
      rintro x w5 ⟨rfl, hb5⟩
      have hB5 := hide ((unhide hB4).trans (hb5.mono (by omega)))
      clear hb5
      go_wp2_with fail
      go_ret
      exact ⟨rfl, unhide hB5⟩
    · have k6 := hide (fun w => Parse_any t htz E2 U2 R2 C2 D2 0 hpt w)
      have ce : ∀ w, (binOp .eql 24 (.agg #[.string E2, .string U2, .string R2, .bool C2, .bool D2]) (.agg #[.string e, .string u, .string r, .bool c, .bool d])).run Tryd.prog w = .ok (.bool true) w := by
        intro w
        rw [cmp_eql, heq]
      clear hpt heq htz
      go_enter Tryd.func6, Tryd.ntmps6
      go_wp2_with fail
      refine (alive_any _).mono ?_
      rintro x w0 ⟨rfl, hb0⟩
      have hz0 := hb0.size
      have hB0 := hide (((Below.refl _ w).alloc (Nat.le_refl _) _).trans (hb0.mono (by simp)))
      have hX0 := hide ((Box.new w e u r c d).later hb0)
      clear hb0
      simp at hz0
      go_wp2_with fail
      refine (unhide k1 _).mono ?_
      rintro x w1 ⟨rfl, hb1⟩
      have hz1 := hb1.size
      have hB1 := hide ((unhide hB0).trans (hb1.mono (by omega)))
      have hX1 := hide ((unhide hX0).later hb1)
      clear hb1
      have hB3 := hide ((unhide hB1).alloc (by omega) (.cells #[.string E, .string U, .string R, .bool C, .bool D] 24))
      have hX3 := hide ((unhide hX1).alloc (.cells #[.string E, .string U, .string R, .bool C, .bool D] 24))
      obtain ⟨x0, x1, x2, x3, x4, x5⟩ := unhide hX3
      have hz3 : w.heap.size < w1.heap.size := by omega
      go_wp2_with fail
      refine (unhide k4 _).mono ?_
      rintro x w4 ⟨rfl, hb4⟩
      have hz4 := hb4.size
      have hB4 := hide ((unhide hB3).trans (hb4.mono (by simp; omega)))
      have hX4 := hide ((unhide hX3).later hb4)
      clear hb4 x0 x1 x2 x3 x4 x5
      have hy4 : w.heap.size < w4.heap.size := (unhide hX4).2.2.2.2.2
      go_wp2_with fail
      refine (unhide k6 _).mono ?_
      rintro x w5 ⟨rfl, hb5⟩
      have hz5 := hb5.size
      have hB5 := hide ((unhide hB4).trans (hb5.mono (by omega)))
      have hX5 := (unhide hX4).later hb5
      clear hb5
      obtain ⟨y0, y1, y2, y3, y4, y5⟩ := hX5
      go_wp2_with fail
      refine (unhide k5 _).mono ?_
      rintro x w6 ⟨rfl, hb6⟩
      have hB6 := hide (((unhide hB5).alloc (by omega) _).trans (hb6.mono (by simp; omega)))
      clear hb6
      go_wp2_with fail
      go_ret
      exact ⟨rfl, unhide hB6⟩

end Go.Proofs.YtfnbclehlikbkaaDoor
