import Derived.Test.YtfnbclehlikbkaaDoorCompare
import Derived.Test.YtfnbclehlikbkaaDoorPre
namespace Go.Proofs.YtfnbclehlikbkaaDoor
open Go.RowKit

theorem ordV_self (v : Ver) : ordV v v = 0 := by
  have := pre_ordV.anti v v
  omega

theorem cmpT_ok {a b : ByteArray} {v w : Ver} (h1 : parse a = (v, 0)) (h2 : parse b = (w, 0)) : cmpT a b = (ordV v w, 0) := by
  unfold cmpT; rw [h1, h2]; rfl
theorem cmpT_bad {a b : ByteArray} (h : ¬ ((parse a).2 = 0 ∧ (parse b).2 = 0)) : ∃ n, n ≠ 0 ∧ cmpT a b = (0, n) := by
  unfold cmpT
  by_cases h1 : (parse a).2 = 0
  · have h2 : ¬ (parse b).2 = 0 := fun h2 => h ⟨h1, h2⟩
    rw [if_pos h1, if_neg h2]
    exact ⟨_, h2, rfl⟩
  · rw [if_neg h1]
    exact ⟨_, h1, rfl⟩

set_option maxHeartbeats 4000000 in
theorem debverPreorder_bad (a b c : ByteArray) (ha : a.size ≤ maxLen) (hb : b.size ≤ maxLen) (hc : c.size ≤ maxLen) (h : ¬ ((parse a).2 = 0 ∧ (parse b).2 = 0)) (w : World) :
    Calls Tryd.prog 3 #[.string a, .string b, .string c] w fun x w' => x = .returned (.bool true) ∧ Below w.heap.size w w' := by
  obtain ⟨n0, hn0, hcmp⟩ := cmpT_bad h
  rcases hp : parse a with ⟨⟨e1, u1, r1, c1, d1⟩, n1⟩
  rcases hq : parse b with ⟨⟨e2, u2, r2, c2, d2⟩, n2⟩
  rcases hr : parse c with ⟨⟨e3, u3, r3, c3, d3⟩, n3⟩
  have k1 := hide (fun w => Parse_any a ha e1 u1 r1 c1 d1 n1 hp w)
  have k2 := hide (fun w => Parse_any b hb e2 u2 r2 c2 d2 n2 hq w)
  have k3 := hide (fun w => Parse_any c hc e3 u3 r3 c3 d3 n3 hr w)
  have k4 := hide (fun w => Compare_any a b ha hb _ _ hcmp w)
  rw [hp, hq] at h
  simp only at h
  have hn : (n0 != 0) = true := by simpa using hn0
  clear hp hq hr hcmp hn0 ha hb hc
  have hor : ((n1 != 0) = true) ∨ ((n1 != 0) = false ∧ (n2 != 0) = true) := by
    by_cases e : n1 = 0
    · exact .inr ⟨by simp [e], by simpa using fun e2 => h ⟨e, e2⟩⟩
    · exact .inl (by simpa using e)
  clear h
  rcases hor with m1 | ⟨m1, m2⟩
  all_goals
    go_enter Tryd.func3, Tryd.ntmps3
    go_wp2_with fail
    refine (alive_any _).mono ?_
    rintro x w0 ⟨rfl, hb0⟩
    have hz0 := hb0.size
    have hb0' := hide hb0
    clear hb0
    go_wp2_with fail
    refine (unhide k1 _).mono ?_
    rintro x w1 ⟨rfl, hb1⟩
    have hz1 := hb1.size
    have hb1' := hide hb1
    clear hb1
    go_wp2_with fail
    refine (unhide k2 _).mono ?_
    rintro x w2 ⟨rfl, hb2⟩
    have hz2 := hb2.size
    have hb2' := hide hb2
    clear hb2
    simp at hz2
    go_wp2_with fail
    refine (unhide k3 _).mono ?_
    rintro x w3 ⟨rfl, hb3⟩
    have hz3 := hb3.size
    have hb3' := hide hb3
    clear hb3
    simp at hz3
    go_wp2_with fail
    refine (unhide k4 _).mono ?_
    rintro x w4 ⟨rfl, hb4⟩
    have hb4' := hide hb4
    clear hb4
    go_wp2_with fail
    go_ret
    exact ⟨rfl, ((((((((unhide hb0').trans ((unhide hb1').mono (by omega))).alloc (by omega) _).trans ((unhide hb2').mono (by simp; omega))).alloc (by omega) _).trans ((unhide hb3').mono (by simp; omega))).alloc (by omega) _).trans ((unhide hb4').mono (by simp; omega)))⟩

set_option maxHeartbeats 4000000 in
theorem debverPreorder_two (a b c : ByteArray) (ha : a.size ≤ maxLen) (hb : b.size ≤ maxLen) (hc : c.size ≤ maxLen) (v1 v2 v3 : Ver) (n3 : Int) (hp : parse a = (v1, 0)) (hq : parse b = (v2, 0)) (hr : parse c = (v3, n3)) (w : World) :
    Calls Tryd.prog 3 #[.string a, .string b, .string c] w fun x w' => x = .returned (.bool true) ∧ Below w.heap.size w w' := by
  obtain ⟨e1, u1, r1, c1, d1⟩ := v1
  obtain ⟨e2, u2, r2, c2, d2⟩ := v2
  obtain ⟨e3, u3, r3, c3, d3⟩ := v3
  have k1 := hide (fun w => Parse_any a ha e1 u1 r1 c1 d1 0 hp w)
  have k2 := hide (fun w => Parse_any b hb e2 u2 r2 c2 d2 0 hq w)
  have k3 := hide (fun w => Parse_any c hc e3 u3 r3 c3 d3 n3 hr w)
  have k4 := hide (fun w => Compare_any a b ha hb _ _ (cmpT_ok hp hq) w)
  have k5 := hide (fun w => Compare_any b a hb ha _ _ (cmpT_ok hq hp) w)
  have k6 := hide (fun w => Compare_any a a ha ha _ _ (cmpT_ok hp hp) w)
  have k7 := hide (fun (h3 : n3 = 0) w => Compare_any b c hb hc _ _ (cmpT_ok hq (h3 ▸ hr)) w)
  have k8 := hide (fun (h3 : n3 = 0) w => Compare_any a c ha hc _ _ (cmpT_ok hp (h3 ▸ hr)) w)
  rw [ordV_self] at k6
  have rX := pre_ordV.rng ⟨e1, u1, r1, c1, d1⟩ ⟨e2, u2, r2, c2, d2⟩
  have aX := pre_ordV.anti ⟨e1, u1, r1, c1, d1⟩ ⟨e2, u2, r2, c2, d2⟩
  have rW := pre_ordV.rng ⟨e2, u2, r2, c2, d2⟩ ⟨e3, u3, r3, c3, d3⟩
  have aW := pre_ordV.anti ⟨e2, u2, r2, c2, d2⟩ ⟨e3, u3, r3, c3, d3⟩
  have rV := pre_ordV.rng ⟨e1, u1, r1, c1, d1⟩ ⟨e3, u3, r3, c3, d3⟩
  have aV := pre_ordV.anti ⟨e1, u1, r1, c1, d1⟩ ⟨e3, u3, r3, c3, d3⟩
  have t1 := pre_ordV.tr ⟨e1, u1, r1, c1, d1⟩ ⟨e2, u2, r2, c2, d2⟩ ⟨e3, u3, r3, c3, d3⟩
  have t2 := pre_ordV.tr ⟨e2, u2, r2, c2, d2⟩ ⟨e1, u1, r1, c1, d1⟩ ⟨e3, u3, r3, c3, d3⟩
  have t3 := pre_ordV.tr ⟨e3, u3, r3, c3, d3⟩ ⟨e1, u1, r1, c1, d1⟩ ⟨e2, u2, r2, c2, d2⟩
  have t4 := pre_ordV.tr ⟨e3, u3, r3, c3, d3⟩ ⟨e2, u2, r2, c2, d2⟩ ⟨e1, u1, r1, c1, d1⟩
  have t5 := pre_ordV.tr ⟨e1, u1, r1, c1, d1⟩ ⟨e3, u3, r3, c3, d3⟩ ⟨e2, u2, r2, c2, d2⟩
  have t6 := pre_ordV.tr ⟨e2, u2, r2, c2, d2⟩ ⟨e3, u3, r3, c3, d3⟩ ⟨e1, u1, r1, c1, d1⟩
  generalize ordV ⟨e1, u1, r1, c1, d1⟩ ⟨e2, u2, r2, c2, d2⟩ = X at *
  generalize ordV ⟨e2, u2, r2, c2, d2⟩ ⟨e1, u1, r1, c1, d1⟩ = Y at *
  generalize ordV ⟨e2, u2, r2, c2, d2⟩ ⟨e3, u3, r3, c3, d3⟩ = Wv at *
  generalize ordV ⟨e3, u3, r3, c3, d3⟩ ⟨e2, u2, r2, c2, d2⟩ = W2 at *
  generalize ordV ⟨e1, u1, r1, c1, d1⟩ ⟨e3, u3, r3, c3, d3⟩ = Vv at *
  generalize ordV ⟨e3, u3, r3, c3, d3⟩ ⟨e1, u1, r1, c1, d1⟩ = V2 at *
  have HL : Hid (∀ (P : Prop), (X = 0 → Vv = Wv → P) → (X ≠ 0 → ¬ (X < 0 ∧ Wv ≤ 0 ∧ 0 ≤ Vv) → ¬ (0 < X ∧ 0 ≤ Wv ∧ Vv ≤ 0) → P) → P) := hide (by
    intro P p1 p2
    by_cases hX : X = 0
    · exact p1 hX (by omega)
    · exact p2 hX (by omega) (by omega))
  have HrW := hide rW
  have HrV := hide rV
  clear t1 t2 t3 t4 t5 t6 aW aV rW rV hp hq hr ha hb hc
  have H3 : (n3 != 0) = true ∨ n3 = 0 := by
    by_cases e : n3 = 0
    · exact .inr e
    · exact .inl (by simpa using e)
  have hY : (X = -1 ∧ Y = 1) ∨ (X = 0 ∧ Y = 0) ∨ (X = 1 ∧ Y = -1) := by omega
  clear rX aX
  rcases hY with ⟨rfl, rfl⟩ | ⟨rfl, rfl⟩ | ⟨rfl, rfl⟩ <;> rcases H3 with m3 | rfl
  all_goals
    go_enter Tryd.func3, Tryd.ntmps3
    go_wp2_with fail
    refine (alive_any _).mono ?_
    rintro x w0 ⟨rfl, hb0⟩
    have hz0 := hb0.size
    have hb0' := hide hb0
    clear hb0
    go_wp2_with fail
    refine (unhide k1 _).mono ?_
    rintro x w1 ⟨rfl, hb1⟩
    have hz1 := hb1.size
    have hb1' := hide hb1
    clear hb1
    go_wp2_with fail
    refine (unhide k2 _).mono ?_
    rintro x w2 ⟨rfl, hb2⟩
    have hz2 := hb2.size
    have hb2' := hide hb2
    clear hb2
    simp at hz2
    go_wp2_with fail
    refine (unhide k3 _).mono ?_
    rintro x w3 ⟨rfl, hb3⟩
    have hz3 := hb3.size
    have hb3' := hide hb3
    clear hb3
    simp at hz3
    go_wp2_with fail
    refine (unhide k4 _).mono ?_
    rintro x w4 ⟨rfl, hb4⟩
    have hz4 := hb4.size
    have hb4' := hide hb4
    clear hb4
    simp at hz4
    go_wp2_with fail
    refine (unhide k5 _).mono ?_
    rintro x w5 ⟨rfl, hb5⟩
    have hz5 := hb5.size
    have hb5' := hide hb5
    clear hb5
    go_wp2_with fail
    refine (unhide k6 _).mono ?_
    rintro x w6 ⟨rfl, hb6⟩
    have hz6 := hb6.size
    have hB6 := hide (((((((((((unhide hb0').trans ((unhide hb1').mono (by omega))).alloc (by omega) _).trans ((unhide hb2').mono (by simp; omega))).alloc (by omega) _).trans ((unhide hb3').mono (by simp; omega))).alloc (by omega) _).trans ((unhide hb4').mono (by simp; omega))).trans ((unhide hb5').mono (by omega))).trans (hb6.mono (by omega))))
    have q6 : w.heap.size ≤ w6.heap.size := by omega
    clear hb6 hb0' hb1' hb2' hb3' hb4' hb5' hz0 hz1 hz2 hz3 hz4 hz5 hz6 k1 k2 k3 k4 k5 k6
    go_wp2_with fail
  all_goals first
    | (go_ret; exact ⟨rfl, unhide hB6⟩)
    | skip
  all_goals
    refine (unhide k7 (by first | rfl | trivial) _).mono ?_
    rintro x w7 ⟨rfl, hb7⟩
    have hz7 := hb7.size
    have hb7' := hide hb7
    clear hb7
    go_wp2_with fail
    refine (unhide k8 (by first | rfl | trivial) _).mono ?_
    rintro x w8 ⟨rfl, hb8⟩
    have hb8' := hide ((unhide hB6).trans (((unhide hb7').mono q6).trans (hb8.mono (by omega))))
    clear hb8
    have hrW := unhide HrW
    have hrV := unhide HrV
    have hl := unhide HL
    clear HrW HrV HL k7 k8
    rcases hrW with rfl | rfl | rfl <;> rcases hrV with rfl | rfl | rfl
    all_goals first
      | exact hl _ (fun h1 h2 => by omega) (fun h1 h2 h3 => by omega)
      | (clear hl; go_wp2_with fail; go_ret; exact ⟨rfl, unhide hb8'⟩)

/-- DebverPreorder, AT ANY THREE TEXTS. -/
theorem debverPreorder_walk (a b c : ByteArray) (ha : a.size ≤ maxLen) (hb : b.size ≤ maxLen) (hc : c.size ≤ maxLen) (w : World) :
    Calls Tryd.prog 3 #[.string a, .string b, .string c] w fun x w' => x = .returned (.bool true) ∧ Below w.heap.size w w' := by
  by_cases h : (parse a).2 = 0 ∧ (parse b).2 = 0
  · exact debverPreorder_two a b c ha hb hc (parse a).1 (parse b).1 (parse c).1 (parse c).2 (by rw [← h.1]) (by rw [← h.2]) rfl w
  · exact debverPreorder_bad a b c ha hb hc h w

end Go.Proofs.YtfnbclehlikbkaaDoor
