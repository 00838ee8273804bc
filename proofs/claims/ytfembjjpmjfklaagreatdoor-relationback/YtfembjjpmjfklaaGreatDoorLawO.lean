import Derived.Test.YtfembjjpmjfklaaGreatDoorLitP
import Derived.Test.YtfembjjpmjfklaaGreatDoorFitA
namespace Go.Proofs.YtfembjjpmjfklaaGreatDoor
open Go.RowKit

def cnt (f : Nat → Bool) : Nat → Nat
  | 0 => 0
  | k + 1 => cnt f k + (if f k = true then 1 else 0)
theorem cnt_le (f : Nat → Bool) : ∀ k, cnt f k ≤ k
  | 0 => Nat.le_refl _
  | k + 1 => by
    have := cnt_le f k
    unfold cnt
    split <;> omega

/-- THE ARRAY OF ANSWERS, as far as it is filled. -/
structure Fz (w wr : World) (B : Nat) (f : Nat → Bool) (k : Nat) : Prop where
  bel : Below w.heap.size w wr
  ge : w.heap.size ≤ B
  lt : B < wr.heap.size
  cell : ∀ j, j < 7 → wr.cell? ⟨B, j, none⟩ = some (.bool (if j < k then f j else false))
  fr : ∀ j, wr.frozen? ⟨B, j, none⟩ = false
theorem Fz.later {w wr w' : World} {B : Nat} {f : Nat → Bool} {k : Nat} (h : Fz w wr B f k) (hb : Below wr.heap.size wr w') : Fz w w' B f k :=
  ⟨h.bel.trans (hb.mono h.bel.size), h.ge, Nat.lt_of_lt_of_le h.lt hb.size, fun j hj => (hb.cell (p := ⟨B, j, none⟩) h.lt).trans (h.cell j hj), fun j => (hb.frozen (p := ⟨B, j, none⟩) h.lt).trans (h.fr j)⟩

theorem Fz.put {w wr : World} {B : Nat} {f : Nat → Bool} {k : Nat} (h : Fz w wr B f k) (hk : k < 7) (b : Bool) (hb : f k = b) : Fz w (wr.setCell ⟨B, k, none⟩ (.bool b)) B f (k + 1) := by
  refine ⟨h.bel.setCell (p := ⟨B, k, none⟩) h.ge _, h.ge, by simpa using h.lt, fun j hj => ?_, fun j => by simpa using h.fr j⟩
  by_cases e : j = k
  · subst e
    rw [World.cell?_setCell_same _ _ _ (h.cell j hj), if_pos (by omega), hb]
  · rw [World.cell?_setCell_other _ _ _ _ (by intro he; exact e (by have := congrArg Addr.off he; simpa using this.symm)), h.cell j hj]
    by_cases hl : j < k
    · rw [if_pos hl, if_pos (by omega)]
    · rw [if_neg hl, if_neg (by omega)]

theorem cmpT_bad (a b : ByteArray) (h : (parse a).2 ≠ 0 ∨ (parse b).2 ≠ 0) : ∃ X n, cmpT a b = (X, n) ∧ n ≠ 0 := by
  unfold cmpT
  by_cases e1 : (parse a).2 = 0
  · by_cases e2 : (parse b).2 = 0
    · exact absurd (show False by rcases h with h | h <;> contradiction) id
    · rw [if_pos e1, if_neg e2]
      exact ⟨_, _, rfl, e2⟩
  · rw [if_neg e1]
    exact ⟨_, _, rfl, e1⟩
theorem cmpT_good (a b : ByteArray) (h1 : (parse a).2 = 0) (h2 : (parse b).2 = 0) : ∃ X, cmpT a b = (X, 0) ∧ (X = -1 ∨ X = 0 ∨ X = 1) := by
  unfold cmpT
  rw [if_pos h1, if_pos h2]
  exact ⟨_, rfl, pre_ordV.rng _ _⟩
theorem cmpT_same (a : ByteArray) (h1 : (parse a).2 = 0) : cmpT a a = (0, 0) := by
  unfold cmpT
  rw [if_pos h1, if_pos h1]
  have h := pre_ordV.anti (parse a).1 (parse a).1
  have : ordV (parse a).1 (parse a).1 = 0 := by omega
  rw [this]

/-- THE SEVEN ANSWERS. -/
theorem fits_bad (bd v : ByteArray) (h : (parse v).2 ≠ 0 ∨ (parse bd).2 ≠ 0) : fitsA 0 bd v = true ∧ fitsA 1 bd v = false ∧ fitsA 2 bd v = false ∧ fitsA 3 bd v = false ∧ fitsA 4 bd v = false ∧ fitsA 5 bd v = false ∧ fitsA 6 bd v = false := by
  obtain ⟨X, n, h1, h2⟩ := cmpT_bad v bd h
  exact ⟨rfl, fitsA_bad 1 bd v (by omega) (by omega) X n h1 h2, fitsA_bad 2 bd v (by omega) (by omega) X n h1 h2, fitsA_bad 3 bd v (by omega) (by omega) X n h1 h2, fitsA_bad 4 bd v (by omega) (by omega) X n h1 h2, fitsA_bad 5 bd v (by omega) (by omega) X n h1 h2, fitsA_out 6 bd v (by omega)⟩
theorem fits_good (bd v : ByteArray) (h1 : (parse v).2 = 0) (h2 : (parse bd).2 = 0) : fitsA 0 bd v = true ∧ fitsA 6 bd v = false ∧
    ((fitsA 1 bd v = true ∧ fitsA 2 bd v = true ∧ fitsA 3 bd v = false ∧ fitsA 4 bd v = false ∧ fitsA 5 bd v = false) ∨
     (fitsA 1 bd v = false ∧ fitsA 2 bd v = true ∧ fitsA 3 bd v = true ∧ fitsA 4 bd v = true ∧ fitsA 5 bd v = false) ∨
     (fitsA 1 bd v = false ∧ fitsA 2 bd v = false ∧ fitsA 3 bd v = false ∧ fitsA 4 bd v = true ∧ fitsA 5 bd v = true)) := by
  obtain ⟨X, h3, h4⟩ := cmpT_good v bd h1 h2
  have e := fun op a b => fitsA_ok op bd v a b X h3
  rw [e 1 (by omega) (by omega), e 2 (by omega) (by omega), e 3 (by omega) (by omega), e 4 (by omega) (by omega), e 5 (by omega) (by omega)]
  refine ⟨rfl, fitsA_out 6 bd v (by omega), ?_⟩
  rcases h4 with rfl | rfl | rfl
  · exact .inl (by decide)
  · exact .inr (.inl (by decide))
  · exact .inr (.inr (by decide))

set_option maxRecDepth 100000 in
set_option maxHeartbeats 4000000 in
theorem relationOrder_walk (ver bd : ByteArray) (hv : ver.size ≤ maxLen) (hb : bd.size ≤ maxLen) (w : World) (hg : Glob w) :
    Calls Tryz.prog 4 #[.string ver, .string bd] w fun e w' => e = .returned (.bool true) ∧ Below w.heap.size w w' := by
  rcases h1 : parse ver with ⟨⟨E, U, R, C, D⟩, n1⟩
  rcases h2 : parse bd with ⟨⟨E2, U2, R2, C2, D2⟩, n2⟩
  have c1 := hide (fun w => Parse_any ver hv E U R C D n1 h1 w)
  have c2 := hide (fun w => Parse_any bd hb E2 U2 R2 C2 D2 n2 h2 w)
  have c3 := hide (fun op w => FitsA_any ⟨#[97, 97]⟩ op bd ver hb hv w)
  have c4 := hide (fun op w => FitsA_any ⟨#[97, 97]⟩ op bd bd hb hb w)
  have c5 := hide (fun (w' : World) (hb : Below w.heap.size w w') => little_any w' (hg.later hb))
  clear hg
  go_enter Tryz.func4, Tryz.ntmps4
  go_wp2_with fail
  refine (unhide c1 _).mono ?_
  rintro e w1 ⟨rfl, hb1⟩
  have HB1 := hide hb1
  have hq1 := hb1.size
  clear hb1
  go_wp2_with fail
  refine (unhide c2 _).mono ?_
  rintro e w2 ⟨rfl, hb2⟩
  have HB2 := hide hb2
  have hq2 := hb2.size
  clear hb2
  go_wp2_with fail
  obtain ⟨f, hf⟩ : ∃ f : Nat → Bool, ∀ j : Nat, fitsA (j : Int) bd ver = f j := ⟨fun j => fitsA (j : Int) bd ver, fun _ => rfl⟩
  have Bl : Below w.heap.size w w2 := ((unhide HB1).alloc hq1 _).trans ((unhide HB2).mono (Nat.le_trans hq1 (by simp)))
  have HZ0 := hide (show Fz w ((w2.alloc (.cells #[.string E2, .string U2, .string R2, .bool C2, .bool D2] 48)).alloc (.cells #[.bool false, .bool false, .bool false, .bool false, .bool false, .bool false, .bool false] 51)) (w2.heap.size + 1) f 0 from
    ⟨(Bl.alloc Bl.size _).alloc (Nat.le_trans Bl.size (by simp)) _, Nat.le_trans Bl.size (Nat.le_succ _), by simp, fun j hj => by
      rw [World.cell?_alloc_at _ _ _ _ (by simp)]
      match j, hj with
      | 0, _ => rfl
      | 1, _ => rfl
      | 2, _ => rfl
      | 3, _ => rfl
      | 4, _ => rfl
      | 5, _ => rfl
      | 6, _ => rfl, fun j => by rw [World.frozen?_alloc_at _ _ _ _ (by simp)]⟩)
  obtain ⟨W0, hW0⟩ : ∃ W0, ((w2.alloc (.cells #[.string E2, .string U2, .string R2, .bool C2, .bool D2] 48)).alloc (.cells #[.bool false, .bool false, .bool false, .bool false, .bool false, .bool false, .bool false] 51)) = W0 := ⟨_, rfl⟩
  rw [hW0] at HZ0 ⊢
  obtain ⟨B, hB⟩ : ∃ B, w2.heap.size + 1 = B := ⟨_, rfl⟩
  rw [hB] at HZ0 ⊢
  have HF := hide hf
  clear Bl hW0 hB HB1 HB2 hq1 hq2 c1 c2 hf
  go_loopw [9, 11] (fun n i wr => ∃ k : Nat, k ≤ 7 ∧ i = .int .i64 k ∧ n = .int .i64 (cnt f k : Nat) ∧ Hid (Fz w wr B f k)) (fun _ i _ => 7 - (intOf i).toNat)
  case atStart => exact ⟨0, Nat.zero_le _, rfl, rfl, HZ0⟩
  case round =>
    obtain ⟨k, hk, rfl, rfl, HZ⟩ := hrel
    by_cases hlt : k < 7
    · have c6 := hide (fun w => unhide HF k ▸ unhide c3 (k : Int) w)
      have hkA : (0 : Int) ≤ (k : Int) := by omega
      have hkB : (k : Int) < 7 := by omega
      go_wp2_with fail
      refine (unhide c6 _).mono ?_
      rintro e w4 ⟨rfl, hb4⟩
      have HZ4 := hide ((unhide HZ).later hb4)
      have qc := (unhide HZ4).cell k hlt
      have qf := (unhide HZ4).fr k
      have ql := (unhide HZ4).lt
      clear hb4
      have hcl := cnt_le f k
      cases hfk : f k
      · have HP := hide ((unhide HZ4).put hlt false hfk)
        have HC := hide (show cnt f (k + 1) = cnt f k by show cnt f k + _ = _; rw [if_neg (by simp [hfk])]; rfl)
        go_wp2_with fail
        go_roundw
        case rel => exact ⟨k + 1, by omega, by go_num, by rw [unhide HC], HP⟩
        case measure => simp [intOf]; omega
      · have HP := hide ((unhide HZ4).put hlt true hfk)
        have HC := hide (show cnt f (k + 1) = cnt f k + 1 by show cnt f k + _ = _; rw [if_pos hfk])
        go_wp2_with fail
        go_roundw
        case rel => exact ⟨k + 1, by omega, by go_num, by rw [unhide HC]; go_num, HP⟩
        case measure => simp [intOf]; omega
    · obtain rfl : k = 7 := by omega
      have q0 := (unhide HZ).cell 0 (by omega)
      have q1 := (unhide HZ).cell 1 (by omega)
      have q2 := (unhide HZ).cell 2 (by omega)
      have q3 := (unhide HZ).cell 3 (by omega)
      have q4 := (unhide HZ).cell 4 (by omega)
      have q5 := (unhide HZ).cell 5 (by omega)
      have q6 := (unhide HZ).cell 6 (by omega)
      rw [if_pos (by omega)] at q0 q1 q2 q3 q4 q5 q6
      have ql := (unhide HZ).lt
      have m1 := hide (fitsA_out (-1) bd ver (by omega))
      by_cases hbad : n1 ≠ 0 ∨ n2 ≠ 0
      · obtain ⟨g0, g1, g2, g3, g4, g5, g6⟩ := fits_bad bd ver (by rw [h1, h2]; exact hbad)
        rw [show (0 : Int) = ((0 : Nat) : Int) from rfl, unhide HF] at g0
        rw [show (1 : Int) = ((1 : Nat) : Int) from rfl, unhide HF] at g1
        rw [show (2 : Int) = ((2 : Nat) : Int) from rfl, unhide HF] at g2
        rw [show (3 : Int) = ((3 : Nat) : Int) from rfl, unhide HF] at g3
        rw [show (4 : Int) = ((4 : Nat) : Int) from rfl, unhide HF] at g4
        rw [show (5 : Int) = ((5 : Nat) : Int) from rfl, unhide HF] at g5
        rw [show (6 : Int) = ((6 : Nat) : Int) from rfl, unhide HF] at g6
        have hcn : cnt f 7 = 1 := by simp [cnt, g0, g1, g2, g3, g4, g5, g6]
        rw [g0] at q0
        rw [g1] at q1
        rw [g2] at q2
        rw [g3] at q3
        rw [g4] at q4
        rw [g5] at q5
        rw [g6] at q6
        rw [hcn]
        have c7 := hide (fun w => unhide m1 ▸ unhide c3 (-1) w)
        clear g0 g1 g2 g3 g4 g5 g6 hcn
        go_wp2_with fail
        refine (unhide c7 _).mono ?_
        rintro e w5 ⟨rfl, hb5⟩
        have HB5 := hide (((unhide HZ).later hb5).bel)
        clear hb5 q0 q1 q2 q3 q4 q5 q6 ql
        by_cases hn1 : n1 = 0
        · have hn2 : n2 ≠ 0 := hbad.resolve_left (fun h => h hn1)
          have hn2' : (n2 == 0) = false := by simpa using hn2
          subst hn1
          clear hbad hn2
          go_wp2_with (first | (go_at_call 6; refine (num2_any _ _).mono ?_; rintro e w' ⟨rfl, rfl⟩))
          go_ret
          exact ⟨rfl, unhide HB5⟩
        · have hn1' : (n1 == 0) = false := by simpa using hn1
          clear hbad hn1
          go_wp2_with (first | (go_at_call 6; refine (num2_any _ _).mono ?_; rintro e w' ⟨rfl, rfl⟩))
          go_ret
          exact ⟨rfl, unhide HB5⟩
      · have e1 : n1 = 0 := by omega
        have e2 : n2 = 0 := by omega
        subst e1 e2
        obtain ⟨g0, g6, hg3⟩ := fits_good bd ver (by rw [h1]) (by rw [h2])
        rw [show (0 : Int) = ((0 : Nat) : Int) from rfl, unhide HF] at g0
        rw [show (6 : Int) = ((6 : Nat) : Int) from rfl, unhide HF] at g6
        have m3 := hide (show fitsA 3 bd bd = true by rw [fitsA_ok 3 bd bd (by omega) (by omega) 0 (cmpT_same bd (by rw [h2]))]; rfl)
        have c7 := hide (fun w => unhide m1 ▸ unhide c3 (-1) w)
        have c8 := hide (fun w => unhide m3 ▸ unhide c4 3 w)
        rw [g0] at q0
        rw [g6] at q6
        clear c3 c4 hbad
        rcases hg3 with hg3 | hg3 | hg3
        · obtain ⟨g1, g2, g3, g4, g5⟩ := hg3
          rw [show (1 : Int) = ((1 : Nat) : Int) from rfl, unhide HF] at g1
          rw [show (2 : Int) = ((2 : Nat) : Int) from rfl, unhide HF] at g2
          rw [show (3 : Int) = ((3 : Nat) : Int) from rfl, unhide HF] at g3
          rw [show (4 : Int) = ((4 : Nat) : Int) from rfl, unhide HF] at g4
          rw [show (5 : Int) = ((5 : Nat) : Int) from rfl, unhide HF] at g5
          go_wp2_with fail
          refine (unhide c7 _).mono ?_
          rintro e w5 ⟨rfl, hb5⟩
          have HZ5 := hide ((unhide HZ).later hb5)
          clear hb5 q0 q1 q2 q3 q4 q5 q6 ql
          have q0 := (unhide HZ5).cell 0 (by omega)
          have q1 := (unhide HZ5).cell 1 (by omega)
          have q2 := (unhide HZ5).cell 2 (by omega)
          have q3 := (unhide HZ5).cell 3 (by omega)
          have q4 := (unhide HZ5).cell 4 (by omega)
          have q5 := (unhide HZ5).cell 5 (by omega)
          rw [if_pos (by omega)] at q0 q1 q2 q3 q4 q5
          rw [g0] at q0
          rw [g1] at q1
          rw [g2] at q2
          rw [g3] at q3
          rw [g4] at q4
          rw [g5] at q5
          have ql := (unhide HZ5).lt
          clear g0 g1 g2 g3 g4 g5 g6
          go_wp2_with (first | (go_at_call 6; refine (num2_any _ _).mono ?_; rintro e w' ⟨rfl, rfl⟩))
          refine (unhide c8 _).mono ?_
          rintro e w6 ⟨rfl, hb6⟩
          have HZ6 := hide ((unhide HZ5).later hb6)
          clear hb6
          go_wp2_with fail
          refine (unhide c5 _ (unhide HZ6).bel).mono ?_
          rintro e w7 ⟨rfl, hb7⟩
          have HB7 := hide ((unhide HZ6).bel.trans (hb7.mono (unhide HZ6).bel.size))
          clear hb7
          go_wp2_with fail
          go_ret
          exact ⟨rfl, unhide HB7⟩
        · obtain ⟨g1, g2, g3, g4, g5⟩ := hg3
          rw [show (1 : Int) = ((1 : Nat) : Int) from rfl, unhide HF] at g1
          rw [show (2 : Int) = ((2 : Nat) : Int) from rfl, unhide HF] at g2
          rw [show (3 : Int) = ((3 : Nat) : Int) from rfl, unhide HF] at g3
          rw [show (4 : Int) = ((4 : Nat) : Int) from rfl, unhide HF] at g4
          rw [show (5 : Int) = ((5 : Nat) : Int) from rfl, unhide HF] at g5
          go_wp2_with fail
          refine (unhide c7 _).mono ?_
          rintro e w5 ⟨rfl, hb5⟩
          have HZ5 := hide ((unhide HZ).later hb5)
          clear hb5 q0 q1 q2 q3 q4 q5 q6 ql
          have q0 := (unhide HZ5).cell 0 (by omega)
          have q1 := (unhide HZ5).cell 1 (by omega)
          have q2 := (unhide HZ5).cell 2 (by omega)
          have q3 := (unhide HZ5).cell 3 (by omega)
          have q4 := (unhide HZ5).cell 4 (by omega)
          have q5 := (unhide HZ5).cell 5 (by omega)
          rw [if_pos (by omega)] at q0 q1 q2 q3 q4 q5
          rw [g0] at q0
          rw [g1] at q1
          rw [g2] at q2
          rw [g3] at q3
          rw [g4] at q4
          rw [g5] at q5
          have ql := (unhide HZ5).lt
          clear g0 g1 g2 g3 g4 g5 g6
          go_wp2_with (first | (go_at_call 6; refine (num2_any _ _).mono ?_; rintro e w' ⟨rfl, rfl⟩))
          refine (unhide c8 _).mono ?_
          rintro e w6 ⟨rfl, hb6⟩
          have HZ6 := hide ((unhide HZ5).later hb6)
          clear hb6
          go_wp2_with fail
          refine (unhide c5 _ (unhide HZ6).bel).mono ?_
          rintro e w7 ⟨rfl, hb7⟩
          have HB7 := hide ((unhide HZ6).bel.trans (hb7.mono (unhide HZ6).bel.size))
          clear hb7
          go_wp2_with fail
          go_ret
          exact ⟨rfl, unhide HB7⟩
        · obtain ⟨g1, g2, g3, g4, g5⟩ := hg3
          rw [show (1 : Int) = ((1 : Nat) : Int) from rfl, unhide HF] at g1
          rw [show (2 : Int) = ((2 : Nat) : Int) from rfl, unhide HF] at g2
          rw [show (3 : Int) = ((3 : Nat) : Int) from rfl, unhide HF] at g3
          rw [show (4 : Int) = ((4 : Nat) : Int) from rfl, unhide HF] at g4
          rw [show (5 : Int) = ((5 : Nat) : Int) from rfl, unhide HF] at g5
          go_wp2_with fail
          refine (unhide c7 _).mono ?_
          rintro e w5 ⟨rfl, hb5⟩
          have HZ5 := hide ((unhide HZ).later hb5)
          clear hb5 q0 q1 q2 q3 q4 q5 q6 ql
          have q0 := (unhide HZ5).cell 0 (by omega)
          have q1 := (unhide HZ5).cell 1 (by omega)
          have q2 := (unhide HZ5).cell 2 (by omega)
          have q3 := (unhide HZ5).cell 3 (by omega)
          have q4 := (unhide HZ5).cell 4 (by omega)
          have q5 := (unhide HZ5).cell 5 (by omega)
          rw [if_pos (by omega)] at q0 q1 q2 q3 q4 q5
          rw [g0] at q0
          rw [g1] at q1
          rw [g2] at q2
          rw [g3] at q3
          rw [g4] at q4
          rw [g5] at q5
          have ql := (unhide HZ5).lt
          clear g0 g1 g2 g3 g4 g5 g6
          go_wp2_with (first | (go_at_call 6; refine (num2_any _ _).mono ?_; rintro e w' ⟨rfl, rfl⟩))
          refine (unhide c8 _).mono ?_
          rintro e w6 ⟨rfl, hb6⟩
          have HZ6 := hide ((unhide HZ5).later hb6)
          clear hb6
          go_wp2_with fail
          refine (unhide c5 _ (unhide HZ6).bel).mono ?_
          rintro e w7 ⟨rfl, hb7⟩
          have HB7 := hide ((unhide HZ6).bel.trans (hb7.mono (unhide HZ6).bel.size))
          clear hb7
          go_wp2_with fail
          go_ret
          exact ⟨rfl, unhide HB7⟩

end Go.Proofs.YtfembjjpmjfklaaGreatDoor
