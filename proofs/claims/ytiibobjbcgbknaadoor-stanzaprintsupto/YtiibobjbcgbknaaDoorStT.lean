import Derived.Test.YtiibobjbcgbknaaDoorStS
namespace Go.Proofs.YtiibobjbcgbknaaDoor
open Go.RowKit Go.Shelf

theorem take_err (p : List Fd) (k : Nat) (s : Bs) : (takeP p k s).1 = 0 ∨ (30 ≤ (takeP p k s).1 ∧ (takeP p k s).1 ≤ 33) := by
  unfold takeP goP beP
  repeat' split
  all_goals first | exact .inl rfl | (right; exact ⟨by simp, by simp⟩)
def EOk (st : St) : Prop := ∀ k e, st.err = some (k, e) → 30 ≤ e ∧ e ≤ 33
theorem stp_eok {st : St} (h : EOk st) (x : Nat × Bs) : EOk (stp st x) := by
  unfold stp
  split
  · exact h
  · split
    · intro k e he; cases he
    · split
      · intro k e he; cases he
      · intro k e he
        cases he
        rcases take_err st.p x.1 x.2 with h0 | h0
        · exact absurd h0 ‹_›
        · exact h0
theorem runL_eok (xs : List (Nat × Bs)) : EOk (runL xs) := by
  unfold runL
  have : ∀ st, EOk st → EOk (xs.foldl stp st) := by
    induction xs with
    | nil => intro st h; exact h
    | cons x r ih => intro st h; exact ih _ (stp_eok h x)
  exact this _ (fun k e he => by cases he)

/-- WHAT Parse ANSWERS: a line's number and an error. -/
def pOut (t : Bs) : Nat × Nat := if 16777216 < t.length then (0, 2) else match (parseT t).err with
  | none => (0, 0)
  | some x => x

set_option maxRecDepth 100000 in
set_option maxHeartbeats 2000000 in
theorem Parse_win (t : Bs) (pa : Option Addr) (c : Nat) (w : World) (ht : t.length ≤ 9223372036854775807) (hG : Glob w)
    (hcv : ∀ W, Below w.heap.size w W → (convert 22 9 (.slice pa t.length c)).run Tryd.prog W = .ok (.string (ba t)) W) :
    Calls Tryd.prog 11 #[.slice pa t.length c] w fun e W2 => ∃ lv, e = .returned (.tuple #[lv, .int .i64 (pOut t).1, .int .i64 (pOut t).2]) ∧ Below w.heap.size w W2 ∧
      (((pOut t).2 ≠ 0 → lv = .slice none 0 0) ∧ ((pOut t).2 = 0 → ∃ vs, vs.length = (shut (parseT t)).length ∧ W2.ownsRow w.heap.size 39 1 lv vs.length vs ∧ Win w.heap.size W2.heap.size W2 vs (shut (parseT t)))) := by
  by_cases hl : 16777216 < t.length
  · have hp : pOut t = (0, 2) := by unfold pOut; rw [if_pos hl]
    rw [hp]
    have hl2 : (16777216 : Int) < (t.length : Int) := by omega
    clear hcv
    go_enter Tryd.func11, Tryd.ntmps11
    go_wp2
    go_ret3
    exact ⟨_, rfl, Below.refl _ _, fun _ => rfl, fun h => absurd h (by decide)⟩
  · have hl2 : ¬ (16777216 : Int) < (t.length : Int) := by omega
    have hb1 : Below w.heap.size w (w.alloc (.cells #[.slice none 0 0] 24)) := (Below.refl _ _).alloc (Nat.le_refl _) _
    have hcv1 := hcv _ hb1
    have hbig := hG.big
    obtain ⟨z1, n1, o1⟩ := al_ w (.cells #[.slice none 0 0] 24)
    have cR := (callsIn_wide (n := 5)).1 (read_in t (by omega) 5 (Nat.le_refl _) w.heap.size (w.alloc (.cells #[.slice none 0 0] 24)) (hG.later (n := w.heap.size) hbig hb1) (by omega) n1)
    have fb : ∀ W2 : World, (∀ i, i < (w.alloc (.cells #[.slice none 0 0] 24)).heap.size → i ≠ w.heap.size → W2.heap[i]? = (w.alloc (.cells #[.slice none 0 0] 24)).heap[i]?) → ∀ i, i < w.heap.size → W2.heap[i]? = w.heap[i]? := fun W2 h i hi => (h i (by omega) (by omega)).trans (o1 i hi)
    have mkB : ∀ W2 : World, Env (w.alloc (.cells #[.slice none 0 0] 24)) W2 → (∀ i, i < (w.alloc (.cells #[.slice none 0 0] 24)).heap.size → i ≠ w.heap.size → W2.heap[i]? = (w.alloc (.cells #[.slice none 0 0] 24)).heap[i]?) → (w.alloc (.cells #[.slice none 0 0] 24)).heap.size ≤ W2.heap.size → Below w.heap.size w W2 := fun W2 h0 h2 h3 => ⟨h0.os, h0.tape, h0.output, by omega, fb W2 h2⟩
    cases hpe : (parseT t).err with
    | none =>
      have hp : pOut t = (0, 0) := by unfold pOut; rw [if_neg hl, hpe]
      rw [hp]
      have cR2 := hide (show Calls Tryd.prog 35 #[.string (ba t), .func (.func 36) #[] #[.pointer (some ⟨w.heap.size, 0, none⟩)]] (w.alloc (.cells #[.slice none 0 0] 24)) fun e W2 => e = .returned (.tuple #[.int .i64 0, .int .i64 0]) ∧ Below w.heap.size w W2 ∧ ∃ lv vs, W2.cell? ⟨w.heap.size, 0, none⟩ = some lv ∧ Dn (w.alloc (.cells #[.slice none 0 0] 24)).heap.size w.heap.size W2.heap.size W2 lv vs (shut (parseT t)) from cR.mono fun e W2 ⟨k, er, h1, h0, h2, h3, h4⟩ => by
        rcases h4 with ⟨_, rfl, rfl, lv, vs, hd⟩ | h4
        · exact ⟨h1, mkB W2 h0 h2 h3, lv, vs, (cell_blk hd.bx 0).1, hd⟩
        · rw [hpe] at h4; cases h4)
      clear cR hcv
      go_enter Tryd.func11, Tryd.ntmps11
      go_wp2_with (go_at_call 35; refine (unhide cR2).mono ?_; rintro e W2 ⟨rfl, hb2, lv, vs, hc, hd⟩; have HB2 := hide hb2; have HD := hide hd; clear hb2 hd)
      go_ret3
      have hd := unhide HD
      exact ⟨lv, rfl, unhide HB2, fun h => absurd rfl h, fun _ => ⟨vs, hd.len, ownsRow_lower hd.row (by omega), hd.win.lower (by omega)⟩⟩
    | some x =>
      obtain ⟨k, er⟩ := x
      have hp : pOut t = (k, er) := by unfold pOut; rw [if_neg hl, hpe]
      have her := runL_eok (lnsOf t) k er hpe
      rw [hp]
      have cR2 := hide (show Calls Tryd.prog 35 #[.string (ba t), .func (.func 36) #[] #[.pointer (some ⟨w.heap.size, 0, none⟩)]] (w.alloc (.cells #[.slice none 0 0] 24)) fun e W2 => e = .returned (.tuple #[.int .i64 k, .int .i64 er]) ∧ Below w.heap.size w W2 from cR.mono fun e W2 ⟨k2, er2, h1, h0, h2, h3, h4⟩ => by
        rcases h4 with ⟨h5, _⟩ | h4
        · rw [hpe] at h5; cases h5
        · rw [hpe] at h4
          cases h4
          exact ⟨h1, mkB W2 h0 h2 h3⟩)
      have hne : ¬ ((er : Int) = 0) := by omega
      clear cR hcv
      go_enter Tryd.func11, Tryd.ntmps11
      go_wp2_with (go_at_call 35; refine (unhide cR2).mono ?_; rintro e W2 ⟨rfl, hb2⟩; have HB2 := hide hb2; clear hb2)
      go_ret3
      exact ⟨_, rfl, unhide HB2, fun _ => rfl, fun h => absurd h (by show er ≠ 0; omega)⟩

theorem Win.each {bl base : Nat} {W : World} {vs : List Value} {ps : List (List Fd)} (h : Win bl base W vs ps) : ∀ (i : Nat) v p, vs[i]? = some v → ps[i]? = some p → Wh bl base W v p := fun i v p hv hp => by
  obtain ⟨c, h1, h2, h3, h4⟩ := h
  have hi := (List.getElem?_eq_some_iff.1 hv).1
  exact ((h4 i v p hv hp).lower (Nat.le_trans h2 (h1 0 i (Nat.zero_le _)))).mono (Nat.le_trans (h1 (i + 1) vs.length hi) h3)
theorem Parse_any (t : Bs) (pa : Option Addr) (c : Nat) (w : World) (ht : t.length ≤ 9223372036854775807) (hG : Glob w)
    (hcv : ∀ W, Below w.heap.size w W → (convert 22 9 (.slice pa t.length c)).run Tryd.prog W = .ok (.string (ba t)) W) :
    Calls Tryd.prog 11 #[.slice pa t.length c] w fun e W2 => ∃ lv, e = .returned (.tuple #[lv, .int .i64 (pOut t).1, .int .i64 (pOut t).2]) ∧ Below w.heap.size w W2 ∧
      (((pOut t).2 ≠ 0 → lv = .slice none 0 0) ∧ ((pOut t).2 = 0 → ∃ vs, vs.length = (shut (parseT t)).length ∧ W2.ownsRow w.heap.size 39 1 lv vs.length vs ∧ ∀ (i : Nat) v p, vs[i]? = some v → (shut (parseT t))[i]? = some p → Wh w.heap.size W2.heap.size W2 v p)) := by
  refine (Parse_win t pa c w ht hG hcv).mono ?_
  rintro e W2 ⟨lv, h1, h2, h3, h4⟩
  refine ⟨lv, h1, h2, h3, fun h => ?_⟩
  obtain ⟨vs, v1, v2, v3⟩ := h4 h
  exact ⟨vs, v1, v2, v3.each⟩

end Go.Proofs.YtiibobjbcgbknaaDoor
