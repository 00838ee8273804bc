import Derived.Test.YtfembjjpmjfklaaDoorRefC
import Derived.Test.YtfembjjpmjfklaaDoorRelX
namespace Go.Proofs.YtfembjjpmjfklaaDoor
open Go.RowKit

theorem ownsRow_sts {W : World} {base : Nat} {v : Value} {L : List ByteArray} (h : W.ownsRow base 9 1 v L.length (L.map Value.string)) (hL : L.length ≤ 16777217) : Sts W v L := by
  have h0 := h
  rcases h.2 with ⟨rfl, e⟩ | ⟨g, cap, cur, rfl, _⟩
  · exact ⟨_, _, by rw [e], by omega, fun i hi => absurd hi (by omega)⟩
  · refine ⟨_, _, rfl, by omega, fun i hi => ⟨g, 0, rfl, (h0.lt _ rfl).2, ?_⟩⟩
    have := h0.cells (g := g) rfl i (.string L[i]) (by rw [List.getElem?_map, List.getElem?_eq_getElem hi]; rfl)
    rw [Go.WideShapes.add_plain] at this
    exact this
theorem ownsRow_ams {W : World} {base : Nat} {v : Value} {al : List Am} (h : W.ownsRow base 34 3 v al.length (al.flatMap amCells)) (hL : al.length ≤ 16777217) : Ams W v al := by
  have h0 := h
  rcases h.2 with ⟨rfl, e⟩ | ⟨g, cap, cur, rfl, _⟩
  · exact ⟨_, _, by rw [e], by omega, fun i hi => absurd hi (by omega)⟩
  · refine ⟨_, _, rfl, by omega, fun i hi => ⟨g, 0, rfl, (h0.lt _ rfl).2, ?_, ?_, ?_⟩⟩
    · have := h0.cells (g := g) rfl (i * 3 + 0) _ ((flat_at 3 amCells (fun _ => rfl) al i 0 hi (by omega)).trans rfl)
      rw [Go.WideShapes.add_plain] at this
      simpa using this
    · have := h0.cells (g := g) rfl (i * 3 + 1) _ ((flat_at 3 amCells (fun _ => rfl) al i 1 hi (by omega)).trans rfl)
      rw [Go.WideShapes.add_plain] at this
      simpa [Nat.add_assoc] using this
    · have := h0.cells (g := g) rfl (i * 3 + 2) _ ((flat_at 3 amCells (fun _ => rfl) al i 2 hi (by omega)).trans rfl)
      rw [Go.WideShapes.add_plain] at this
      simpa [Nat.add_assoc] using this

/-- A FIELD'S PIECES, and the error. -/
def rwE (s : ByteArray) : Int := if 16777216 < s.size then 2 else if (trimB s).size = 0 then 0 else if 1024 < (pcs s 44).length then 24 else 0
def rwL (s : ByteArray) : List ByteArray := if 16777216 < s.size then [] else if (trimB s).size = 0 then [] else if 1024 < (pcs s 44).length then [] else pcs s 44
theorem rwL_len (s : ByteArray) : (rwL s).length ≤ 1024 := by
  unfold rwL
  split
  · simp
  split
  · simp
  split
  · simp
  · omega
theorem rwL_sz (s : ByteArray) : ∀ x ∈ rwL s, x.size ≤ s.size := by
  intro x hx
  unfold rwL at hx
  split at hx
  · simp at hx
  split at hx
  · simp at hx
  split at hx
  · simp at hx
  · exact (pcs_sub s 44 x hx).2
theorem fld_row (p : ByteArray → Int) (s : ByteArray) : (if s.size ≤ 16777216 ∧ (trimB s).size = 0 then 0 else rowE p s 44 1024) = if rwE s ≠ 0 then rwE s else errOf p (rwL s) := by
  unfold rwE rwL rowE
  by_cases h1 : 16777216 < s.size
  · rw [if_neg (by omega), if_pos h1, if_pos h1, if_pos h1, if_pos (by decide)]
  · by_cases h2 : (trimB s).size = 0
    · rw [if_pos ⟨by omega, h2⟩, if_neg h1, if_pos h2, if_neg h1, if_pos h2, if_neg (by decide)]; rfl
    · by_cases h3 : 1024 < (pcs s 44).length
      · rw [if_neg (fun h => h2 h.2), if_neg h1, if_pos h3, if_neg h1, if_neg h2, if_pos h3, if_pos (by decide)]
      · rw [if_neg (fun h => h2 h.2), if_neg h1, if_neg h3, if_neg h1, if_neg h2, if_neg h3, if_neg h1, if_neg h2, if_neg h3, if_neg (by decide)]
theorem fld_list {α : Type} (f : ByteArray → α) (s : ByteArray) (h : rwE s = 0) : (if s.size ≤ 16777216 ∧ (trimB s).size = 0 then [] else (pcs s 44).map f) = (rwL s).map f := by
  unfold rwE at h
  unfold rwL
  by_cases h1 : 16777216 < s.size
  · rw [if_pos h1] at h; exact absurd h (by decide)
  · rw [if_neg h1] at h ⊢
    by_cases h2 : (trimB s).size = 0
    · rw [if_pos ⟨by omega, h2⟩, if_pos h2]; rfl
    · rw [if_neg h2] at h
      by_cases h3 : 1024 < (pcs s 44).length
      · rw [if_pos h3] at h; exact absurd h (by decide)
      · rw [if_neg (fun h => h2 h.2), if_neg h2, if_neg h3]

set_option maxHeartbeats 2000000 in
theorem rrow_any (s : ByteArray) (w : World) (hs : s.size ≤ 9223372036854775807) :
    Calls Tryd.prog 57 #[.string s] w fun e w' => (∃ v, e = .returned (.tuple #[v, .int .i64 (rwE s)]) ∧ Sts w' v (rwL s)) ∧ Below w.heap.size w w' := by
  by_cases h1 : 16777216 < s.size
  · have HE := hide (show rwE s = 2 by unfold rwE; rw [if_pos h1])
    have HL := hide (show rwL s = [] by unfold rwL; rw [if_pos h1])
    have h1' : ((16777216 : Int) < (s.size : Int)) := by omega
    clear h1 hs
    go_enter Tryd.func57, Tryd.ntmps57
    go_wp2_with fail
    go_ret2
    rw [unhide HE, unhide HL]
    exact ⟨⟨_, rfl, _, _, rfl, Nat.zero_le _, fun i hi => absurd hi (Nat.not_lt_zero _)⟩, Below.refl _ _⟩
  · have c1 := hide (fun w => rtrim_any s w (by unfold maxLen; omega))
    have h1' : ¬ ((16777216 : Int) < (s.size : Int)) := by omega
    have hb0 := hide (empty_beq (trimB s))
    by_cases h2 : (trimB s).size = 0
    · have HE := hide (show rwE s = 0 by unfold rwE; rw [if_neg h1, if_pos h2])
      have HL := hide (show rwL s = [] by unfold rwL; rw [if_neg h1, if_pos h2])
      have hbt : ((trimB s).toList == []) = true := by rw [unhide hb0]; exact decide_eq_true h2
      generalize trimB s = t at *
      clear h1 h2 hs hb0
      go_enter Tryd.func57, Tryd.ntmps57
      go_wp2_with (go_at_call 52; refine (unhide c1 _).mono ?_; rintro e w' ⟨rfl, rfl⟩)
      go_ret2
      rw [unhide HE, unhide HL]
      exact ⟨⟨_, rfl, _, _, rfl, Nat.zero_le _, fun i hi => absurd hi (Nat.not_lt_zero _)⟩, Below.refl _ _⟩
    · have hbt : ((trimB s).toList == []) = false := by rw [unhide hb0]; exact decide_eq_false h2
      have c2 := hide (fun w => rCut_any s 44 44 rfl w (by omega))
      have hpl : (pcs s 44).length ≤ 16777217 := by
        have hl := pcs_len s 44
        have hcl := Lib.countB_le ⟨#[44]⟩ (Nat.le_refl _) s.size s (Nat.le_refl _)
        omega
      have HE := hide (show rwE s = if 1024 < (pcs s 44).length then 24 else 0 by unfold rwE; rw [if_neg h1, if_neg h2])
      have HL := hide (show rwL s = if 1024 < (pcs s 44).length then [] else pcs s 44 by unfold rwL; rw [if_neg h1, if_neg h2])
      generalize trimB s = t at *
      generalize pcs s 44 = ps at *
      clear h1 h2 hs hb0
      by_cases h3 : 1024 < ps.length
      · have h3' : ((1024 : Int) < (ps.length : Int)) := by omega
        have HE2 := hide (show rwE s = 24 by rw [unhide HE, if_pos h3])
        have HL2 := hide (show rwL s = [] by rw [unhide HL, if_pos h3])
        clear h3 HE HL
        go_enter Tryd.func57, Tryd.ntmps57
        go_wp2_with (first | (go_at_call 52; refine (unhide c1 _).mono ?_; rintro e w' ⟨rfl, rfl⟩) | (go_at_call 61; refine (unhide c2 _).mono ?_; rintro e w2 ⟨⟨v, rfl, hown⟩, hb2⟩; have HO := hide hown; have HB2 := hide hb2; obtain ⟨va, vc, rfl⟩ := ownRow_shape hown; clear hown hb2))
        go_ret2
        rw [unhide HE2, unhide HL2]
        exact ⟨⟨_, rfl, _, _, rfl, Nat.zero_le _, fun i hi => absurd hi (Nat.not_lt_zero _)⟩, unhide HB2⟩
      · have h3' : ¬ ((1024 : Int) < (ps.length : Int)) := by omega
        have HE2 := hide (show rwE s = 0 by rw [unhide HE, if_neg h3])
        have HL2 := hide (show rwL s = ps by rw [unhide HL, if_neg h3])
        clear h3 HE HL
        go_enter Tryd.func57, Tryd.ntmps57
        go_wp2_with (first | (go_at_call 52; refine (unhide c1 _).mono ?_; rintro e w' ⟨rfl, rfl⟩) | (go_at_call 61; refine (unhide c2 _).mono ?_; rintro e w2 ⟨⟨v, rfl, hown⟩, hb2⟩; have HO := hide hown; have HB2 := hide hb2; obtain ⟨va, vc, rfl⟩ := ownRow_shape hown; clear hown hb2))
        go_ret2
        rw [unhide HE2, unhide HL2]
        exact ⟨⟨_, rfl, ownsRow_sts (unhide HO) hpl⟩, unhide HB2⟩

end Go.Proofs.YtfembjjpmjfklaaDoor
