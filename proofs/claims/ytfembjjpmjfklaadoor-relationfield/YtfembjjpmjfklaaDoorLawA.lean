import Derived.Test.YtfembjjpmjfklaaDoorRefF
import Derived.Test.YtfembjjpmjfklaaDoorRelO
import Derived.Test.YtfembjjpmjfklaaDoorSameB
namespace Go.Proofs.YtfembjjpmjfklaaDoor
open Go.RowKit

/-- WHAT IS HANDED OUT: nothing where there is an error. -/
def aL (s : ByteArray) : List Am := if afE s = 0 then afL s else []
def nL (s : ByteArray) : List ByteArray := if nfE s = 0 then nfL s else []
theorem OwnA.ams {b : Nat} {W : World} {v : Value} {al : List Am} (h : OwnA b W v al) (hL : al.length ≤ 16777217) : Ams W v al := ownsRow_ams h hL
theorem OwnS.sts {b : Nat} {W : World} {v : Value} {al : List ByteArray} (h : OwnS b W v al) (hL : al.length ≤ 16777217) : Sts W v al := ownsRow_sts h hL
theorem OwnA.later {b : Nat} {W W' : World} {v : Value} {al : List Am} (h : OwnA b W v al) (hb : Below W.heap.size W W') : OwnA b W' v al := ownsRow_below h hb
theorem OwnS.later {b : Nat} {W W' : World} {v : Value} {al : List ByteArray} (h : OwnS b W v al) (hb : Below W.heap.size W W') : OwnS b W' v al := ownsRow_below h hb

theorem ParseAtoms_u (s : ByteArray) (w : World) (hs : s.size ≤ 9223372036854775807) (ha : asc s) (hg : Glob w) :
    Calls Tryd.prog 16 #[.string s] w fun e w' => (∃ v, e = .returned (.tuple #[v, .int .i64 (afE s)]) ∧ OwnA w.heap.size w' v (aL s)) ∧ Below w.heap.size w w' := by
  refine (ParseAtoms_own s w hs ha hg).mono ?_
  rintro e w' ⟨⟨v, rfl, h1, h2, -⟩, hb⟩
  refine ⟨⟨v, rfl, ?_⟩, hb⟩
  unfold aL
  split
  · rename_i h; exact h1 h
  · rename_i h; rw [h2 h]; exact OwnA.nil _ _
theorem ParseNames_u (s : ByteArray) (w : World) (hs : s.size ≤ 9223372036854775807) (ha : asc s) (hg : Glob w) :
    Calls Tryd.prog 18 #[.string s] w fun e w' => (∃ v, e = .returned (.tuple #[v, .int .i64 (nfE s)]) ∧ OwnS w.heap.size w' v (nL s)) ∧ Below w.heap.size w w' := by
  refine (ParseNames_own s w hs ha hg).mono ?_
  rintro e w' ⟨⟨v, rfl, h1, h2, -⟩, hb⟩
  refine ⟨⟨v, rfl, ?_⟩, hb⟩
  unfold nL
  split
  · rename_i h; exact h1 h
  · rename_i h; rw [h2 h]; exact OwnS.nil _ _
theorem rParseAtoms_u (s : ByteArray) (w : World) (hs : s.size ≤ 9223372036854775807) :
    Calls Tryd.prog 17 #[.string s] w fun e w' => (∃ v, e = .returned (.tuple #[v, .int .i64 (afE s)]) ∧ Ams w' v (aL s) ∧ (∀ g, v.ownBlock = some g → w.heap.size ≤ g)) ∧ Below w.heap.size w w' := by
  refine (rParseAtoms_any s w hs).mono ?_
  rintro e w' ⟨⟨v, rfl, h1, h2, h3⟩, hb⟩
  refine ⟨⟨v, rfl, ?_, h3⟩, hb⟩
  unfold aL
  split
  · rename_i h; exact h1 h
  · rename_i h; rw [h2 h]; exact (OwnA.nil 0 _).ams (Nat.zero_le _)
theorem rParseNames_u (s : ByteArray) (w : World) (hs : s.size ≤ 9223372036854775807) :
    Calls Tryd.prog 19 #[.string s] w fun e w' => (∃ v, e = .returned (.tuple #[v, .int .i64 (nfE s)]) ∧ Sts w' v (nL s) ∧ (∀ g, v.ownBlock = some g → w.heap.size ≤ g)) ∧ Below w.heap.size w w' := by
  refine (rParseNames_any s w hs).mono ?_
  rintro e w' ⟨⟨v, rfl, h1, h2, h3⟩, hb⟩
  refine ⟨⟨v, rfl, ?_, h3⟩, hb⟩
  unfold nL
  split
  · rename_i h; exact h1 h
  · rename_i h; rw [h2 h]; exact (OwnS.nil 0 _).sts (Nat.zero_le _)

theorem aL_len (s : ByteArray) : (aL s).length ≤ 1024 := by
  unfold aL
  split
  · rename_i h
    have e : afE s = if rwE s ≠ 0 then rwE s else errOf (fun t => (parseA t).2) (rwL s) := fld_row _ s
    by_cases h0 : rwE s = 0
    · have : afL s = (rwL s).map (fun t => (parseA t).1) := fld_list _ s h0
      rw [this, List.length_map]
      exact rwL_len s
    · rw [if_pos h0] at e
      exact absurd (e.symm.trans h) h0
  · simp
theorem nL_len (s : ByteArray) : (nL s).length ≤ 1024 := by
  unfold nL
  split
  · rename_i h
    have e : nfE s = if rwE s ≠ 0 then rwE s else errOf (fun t => (rdN t).2) (rwL s) := fld_row _ s
    by_cases h0 : rwE s = 0
    · have : nfL s = (rwL s).map (fun t => (rdN t).1) := fld_list _ s h0
      rw [this, List.length_map]
      exact rwL_len s
    · rw [if_pos h0] at e
      exact absurd (e.symm.trans h) h0
  · simp

end Go.Proofs.YtfembjjpmjfklaaDoor
