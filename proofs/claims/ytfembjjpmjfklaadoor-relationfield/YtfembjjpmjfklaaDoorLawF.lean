import Derived.Test.YtfembjjpmjfklaaDoorWrt
namespace Go.Proofs.YtfembjjpmjfklaaDoor
open Go.RowKit

/-- WHAT IS HANDED OUT: nothing where there is an error. -/
def kL (s : ByteArray) : List Am := if clE s = 0 then clL s else []
def fL (s : ByteArray) : List (List Am) := if fdE s = 0 then fdL s else []
theorem ParseClause_u (s : ByteArray) (w : World) (hs : s.size ≤ 9223372036854775807) (ha : asc s) (hg : Glob w) :
    Calls Tryd.prog 23 #[.string s] w fun e w' => (∃ v, e = .returned (.tuple #[v, .int .i64 (clE s)]) ∧ OwnF w.heap.size w' v (kL s)) ∧ Below w.heap.size w w' := by
  refine (ParseClause_full s w hs ha hg).mono ?_
  rintro e w' ⟨⟨v, rfl, h1, h2, -⟩, hb⟩
  refine ⟨⟨v, rfl, ?_⟩, hb⟩
  unfold kL
  split
  · rename_i h; exact h1 h
  · rename_i h; rw [h2 h]; exact OwnF.nil _ _
theorem ParseField_u (s : ByteArray) (w : World) (hs : s.size ≤ 9223372036854775807) (ha : asc s) (hg : Glob w) :
    Calls Tryd.prog 8 #[.string s] w fun e w' => (∃ v vs, e = .returned (.tuple #[v, .int .i64 (fdE s)]) ∧ OwnC (fun g => w.heap.size ≤ g ∧ g < w'.heap.size) w.heap.size w' v vs (fL s)) ∧ Below w.heap.size w w' := by
  refine (ParseField_own s w hs ha hg).mono ?_
  rintro e w' ⟨⟨v, vs, rfl, h1, h2⟩, hb⟩
  by_cases h : fdE s = 0
  · exact ⟨⟨v, vs, rfl, by unfold fL; rw [if_pos h]; exact h1 h⟩, hb⟩
  · exact ⟨⟨v, [], rfl, by unfold fL; rw [if_neg h, h2 h]; exact OwnC.nil _ _ _⟩, hb⟩
theorem rParseClause_u (s : ByteArray) (w : World) (hs : s.size ≤ 9223372036854775807) :
    Calls Tryd.prog 24 #[.string s] w fun e w' => (∃ v, e = .returned (.tuple #[v, .int .i64 (clE s)]) ∧ Ams w' v (kL s) ∧ (∀ g, v.ownBlock = some g → w.heap.size ≤ g)) ∧ Below w.heap.size w w' := by
  refine (rParseClause_any s w hs).mono ?_
  rintro e w' ⟨⟨v, rfl, h1, h2, h3⟩, hb⟩
  refine ⟨⟨v, rfl, ?_, h3⟩, hb⟩
  unfold kL
  split
  · rename_i h; exact h1 h
  · rename_i h; rw [h2 h]; exact (OwnA.nil 0 _).ams (Nat.zero_le _)
theorem rParseField_u (s : ByteArray) (w : World) (hs : s.size ≤ 9223372036854775807) :
    Calls Tryd.prog 25 #[.string s] w fun e w' => (∃ v, e = .returned (.tuple #[v, .int .i64 (fdE s)]) ∧ ClsT (fun g => w.heap.size ≤ g ∧ g < w'.heap.size) w' v (fL s)) ∧ Below w.heap.size w w' := by
  refine (rParseField_own s w hs).mono ?_
  rintro e w' ⟨⟨v, rfl, h1, h2⟩, hb⟩
  refine ⟨⟨v, rfl, ?_⟩, hb⟩
  unfold fL
  split
  · rename_i h; exact (h1 h).bound
  · rename_i h; rw [h2 h]; exact ClsT.nil _ _

set_option maxRecDepth 100000 in
set_option maxHeartbeats 8000000 in
theorem relationField_walk (s : ByteArray) (w : World) (hs : s.size ≤ 9223372036854775807) (hg : Glob w) :
    Calls Tryd.prog 5 #[.string s] w fun e w' => e = .returned (.bool true) ∧ Below w.heap.size w w' := by
  have HG := hide hg
  have c1 := hide (fun w hg => ParseClause_u s w hs trivial hg)
  have c2 := hide (fun w => rParseClause_u s w hs)
  have c3 := hide (fun w hg => ParseField_u s w hs trivial hg)
  have c4 := hide (fun w => rParseField_u s w hs)
  generalize kL s = al at *
  generalize fL s = cl at *
  generalize clE s = ea at *
  generalize fdE s = en at *
  clear hg hs
  go_enter Tryd.func5, Tryd.ntmps5
  go_wp2_with fail
  refine (unhide c1 _ (unhide HG)).mono ?_
  rintro e w1 ⟨⟨va, rfl, hl⟩, hb1⟩
  obtain ⟨-, ⟨aa, rfl⟩, -⟩ := id hl
  have HA := hide hl
  have HB1 := hide hb1
  clear hl hb1
  go_wp2_with fail
  refine (unhide c1 _ ((unhide HG).later (unhide HB1))).mono ?_
  rintro e w2 ⟨⟨vb, rfl, hl⟩, hb2⟩
  have HBb := hide hl
  have HB2 := hide hb2
  clear hl hb2
  go_wp2_with fail
  refine (unhide c2 _).mono ?_
  rintro e w3 ⟨⟨vc, rfl, hl, hl2⟩, hb3⟩
  have HC := hide (And.intro hl hl2)
  have HB3 := hide hb3
  clear hl hl2 hb3
  go_wp2_with fail
  have HB13 := hide (bl_t (bl_t (unhide HB1) (unhide HB2)) (unhide HB3))
  refine (unhide c3 _ ((unhide HG).later (unhide HB13))).mono ?_
  rintro e w4 ⟨⟨vl, vs, rfl, hl⟩, hb4⟩
  have HL := hide hl
  have HB4 := hide hb4
  clear hl hb4
  go_wp2_with fail
  have HB14 := hide (bl_t (unhide HB13) (unhide HB4))
  refine (unhide c3 _ ((unhide HG).later (unhide HB14))).mono ?_
  rintro e w5 ⟨⟨vk, vks, rfl, hl⟩, hb5⟩
  have HK := hide hl.clsT
  have HB5 := hide hb5
  clear hl hb5
  go_wp2_with fail
  refine (unhide c4 _).mono ?_
  rintro e w6 ⟨⟨vm, rfl, hl⟩, hb6⟩
  have HM := hide hl
  have HB6 := hide hb6
  clear hl hb6
  have HB16 := hide (bl_t (bl_t (unhide HB14) (unhide HB5)) (unhide HB6))
  have HA6 := hide ((unhide HA).later (bl_t (bl_t (bl_t (bl_t (unhide HB2) (unhide HB3)) (unhide HB4)) (unhide HB5)) (unhide HB6)))
  have HC6 := hide ((unhide HC).1.later (bl_t (bl_t (unhide HB4) (unhide HB5)) (unhide HB6)))
  have HL6 := hide ((unhide HL).later (bl_t (unhide HB5) (unhide HB6)))
  have d1 := hide (sameClauseB al _ vc w6 (unhide HA6).ams (unhide HC6))
  have d2 := hide (fun w' (hb : Below w6.heap.size w6 w') => sameFieldB cl vl vm w' ((unhide HL6).later hb).clsT.cls ((unhide HM).later hb).cls)
  go_wp2_with fail
  refine (unhide d1).mono ?_
  rintro e w7 ⟨rfl, hb7⟩
  have HB7 := hide hb7
  clear hb7
  go_wp2_with fail
  refine (numA_any _ _).mono ?_
  rintro e w' ⟨rfl, rfl⟩
  go_wp2_with fail
  refine (unhide d2 _ (unhide HB7)).mono ?_
  rintro e w8 ⟨rfl, hb8⟩
  have HB8 := hide hb8
  clear hb8
  go_wp2_with fail
  refine (numA_any _ _).mono ?_
  rintro e w' ⟨rfl, rfl⟩
  have HB68 := hide (bl_t (unhide HB7) (unhide HB8))
  have s1 := (unhide HB1).size
  have s2 := (unhide HB2).size
  have s3 := (unhide HB3).size
  have s4 := (unhide HB4).size
  have s5 := (unhide HB5).size
  have s6 := (unhide HB6).size
  have s8 := (unhide HB68).size
  have HA8 := hide ((unhide HA6).later (unhide HB68))
  have HL8 := hide ((unhide HL6).later (unhide HB68))
  have HB8' := hide ((unhide HBb).later (bl_t (bl_t (bl_t (bl_t (unhide HB3) (unhide HB4)) (unhide HB5)) (unhide HB6)) (unhide HB68)))
  have HC8 := hide ((unhide HC6).later (unhide HB68))
  have HK8 := hide ((unhide HK).later (bl_t (unhide HB6) (unhide HB68)))
  have HM8 := hide ((unhide HM).later (unhide HB68))
  have HTa := hide (fun g (e : (Value.slice aa al.length al.length).ownBlock = some g) => World.ownsRow.lt (unhide HA).1 g e)
  have HTb := hide (fun g (e : vb.ownBlock = some g) => World.ownsRow.lt (unhide HBb).1 g e)
  have HTc := hide (fun (hl : 0 < al.length) g (e : vc.ownBlock = some g) => And.intro ((unhide HC).2 g e) ((unhide HC).1.blk0 hl e))
  have HB18 := hide (bl_t (unhide HB16) (unhide HB68))
  have HO := hide (OwnF.lit (unhide HA8) (unhide HB18).size (fun g => w.heap.size ≤ g ∧ g < w1.heap.size ∨ g = w'.heap.size) (fun g e => .inl (unhide HTa g e)) (.inr rfl))
  have f1 := hide (written_any _ _ _ _ _ _ (unhide HO))
  clear HA HA6 HA8 HL HL6 HBb HC HC6 HK HM d1 d2 c1 c2 c3 c4 HB1 HB2 HB3 HB4 HB5 HB6 HB7 HB8 HB13 HB14 HB16 HB68 HO HG
  go_wp2_with fail
  refine (unhide f1).mono ?_
  rintro e w9 ⟨rfl, hf9⟩
  have HF9 := hide (hf9.fromAlloc)
  clear hf9 f1
  have HL9 := hide ((unhide HL8).fr (unhide HF9) (fun g hg h => by rcases h with h | h <;> omega))
  have s9 := (unhide HF9).size
  have f2 := hide (written_any _ _ _ _ _ _ (unhide HL9))
  go_wp2_with fail
  refine (unhide f2).mono ?_
  rintro e w10 ⟨rfl, hf10⟩
  have HF10 := hide hf10
  clear hf10 f2
  have HB10 := hide ((unhide HF10).ams ((unhide HF9).ams (unhide HB8').ams (fun _ g e h => by have := unhide HTb g e; rcases h with h | h <;> omega)) (fun _ g e h => by have := unhide HTb g e; omega))
  have HC10 := hide ((unhide HF10).ams ((unhide HF9).ams (unhide HC8) (fun hl g e h => by have := unhide HTc hl g e; rcases h with h | h <;> omega)) (fun hl g e h => by have := unhide HTc hl g e; omega))
  have HK10 := hide (((unhide HK8).fr (unhide HF9) (fun g hg h => by rcases h with h | h <;> omega)).fr (unhide HF10) (fun g hg h => by omega))
  have HM10 := hide (((unhide HM8).fr (unhide HF9) (fun g hg h => by rcases h with h | h <;> omega)).fr (unhide HF10) (fun g hg h => by omega))
  have HBW := hide (((unhide HB18).trans ((unhide HF9).toBelow (unhide HB18).size (fun g h => by rcases h with h | h <;> omega))).trans ((unhide HF10).toBelow (B := w.heap.size) (by omega) (fun g h => by omega)))
  have d1 := hide (sameClauseB al vb vc w10 (unhide HB10) (unhide HC10))
  have d2 := hide (fun w' (hb : Below w10.heap.size w10 w') => sameFieldB cl vk vm w' ((unhide HK10).later hb).cls ((unhide HM10).later hb).cls)
  go_wp2_with fail
  refine (unhide d1).mono ?_
  rintro e w11 ⟨rfl, hb11⟩
  have HB11 := hide hb11
  clear hb11
  go_wp2_with fail
  refine (unhide d2 _ (unhide HB11)).mono ?_
  rintro e w12 ⟨rfl, hb12⟩
  have HB12 := hide (bl_t (bl_t (unhide HBW) (unhide HB11)) hb12)
  clear hb12
  go_wp2_with fail
  go_ret
  exact ⟨rfl, unhide HB12⟩

end Go.Proofs.YtfembjjpmjfklaaDoor
