import Derived.Test.YtfembjjpmjfklaaDoorRefS
namespace Go.Proofs.YtfembjjpmjfklaaDoor
open Go.RowKit

set_option maxRecDepth 100000 in
set_option maxHeartbeats 4000000 in
theorem rParseClause_any (s : ByteArray) (w : World) (hs : s.size ≤ 9223372036854775807) :
    Calls Tryd.prog 24 #[.string s] w fun e w' => (∃ v, e = .returned (.tuple #[v, .int .i64 (clE s)]) ∧ (clE s = 0 → Ams w' v (clL s)) ∧ (clE s ≠ 0 → v = .slice none 0 0) ∧ (∀ g, v.ownBlock = some g → w.heap.size ≤ g)) ∧ Below w.heap.size w w' := by
  by_cases h1 : 16777216 < s.size
  · have HF := hide (show clE s = 2 by unfold clE rowE; rw [if_pos h1])
    have h2 : ((16777216 : Int) < (s.size : Int)) := by omega
    clear h1 hs
    go_enter Tryd.func24, Tryd.ntmps24
    go_wp2_with fail
    go_ret2
    rw [unhide HF]
    exact ⟨⟨_, rfl, fun h => absurd h (by decide), fun _ => rfl, fun g h => by cases h⟩, Below.refl _ _⟩
  · have h1' : ¬ ((16777216 : Int) < (s.size : Int)) := by omega
    have c1 := hide (rCut_any s 124 124 rfl w (by omega))
    have hpl : (pcs s 124).length ≤ 16777217 := by
      have hl := pcs_len s 124
      have hcl := Lib.countB_le ⟨#[124]⟩ (Nat.le_refl _) s.size s (Nat.le_refl _)
      omega
    have HE := hide (show clE s = if 256 < (pcs s 124).length then 24 else errOf (fun t => (parseA t).2) (pcs s 124) by unfold clE rowE; rw [if_neg h1])
    have HZ := hide (show ∀ x ∈ pcs s 124, x.size ≤ s.size from fun x hx => (pcs_sub s 124 x hx).2)
    obtain ⟨ps, HPS⟩ : ∃ ps, Hid (pcs s 124 = ps) := ⟨_, hide rfl⟩
    rw [unhide HPS] at c1 hpl HE HZ
    obtain ⟨i0, hi, hz0, hz1, hz2⟩ := info_parts infoA
    by_cases h3 : 256 < ps.length
    · have h3' : ((256 : Int) < (ps.length : Int)) := by omega
      have HE2 := hide (show clE s = 24 by rw [unhide HE, if_pos h3])
      clear h3 HE h1
      go_enter Tryd.func24, Tryd.ntmps24
      go_wp2_with (go_at_call 61; refine (unhide c1).mono ?_; rintro e w2 ⟨⟨v, rfl, hown⟩, hb2⟩; have HB2 := hide hb2; obtain ⟨va, vc, rfl⟩ := ownRow_shape hown; clear hown hb2)
      go_ret2
      rw [unhide HE2]
      exact ⟨⟨_, rfl, fun h => absurd h (by decide), fun _ => rfl, fun g h => by cases h⟩, unhide HB2⟩
    · have h3' : ¬ ((256 : Int) < (ps.length : Int)) := by omega
      have HE2 := hide (show clE s = errOf (fun t => (parseA t).2) ps by rw [unhide HE, if_neg h3])
      have hlen : ps.length ≤ 1024 := by omega
      clear h3 HE h1
      go_enter Tryd.func24, Tryd.ntmps24
      go_wp2_with fail
      refine (unhide c1).mono ?_
      rintro e w1 ⟨⟨pv, rfl, hown⟩, hb1⟩
      have hst := ownsRow_sts hown hpl
      obtain ⟨va, vc, rfl⟩ := hst.shape
      have HS := hide hst
      have HB1 := hide hb1
      obtain ⟨N, hN⟩ : ∃ N : Nat, ps.length = N := ⟨_, rfl⟩
      rw [hN] at HS hlen h3' ⊢
      clear hst hb1 c1 hown hpl
      go_wp2_with fail
      go_loopw [5, 6] (fun v i wr => ∃ k : Nat, k ≤ N ∧ i = .int .i64 k ∧ Hid (wr.ownsRow w1.heap.size 34 3 v k ((ps.take k).flatMap fun t => amCells (parseA t).1)) ∧ Hid (Below w1.heap.size w1 wr) ∧ Hid (∀ j (h : j < ps.length), j < k → (parseA ps[j]).2 = 0)) (fun _ i _ => N - (intOf i).toNat)
      case atStart => exact ⟨0, Nat.zero_le _, rfl, hide (World.ownsRow_nil _ _ _ _), hide (Below.refl _ _), hide (fun j h hj => absurd hj (Nat.not_lt_zero _))⟩
      case round =>
        obtain ⟨k, hk, rfl, HO, HB, HZ0⟩ := hrel
        by_cases hlt : k < N
        · have hkl : k < ps.length := by omega
          obtain ⟨b, o, hva, hbl, hpc⟩ := ((unhide HS).later (unhide HB)).elem k hkl
          subst hva
          have hsz := unhide HZ ps[k] (List.getElem_mem hkl)
          have hbz := hide (unhide HB).size
          have HT := hide (show (ps.take (k + 1)).flatMap (fun t => amCells (parseA t).1) = (ps.take k).flatMap (fun t => amCells (parseA t).1) ++ amCells (parseA ps[k]).1 by rw [List.take_succ_eq_append_getElem hkl, List.flatMap_append]; simp)
          have HEA := hide (fun hn : (parseA ps[k]).2 ≠ 0 => errOf_at (fun t => (parseA t).2) ps k hkl (fun j hj hjk => unhide HZ0 j hj hjk) hn)
          have HZ' := hide (fun (h0 : (parseA ps[k]).2 = 0) => upto_nx (fun t => (parseA t).2 = 0) ps k hkl (unhide HZ0) h0)
          generalize ps[k] = t at *
          have c3 := hide (fun (w' : World) => rParseAtom_any t w' (by unfold maxLen; omega))
          rcases hp : parseA t with ⟨⟨an, ao, av⟩, e1⟩
          rw [hp] at c3 HT HEA HZ'
          simp only [amV] at c3
          simp only at HEA HZ'
          clear hp hsz HZ0
          by_cases he : e1 = 0
          · subst he
            go_wp2_with fail
            refine (unhide c3 _).mono ?_
            rintro e w4 ⟨rfl, hb4⟩
            have HO4 := hide (ownsRow_below (unhide HO) hb4)
            have HB4 := hide ((unhide HB).trans (hb4.mono (unhide HB).size))
            have hq4 := (unhide HB4).size
            clear hb4
            go_wp2_with (first | (at_builtin; go_must (refine wpList_append_own _ rfl _ _ 52 rfl w1.heap.size 34 i0 (.agg #[.string ⟨#[]⟩, .int .i64 0, .string ⟨#[]⟩]) 3 40 Tryd.underlying52 hi hz0 hz1 hz2 rfl (by decide) _ _ _ rfl (((unhide HO4).alloc _).alloc _) _ 1 1 [.string an, .int .i64 ao, .string av] rfl rfl (by simpa using cells3_new (w4.alloc _) _ _ _ _) (by simp [Value.oneCell']) (by unfold maxLen; omega) (by omega) (by simp; omega) ?_); intro v' w5 hown5 hgrow5 _))
            have HO5 := hide (show w5.ownsRow w1.heap.size 34 3 v' (k + 1) ((ps.take (k + 1)).flatMap fun t => amCells (parseA t).1) by rw [unhide HT]; exact hown5)
            have HB5 := hide ((((unhide HB4).alloc hq4 _).alloc (by simp; omega) _).grown hgrow5 (by simp; omega) (ownRow_own (unhide HO4)))
            clear hown5 hgrow5
            go_wp2_with fail
            go_roundw
            case rel => exact ⟨k + 1, by omega, by go_num, HO5, HB5, hide (unhide HZ' (by first | trivial | rfl))⟩
            case measure => simp [intOf]; omega
          · have he' : (e1 == 0) = false := by simpa using he
            have HEA' := hide ((unhide HE2).trans (unhide HEA he))
            go_wp2_with fail
            refine (unhide c3 _).mono ?_
            rintro e w4 ⟨rfl, hb4⟩
            have HB4 := hide ((unhide HB1).trans (((unhide HB).trans (hb4.mono (unhide HB).size)).mono (unhide HB1).size))
            have hq4 := (unhide HB4).size
            have HN := hide he
            clear hb4 he
            go_wp2_with fail
            go_ret2
            rw [unhide HEA']
            exact ⟨⟨_, rfl, fun h => absurd h (unhide HN), fun _ => rfl, fun g h => by cases h⟩, (unhide HB4).alloc hq4 _⟩
        · obtain rfl : k = N := by omega
          have HE3 := hide ((unhide HE2).trans (errOf_none (fun t => (parseA t).2) ps (fun j hj => unhide HZ0 j hj (by omega))))
          obtain ⟨va2, vc2, hve⟩ := ownRow_shape (unhide HO)
          have HM := hide (ownsRow_ams (al := ps.map fun t => (parseA t).1) (by have h := unhide HO; rw [List.take_of_length_le (by omega)] at h; rw [List.flatMap_map, List.length_map, hN]; exact h) (by rw [List.length_map]; omega))
          clear hve
          go_wp2_with fail
          go_ret2
          rw [unhide HE3]; unfold clL; rw [unhide HPS]
          exact ⟨⟨_, rfl, fun _ => unhide HM, fun h => absurd rfl h, fun g h => Nat.le_trans (unhide HB1).size (ownRow_own (unhide HO) g h)⟩, (unhide HB1).trans ((unhide HB).mono (unhide HB1).size)⟩

end Go.Proofs.YtfembjjpmjfklaaDoor
