import Derived.Test.YtfembjjpmjfklaaDoorRefR
namespace Go.Proofs.YtfembjjpmjfklaaDoor
open Go.RowKit

theorem Sts.shape {w : World} {v : Value} {L : List ByteArray} (h : Sts w v L) : ∃ a c, v = .slice a L.length c := by
  obtain ⟨a, c, e, _⟩ := h
  exact ⟨a, c, e⟩

set_option maxRecDepth 100000 in
set_option maxHeartbeats 4000000 in
theorem rParseAtoms_any (s : ByteArray) (w : World) (hs : s.size ≤ 9223372036854775807) :
    Calls Tryd.prog 17 #[.string s] w fun e w' => (∃ v, e = .returned (.tuple #[v, .int .i64 (afE s)]) ∧ (afE s = 0 → Ams w' v (afL s)) ∧ (afE s ≠ 0 → v = .slice none 0 0) ∧ (∀ g, v.ownBlock = some g → w.heap.size ≤ g)) ∧ Below w.heap.size w w' := by
  have c1 := hide (rrow_any s w hs)
  have HE := hide (show afE s = if rwE s ≠ 0 then rwE s else errOf (fun t => (parseA t).2) (rwL s) from fld_row _ s)
  have HL := hide (show rwE s = 0 → afL s = (rwL s).map (fun t => (parseA t).1) from fld_list _ s)
  have hlen := rwL_len s
  have HZ := hide (rwL_sz s)
  generalize rwE s = e0 at *
  generalize rwL s = ps at *
  obtain ⟨i0, hi, hz0, hz1, hz2⟩ := info_parts infoA
  by_cases he : e0 = 0
  · subst he
    have HE2 := hide (show afE s = errOf (fun t => (parseA t).2) ps by rw [unhide HE, if_neg (by simp)])
    have HL2 := hide (unhide HL rfl)
    clear HE HL
    go_enter Tryd.func17, Tryd.ntmps17
    go_wp2_with fail
    refine (unhide c1).mono ?_
    rintro e w1 ⟨⟨pv, rfl, hst⟩, hb1⟩
    obtain ⟨va, vc, rfl⟩ := hst.shape
    have HS := hide hst
    have HB1 := hide hb1
    obtain ⟨N, hN⟩ : ∃ N : Nat, ps.length = N := ⟨_, rfl⟩
    rw [hN] at HS hlen ⊢
    clear hst hb1 c1
    go_wp2_with fail
    go_loopw [6, 7] (fun v i wr => ∃ k : Nat, k ≤ N ∧ i = .int .i64 k ∧ Hid (wr.ownsRow w1.heap.size 34 3 v k ((ps.take k).flatMap fun t => amCells (parseA t).1)) ∧ Hid (Below w1.heap.size w1 wr) ∧ Hid (∀ j (h : j < ps.length), j < k → (parseA ps[j]).2 = 0)) (fun _ i _ => N - (intOf i).toNat)
    case atStart => exact ⟨0, Nat.zero_le _, rfl, hide (World.ownsRow_nil _ _ _ _), hide (Below.refl _ _), hide (fun j h hj => absurd hj (Nat.not_lt_zero _))⟩
    case round =>
      obtain ⟨k, hk, rfl, HO, HB, HZ0⟩ := hrel
      by_cases hlt : k < N
      · have hkl : k < ps.length := by omega
        obtain ⟨b, o, hva, hbl, hpc⟩ := ((unhide HS).later (unhide HB)).elem k hkl
        subst hva
        have hsz := unhide HZ ps[k] (List.getElem_mem hkl)
        have hbz := hide (unhide HB).size
        have HT := hide (show (ps.take (k + 1)).flatMap (fun t => amCells (parseA t).1) = (ps.take k).flatMap (fun t => amCells (parseA t).1) ++ amCells (parseA ps[k]).1 by rw [List.take_succ_eq_append_getElem hkl, List.flatMap_append]; simp)
        have HEA := hide (fun hn : (parseA ps[k]).2 ≠ 0 => errOf_at (fun t => (parseA t).2) ps k hkl (fun j hj hjk => unhide HZ0 j hj hjk) hn)
        have HZ' := hide (fun (h0 : (parseA ps[k]).2 = 0) => upto_nx (fun t => (parseA t).2 = 0) ps k hkl (unhide HZ0) h0)
        generalize ps[k] = t at *
        have c3 := hide (fun (w' : World) => rParseAtom_any t w' (by unfold maxLen; omega))
        rcases hp : parseA t with ⟨⟨an, ao, av⟩, e1⟩
        rw [hp] at c3 HT HEA HZ'
        simp only [amV] at c3
        simp only at HEA HZ'
        clear hp hsz HZ0
        by_cases he : e1 = 0
        · subst he
          go_wp2_with fail
          refine (unhide c3 _).mono ?_
          rintro e w4 ⟨rfl, hb4⟩
          have HO4 := hide (ownsRow_below (unhide HO) hb4)
          have HB4 := hide ((unhide HB).trans (hb4.mono (unhide HB).size))
          have hq4 := (unhide HB4).size
          clear hb4
          go_wp2_with (first | (at_builtin; go_must (refine wpList_append_own _ rfl _ _ 39 rfl w1.heap.size 34 i0 (.agg #[.string ⟨#[]⟩, .int .i64 0, .string ⟨#[]⟩]) 3 40 Tryd.underlying39 hi hz0 hz1 hz2 rfl (by decide) _ _ _ rfl (((unhide HO4).alloc _).alloc _) _ 1 1 [.string an, .int .i64 ao, .string av] rfl rfl (by simpa using cells3_new (w4.alloc _) _ _ _ _) (by simp [Value.oneCell']) (by unfold maxLen; omega) (by omega) (by simp; omega) ?_); intro v' w5 hown5 hgrow5 _))
          have HO5 := hide (show w5.ownsRow w1.heap.size 34 3 v' (k + 1) ((ps.take (k + 1)).flatMap fun t => amCells (parseA t).1) by rw [unhide HT]; exact hown5)
          have HB5 := hide ((((unhide HB4).alloc hq4 _).alloc (by simp; omega) _).grown hgrow5 (by simp; omega) (ownRow_own (unhide HO4)))
          clear hown5 hgrow5
          go_wp2_with fail
          go_roundw
          case rel => exact ⟨k + 1, by omega, by go_num, HO5, HB5, hide (unhide HZ' (by first | trivial | rfl))⟩
          case measure => simp [intOf]; omega
        · have he' : (e1 == 0) = false := by simpa using he
          have HEA' := hide ((unhide HE2).trans (unhide HEA he))
          go_wp2_with fail
          refine (unhide c3 _).mono ?_
          rintro e w4 ⟨rfl, hb4⟩
          have HB4 := hide ((unhide HB1).trans (((unhide HB).trans (hb4.mono (unhide HB).size)).mono (unhide HB1).size))
          have hq4 := (unhide HB4).size
          have HN := hide he
          clear hb4 he
          go_wp2_with fail
          go_ret2
          rw [unhide HEA']
          exact ⟨⟨_, rfl, fun h => absurd h (unhide HN), fun _ => rfl, fun g h => by cases h⟩, (unhide HB4).alloc hq4 _⟩
      · obtain rfl : k = N := by omega
        have HE3 := hide ((unhide HE2).trans (errOf_none (fun t => (parseA t).2) ps (fun j hj => unhide HZ0 j hj (by omega))))
        obtain ⟨va2, vc2, hve⟩ := ownRow_shape (unhide HO)
        have HM := hide (ownsRow_ams (al := ps.map fun t => (parseA t).1) (by have h := unhide HO; rw [List.take_of_length_le (by omega)] at h; rw [List.flatMap_map, List.length_map, hN]; exact h) (by rw [List.length_map]; omega))
        clear hve
        go_wp2_with fail
        go_ret2
        rw [unhide HE3, unhide HL2]
        exact ⟨⟨_, rfl, fun _ => unhide HM, fun h => absurd rfl h, fun g h => Nat.le_trans (unhide HB1).size (ownRow_own (unhide HO) g h)⟩, (unhide HB1).trans ((unhide HB).mono (unhide HB1).size)⟩
  · have HE2 := hide (show afE s = e0 by rw [unhide HE, if_pos he])
    have he' : (e0 == 0) = false := by simpa using he
    have HN := hide he
    clear he HE HL
    go_enter Tryd.func17, Tryd.ntmps17
    go_wp2_with fail
    refine (unhide c1).mono ?_
    rintro e w1 ⟨⟨pv, rfl, hst⟩, hb1⟩
    have HB1 := hide hb1
    clear hst hb1 c1
    go_wp2_with fail
    go_ret2
    rw [unhide HE2]
    exact ⟨⟨_, rfl, fun h => absurd h (unhide HN), fun _ => rfl, fun g h => by cases h⟩, unhide HB1⟩

set_option maxRecDepth 100000 in
set_option maxHeartbeats 4000000 in
theorem rParseNames_any (s : ByteArray) (w : World) (hs : s.size ≤ 9223372036854775807) :
    Calls Tryd.prog 19 #[.string s] w fun e w' => (∃ v, e = .returned (.tuple #[v, .int .i64 (nfE s)]) ∧ (nfE s = 0 → Sts w' v (nfL s)) ∧ (nfE s ≠ 0 → v = .slice none 0 0) ∧ (∀ g, v.ownBlock = some g → w.heap.size ≤ g)) ∧ Below w.heap.size w w' := by
  have c1 := hide (rrow_any s w hs)
  have HE := hide (show nfE s = if rwE s ≠ 0 then rwE s else errOf (fun t => (rdN t).2) (rwL s) from fld_row _ s)
  have HL := hide (show rwE s = 0 → nfL s = (rwL s).map (fun t => (rdN t).1) from fld_list _ s)
  have hlen := rwL_len s
  have HZ := hide (rwL_sz s)
  generalize rwE s = e0 at *
  generalize rwL s = ps at *
  obtain ⟨i0, hi, hz0, hz1, hz2⟩ := info_parts info9c
  by_cases he : e0 = 0
  · subst he
    have HE2 := hide (show nfE s = errOf (fun t => (rdN t).2) ps by rw [unhide HE, if_neg (by simp)])
    have HL2 := hide (unhide HL rfl)
    clear HE HL
    go_enter Tryd.func19, Tryd.ntmps19
    go_wp2_with fail
    refine (unhide c1).mono ?_
    rintro e w1 ⟨⟨pv, rfl, hst⟩, hb1⟩
    obtain ⟨va, vc, rfl⟩ := hst.shape
    have HS := hide hst
    have HB1 := hide hb1
    obtain ⟨N, hN⟩ : ∃ N : Nat, ps.length = N := ⟨_, rfl⟩
    rw [hN] at HS hlen ⊢
    clear hst hb1 c1
    go_wp2_with fail
    go_loopw [6, 7] (fun v i wr => ∃ k : Nat, k ≤ N ∧ i = .int .i64 k ∧ Hid (wr.ownsRow w1.heap.size 9 1 v k ((ps.take k).map fun t => Value.string (rdN t).1)) ∧ Hid (Below w1.heap.size w1 wr) ∧ Hid (∀ j (h : j < ps.length), j < k → (rdN ps[j]).2 = 0)) (fun _ i _ => N - (intOf i).toNat)
    case atStart => exact ⟨0, Nat.zero_le _, rfl, hide (World.ownsRow_nil _ _ _ _), hide (Below.refl _ _), hide (fun j h hj => absurd hj (Nat.not_lt_zero _))⟩
    case round =>
      obtain ⟨k, hk, rfl, HO, HB, HZ0⟩ := hrel
      by_cases hlt : k < N
      · have hkl : k < ps.length := by omega
        obtain ⟨b, o, hva, hbl, hpc⟩ := ((unhide HS).later (unhide HB)).elem k hkl
        subst hva
        have hsz := unhide HZ ps[k] (List.getElem_mem hkl)
        have hbz := (unhide HB).size
        have HT := hide (show (ps.take (k + 1)).map (fun t => Value.string (rdN t).1) = (ps.take k).map (fun t => Value.string (rdN t).1) ++ [Value.string (rdN ps[k]).1] by rw [List.take_succ_eq_append_getElem hkl, List.map_append]; rfl)
        have HEA := hide (fun hn : (rdN ps[k]).2 ≠ 0 => errOf_at (fun t => (rdN t).2) ps k hkl (fun j hj hjk => unhide HZ0 j hj hjk) hn)
        have HZ' := hide (fun (h0 : (rdN ps[k]).2 = 0) => upto_nx (fun t => (rdN t).2 = 0) ps k hkl (unhide HZ0) h0)
        generalize ps[k] = t at *
        have hts := trimB_size t
        have c3 := hide (fun (w' : World) => rtrim_any t w' (by unfold maxLen; omega))
        have c4 := hide (fun (w' : World) => rCheckName_any (trimB t) w' (by unfold maxLen; omega))
        have HD := hide (show rdN t = if okName (trimB t) = false then (nob, 20) else (trimB t, 0) from rfl)
        generalize trimB t = n at *
        clear hsz HZ0 hts
        cases hok : okName n
        · have HR := hide (show rdN t = (nob, 20) by rw [unhide HD, if_pos hok])
          rw [unhide HR] at HT HEA HZ'
          have HEA' := hide ((unhide HE2).trans (unhide HEA (by decide)))
          have c4' := hide (fun w => (ckName_no _ hok) ▸ unhide c4 w)
          have HB4 := hide ((unhide HB1).trans ((unhide HB).mono (unhide HB1).size))
          clear hok c4 HD HEA HT HZ'
          go_wp2_with (first | (go_at_call 52; refine (unhide c3 _).mono ?_; rintro e w' ⟨rfl, rfl⟩) | (go_at_call 54; refine (unhide c4' _).mono ?_; rintro e w' ⟨rfl, rfl⟩))
          go_ret2
          rw [unhide HEA']
          exact ⟨⟨_, rfl, fun h => absurd h (by decide), fun _ => rfl, fun g h => by cases h⟩, unhide HB4⟩
        · have HR := hide (show rdN t = (n, 0) by rw [unhide HD, if_neg (by simp [hok])])
          rw [unhide HR] at HT HEA HZ'
          simp only at HT
          have c4' := hide (fun w => (ckName_yes _ hok) ▸ unhide c4 w)
          clear hok c4 HD HEA
          go_wp2_with (first | (go_at_call 52; refine (unhide c3 _).mono ?_; rintro e w' ⟨rfl, rfl⟩) | (go_at_call 54; refine (unhide c4' _).mono ?_; rintro e w' ⟨rfl, rfl⟩) | (at_builtin; go_must (refine wpList_append_own _ rfl _ _ 44 rfl w1.heap.size 9 i0 (.string ⟨#[]⟩) 1 16 Tryd.underlying44 hi hz0 hz1 hz2 rfl (by decide) _ _ _ rfl ((unhide HO).alloc _) _ 1 1 [.string n] rfl rfl (by simpa using cells1_new _ _ _) (by simp [Value.oneCell']) (by unfold maxLen; omega) (by omega) (by simp; omega) ?_); intro v' w5 hown5 hgrow5 _))
          have HO5 := hide (show w5.ownsRow w1.heap.size 9 1 v' (k + 1) ((ps.take (k + 1)).map fun t => Value.string (rdN t).1) by rw [unhide HT]; exact hown5)
          have HB5 := hide (((unhide HB).alloc hbz _).grown hgrow5 (by simp; omega) (ownRow_own (unhide HO)))
          clear hown5 hgrow5
          go_wp2_with fail
          go_roundw
          case rel => exact ⟨k + 1, by omega, by go_num, HO5, HB5, hide (unhide HZ' (by first | trivial | rfl))⟩
          case measure => simp [intOf]; omega
      · obtain rfl : k = N := by omega
        have HE3 := hide ((unhide HE2).trans (errOf_none (fun t => (rdN t).2) ps (fun j hj => unhide HZ0 j hj (by omega))))
        have HM := hide (ownsRow_sts (L := ps.map fun t => (rdN t).1) (by have h := unhide HO; rw [List.take_of_length_le (by omega)] at h; rw [List.map_map, List.length_map, hN]; exact h) (by rw [List.length_map]; omega))
        go_wp2_with fail
        go_ret2
        rw [unhide HE3, unhide HL2]
        exact ⟨⟨_, rfl, fun _ => unhide HM, fun h => absurd rfl h, fun g h => Nat.le_trans (unhide HB1).size (ownRow_own (unhide HO) g h)⟩, (unhide HB1).trans ((unhide HB).mono (unhide HB1).size)⟩
  · have HE2 := hide (show nfE s = e0 by rw [unhide HE, if_pos he])
    have he' : (e0 == 0) = false := by simpa using he
    have HN := hide he
    clear he HE HL
    go_enter Tryd.func19, Tryd.ntmps19
    go_wp2_with fail
    refine (unhide c1).mono ?_
    rintro e w1 ⟨⟨pv, rfl, hst⟩, hb1⟩
    have HB1 := hide hb1
    clear hst hb1 c1
    go_wp2_with fail
    go_ret2
    rw [unhide HE2]
    exact ⟨⟨_, rfl, fun h => absurd h (unhide HN), fun _ => rfl, fun g h => by cases h⟩, unhide HB1⟩

end Go.Proofs.YtfembjjpmjfklaaDoor
