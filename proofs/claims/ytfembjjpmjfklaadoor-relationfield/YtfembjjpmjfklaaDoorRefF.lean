import Derived.Test.YtfembjjpmjfklaaDoorRefL
import Derived.Maps.AppendAt
namespace Go.Proofs.YtfembjjpmjfklaaDoor
open Go.RowKit

theorem Ams.grownO {w w' : World} {v : Value} {al : List Am} {row : Option Nat} (h : Ams w v al) (hg : w.grownBy w' row) (hne : al ≠ [] → ∀ g, v.ownBlock = some g → g < w.heap.size → some g ≠ row) : Ams w' v al := by
  obtain ⟨a, c, rfl, h2, h3⟩ := h
  refine ⟨a, c, rfl, h2, fun i hi => ?_⟩
  obtain ⟨b, o, rfl, e2, e3, e4, e5⟩ := h3 i hi
  have hb : some b ≠ row := hne (fun e => by rw [e] at hi; exact absurd hi (Nat.not_lt_zero _)) b rfl e2
  exact ⟨b, o, rfl, Nat.lt_of_lt_of_le e2 hg.size, hg.cell e3 hb, hg.cell e4 hb, hg.cell e5 hb⟩
theorem Ams.blk {w : World} {v : Value} {al : List Am} (h : Ams w v al) (hne : al ≠ []) {g : Nat} (hg : v.ownBlock = some g) : g < w.heap.size := by
  obtain ⟨a, c, rfl, h2, h3⟩ := h
  obtain ⟨b, o, rfl, e2, _⟩ := h3 0 (List.length_pos_iff.2 hne)
  cases hg
  exact e2

/-- THESE VALUES ARE SLICES OF THESE ATOMS, none of them in the block of v. -/
def Cvw (W : World) (v : Value) (vs : List Value) (cl : List (List Am)) : Prop := vs.length = cl.length ∧ ∀ i (h : i < cl.length), ∃ x, vs[i]? = some x ∧ Ams W x cl[i] ∧ (cl[i] ≠ [] → ∀ g, x.ownBlock = some g → v.ownBlock ≠ some g)
theorem Cvw.later {w w' : World} {v : Value} {vs : List Value} {cl : List (List Am)} (h : Cvw w v vs cl) (hb : Below w.heap.size w w') : Cvw w' v vs cl :=
  ⟨h.1, fun i hi => by obtain ⟨x, h1, h2, h3⟩ := h.2 i hi; exact ⟨x, h1, h2.later hb, h3⟩⟩
theorem Cvw.grown {w w' : World} {v v' : Value} {vs : List Value} {cl : List (List Am)} (h : Cvw w v vs cl) (hg : w.grownBy w' v.ownBlock) (hv : v'.ownBlock = v.ownBlock ∨ v'.ownBlock = some w.heap.size) : Cvw w' v' vs cl :=
  ⟨h.1, fun i hi => by
    obtain ⟨x, h1, h2, h3⟩ := h.2 i hi
    refine ⟨x, h1, h2.grownO hg (fun hne g e _ he => h3 hne g e he.symm), fun hne g e => ?_⟩
    rcases hv with hv | hv
    · rw [hv]; exact h3 hne g e
    · rw [hv]
      have := h2.blk hne e
      intro he
      have := Option.some.inj he
      omega⟩
theorem Cvw.put {w : World} {v : Value} {vs : List Value} {cl : List (List Am)} {x : Value} {c : List Am} (h : Cvw w v vs cl) (hx : Ams w x c) (hl : ∀ g, x.ownBlock = some g → v.ownBlock ≠ some g) : Cvw w v (vs ++ [x]) (cl ++ [c]) := by
  refine ⟨by simp [h.1], fun i hi => ?_⟩
  by_cases hlt : i < cl.length
  · obtain ⟨y, h1, h2, h3⟩ := h.2 i hlt
    exact ⟨y, by rw [List.getElem?_append_left (by rw [h.1]; exact hlt)]; exact h1, by rw [List.getElem_append_left hlt]; exact h2, by rw [List.getElem_append_left hlt]; exact h3⟩
  · obtain rfl : i = cl.length := by simp at hi; omega
    exact ⟨x, by rw [List.getElem?_append_right (by rw [h.1]; exact Nat.le_refl _), h.1]; simp, by simpa using hx, fun _ => hl⟩
theorem Cvw.cls {W : World} {base : Nat} {v : Value} {vs : List Value} {cl : List (List Am)} (h : W.ownsRow base 52 1 v cl.length vs) (hv : Cvw W v vs cl) (hL : cl.length ≤ 16777217) : Cls W v cl := by
  have h0 := h
  rcases h.2 with ⟨rfl, e⟩ | ⟨g, cap, cur, rfl, _⟩
  · exact ⟨_, _, by rw [e], by omega, fun i hi => absurd hi (by omega)⟩
  · refine ⟨_, _, rfl, by omega, fun i hi => ?_⟩
    obtain ⟨x, h1, h2, -⟩ := hv.2 i hi
    have := h0.cells (g := g) rfl i _ h1
    rw [Go.WideShapes.add_plain] at this
    exact ⟨g, 0, x, rfl, (h0.lt _ rfl).2, this, h2⟩

set_option maxRecDepth 100000 in
set_option maxHeartbeats 4000000 in
theorem rParseField_any (s : ByteArray) (w : World) (hs : s.size ≤ 9223372036854775807) :
    Calls Tryd.prog 25 #[.string s] w fun e w' => (∃ v, e = .returned (.tuple #[v, .int .i64 (fdE s)]) ∧ (fdE s = 0 → Cls w' v (fdL s)) ∧ (fdE s ≠ 0 → v = .slice none 0 0) ∧ (∀ g, v.ownBlock = some g → w.heap.size ≤ g)) ∧ Below w.heap.size w w' := by
  have c1 := hide (rrow_any s w hs)
  have HE := hide (show fdE s = if rwE s ≠ 0 then rwE s else errOf clE (rwL s) from fld_row _ s)
  have HL := hide (show rwE s = 0 → fdL s = (rwL s).map clL from fld_list _ s)
  have hlen := rwL_len s
  have HZ := hide (rwL_sz s)
  generalize rwE s = e0 at *
  generalize rwL s = ps at *
  obtain ⟨i0, hi, hz0, hz1, hz2⟩ := info_parts infoC
  by_cases he : e0 = 0
  · subst he
    have HE2 := hide (show fdE s = errOf clE ps by rw [unhide HE, if_neg (by simp)])
    have HL2 := hide (unhide HL rfl)
    clear HE HL
    go_enter Tryd.func25, Tryd.ntmps25
    go_wp2_with fail
    refine (unhide c1).mono ?_
    rintro e w1 ⟨⟨pv, rfl, hst⟩, hb1⟩
    obtain ⟨va, vc, rfl⟩ := hst.shape
    have HS := hide hst
    have HB1 := hide hb1
    obtain ⟨N, hN⟩ : ∃ N : Nat, ps.length = N := ⟨_, rfl⟩
    rw [hN] at HS hlen ⊢
    clear hst hb1 c1
    go_wp2_with fail
    go_loopw [6, 7] (fun v i wr => ∃ (k : Nat) (vs : List Value), k ≤ N ∧ i = .int .i64 k ∧ Hid (wr.ownsRow w1.heap.size 52 1 v k vs) ∧ Hid (Cvw wr v vs ((ps.take k).map clL)) ∧ Hid (Below w1.heap.size w1 wr) ∧ Hid (∀ j (h : j < ps.length), j < k → clE ps[j] = 0)) (fun _ i _ => N - (intOf i).toNat)
    case atStart => exact ⟨0, [], Nat.zero_le _, rfl, hide (World.ownsRow_nil _ _ _ _), hide ⟨rfl, fun i h => absurd h (Nat.not_lt_zero _)⟩, hide (Below.refl _ _), hide (fun j h hj => absurd hj (Nat.not_lt_zero _))⟩
    case round =>
      obtain ⟨k, vs, hk, rfl, HO, HV, HB, HZ0⟩ := hrel
      by_cases hlt : k < N
      · have hkl : k < ps.length := by omega
        obtain ⟨b, o, hva, hbl, hpc⟩ := ((unhide HS).later (unhide HB)).elem k hkl
        subst hva
        have hsz := unhide HZ ps[k] (List.getElem_mem hkl)
        have HT := hide (show (ps.take (k + 1)).map clL = (ps.take k).map clL ++ [clL ps[k]] by rw [List.take_succ_eq_append_getElem hkl, List.map_append]; rfl)
        have HEA := hide (fun hn : clE ps[k] ≠ 0 => errOf_at clE ps k hkl (fun j hj hjk => unhide HZ0 j hj hjk) hn)
        have HZ' := hide (fun (h0 : clE ps[k] = 0) => upto_nx (fun t => clE t = 0) ps k hkl (unhide HZ0) h0)
        generalize ps[k] = t at *
        have c3 := hide (fun (w' : World) => rParseClause_any t w' (by omega))
        clear hsz HZ0
        by_cases he : clE t = 0
        · rw [he] at c3
          have HE9 := hide he
          clear he
          go_wp2_with fail
          refine (unhide c3 _).mono ?_
          rintro e w4 ⟨⟨x, rfl, hx, -, hfr⟩, hb4⟩
          have HX := hide (hx (by first | trivial | rfl))
          have HO4 := hide (ownsRow_below (unhide HO) hb4)
          have HB4 := hide ((unhide HB).trans (hb4.mono (unhide HB).size))
          have hq4 := (unhide HB4).size
          have HV4 := hide (((unhide HV).later hb4).put (unhide HX) (fun g e1 e2 => by
            have h1 := hfr g e1
            have h2 := ((unhide HO).lt g e2).2
            omega))
          obtain ⟨xa, xc, rfl, -⟩ := unhide HX
          clear hb4 hx hfr
          go_wp2_with (first | (at_builtin; go_must (refine wpList_append_own_at _ rfl _ _ 22 rfl w1.heap.size 52 i0 (.slice none 0 0) 1 24 Tryd.underlying22 hi hz0 hz1 hz2 rfl (by decide) _ _ _ rfl ((unhide HO4).alloc _) _ 1 1 [.slice xa (clL t).length xc] rfl rfl (by simpa using cells1_new w4 _ _) (by simp [Value.oneCell']) (by unfold maxLen; omega) (by omega) (by simp; omega) ?_); intro v' w5 hown5 hgrow5 _ hat5))
          have hba : Below w4.heap.size w4 (w4.alloc (.cells #[.slice xa (clL t).length xc] 52)) := (Below.refl _ w4).alloc (Nat.le_refl _) _
          have HV5 := hide (((unhide HV4).later hba).grown hgrow5 hat5)
          have HO5 := hide hown5
          have HB5 := hide (((unhide HB4).alloc hq4 _).grown hgrow5 (by simp; omega) (ownRow_own (unhide HO4)))
          clear hown5 hgrow5 hba hat5
          go_wp2_with fail
          go_roundw
          case rel => exact ⟨k + 1, _, by omega, by go_num, HO5, by rw [unhide HT]; exact HV5, HB5, hide (unhide HZ' (unhide HE9))⟩
          case measure => simp [intOf]; omega
        · have he' : (clE t == 0) = false := by simpa using he
          have HEA' := hide ((unhide HE2).trans (unhide HEA he))
          go_wp2_with fail
          refine (unhide c3 _).mono ?_
          rintro e w4 ⟨⟨x, rfl, -, hx, -⟩, hb4⟩
          have HB4 := hide ((unhide HB1).trans (((unhide HB).trans (hb4.mono (unhide HB).size)).mono (unhide HB1).size))
          have HN := hide he
          obtain rfl := hx he
          clear hb4 he hx
          go_wp2_with fail
          go_ret2
          rw [unhide HEA']
          exact ⟨⟨_, rfl, fun h => absurd h (unhide HN), fun _ => rfl, fun g h => by cases h⟩, unhide HB4⟩
      · obtain rfl : k = N := by omega
        have HE3 := hide ((unhide HE2).trans (errOf_none clE ps (fun j hj => unhide HZ0 j hj (by omega))))
        have HM := hide (Cvw.cls (cl := ps.map clL) (by rw [List.length_map, hN]; exact unhide HO) (by have h := unhide HV; rw [List.take_of_length_le (by omega)] at h; exact h) (by rw [List.length_map]; omega))
        go_wp2_with fail
        go_ret2
        rw [unhide HE3, unhide HL2]
        exact ⟨⟨_, rfl, fun _ => unhide HM, fun h => absurd rfl h, fun g h => Nat.le_trans (unhide HB1).size (ownRow_own (unhide HO) g h)⟩, (unhide HB1).trans ((unhide HB).mono (unhide HB1).size)⟩
  · have HE2 := hide (show fdE s = e0 by rw [unhide HE, if_pos he])
    have he' : (e0 == 0) = false := by simpa using he
    have HN := hide he
    clear he HE HL
    go_enter Tryd.func25, Tryd.ntmps25
    go_wp2_with fail
    refine (unhide c1).mono ?_
    rintro e w1 ⟨⟨pv, rfl, hst⟩, hb1⟩
    have HB1 := hide hb1
    clear hst hb1 c1
    go_wp2_with fail
    go_ret2
    rw [unhide HE2]
    exact ⟨⟨_, rfl, fun h => absurd h (unhide HN), fun _ => rfl, fun g h => by cases h⟩, unhide HB1⟩

end Go.Proofs.YtfembjjpmjfklaaDoor
