import Derived.Test.YtfembjjpmjfklaaDoorRelG
namespace Go.Proofs.YtfembjjpmjfklaaDoor
open Go.RowKit

/-- WHAT A CALL LEAVES: all old blocks but those of T. -/
structure Fr (T : Nat → Prop) (w w' : World) : Prop where
  os : w'.os = w.os
  tape : w'.tape = w.tape
  output : w'.output = w.output
  size : w.heap.size ≤ w'.heap.size
  block : ∀ g, g < w.heap.size → ¬ T g → w'.heap[g]? = w.heap[g]?
theorem Fr.refl (T : Nat → Prop) (w : World) : Fr T w w := ⟨rfl, rfl, rfl, Nat.le_refl _, fun _ _ _ => rfl⟩
theorem Fr.below {T : Nat → Prop} {w w1 w2 : World} (h : Fr T w w1) (hb : Below w1.heap.size w1 w2) : Fr T w w2 :=
  ⟨hb.os.trans h.os, hb.tape.trans h.tape, hb.output.trans h.output, Nat.le_trans h.size hb.size, fun g hg hn => (hb.block g (Nat.lt_of_lt_of_le hg h.size)).trans (h.block g hg hn)⟩
theorem Fr.setCell {T : Nat → Prop} {w w1 : World} (h : Fr T w w1) {g k : Nat} (hT : T g) (u : Value) : Fr T w (w1.setCell ⟨g, k, none⟩ u) :=
  ⟨h.os, h.tape, h.output, by simpa [World.setCell] using h.size, fun i hi hn => (Below.heap_setCell _ _ _ _ (fun e => hn (by have e2 : i = g := e; rw [e2]; exact hT))).trans (h.block i hi hn)⟩
theorem Fr.toBelow {T : Nat → Prop} {w w' : World} {B : Nat} (h : Fr T w w') (hB : B ≤ w.heap.size) (hT : ∀ g, T g → B ≤ g) : Below B w w' :=
  ⟨h.os, h.tape, h.output, h.size, fun g hg => h.block g (by omega) (fun ht => by have := hT g ht; omega)⟩
theorem Fr.ams {T : Nat → Prop} {w w' : World} (h : Fr T w w') {v : Value} {al : List Am} (ha : Ams w v al) (hn : 0 < al.length → ∀ g, v.ownBlock = some g → ¬ T g) : Ams w' v al := by
  obtain ⟨a, c, rfl, h2, h3⟩ := ha
  refine ⟨a, c, rfl, h2, fun i hi => ?_⟩
  obtain ⟨b, o, rfl, e2, e3, e4, e5⟩ := h3 i hi
  have hk := h.block b e2 (hn (by omega) b rfl)
  exact ⟨b, o, rfl, Nat.lt_of_lt_of_le e2 h.size, (World.cell?_of_block (a := ⟨b, _, none⟩) hk).trans e3, (World.cell?_of_block (a := ⟨b, _, none⟩) hk).trans e4, (World.cell?_of_block (a := ⟨b, _, none⟩) hk).trans e5⟩

/-- A SLICE OF THESE CLAUSES, each block one of T. -/
def ClsT (T : Nat → Prop) (w : World) (v : Value) (cl : List (List Am)) : Prop :=
  ∃ a c, v = .slice a cl.length c ∧ cl.length ≤ 9223372036854775807 ∧ ∀ i (h : i < cl.length), ∃ b o x, a = some ⟨b, o, none⟩ ∧ b < w.heap.size ∧ w.cell? ⟨b, o + i, none⟩ = some x ∧ Ams w x cl[i] ∧ T b ∧ (0 < cl[i].length → ∀ g, x.ownBlock = some g → T g)
theorem ClsT.cls {T : Nat → Prop} {w : World} {v : Value} {cl : List (List Am)} (h : ClsT T w v cl) : Cls w v cl := by
  obtain ⟨a, c, h1, h2, h3⟩ := h
  exact ⟨a, c, h1, h2, fun i hi => by obtain ⟨b, o, x, e1, e2, e3, e4, -⟩ := h3 i hi; exact ⟨b, o, x, e1, e2, e3, e4⟩⟩
theorem ClsT.mono {T T' : Nat → Prop} {w : World} {v : Value} {cl : List (List Am)} (h : ClsT T w v cl) (hT : ∀ g, T g → T' g) : ClsT T' w v cl := by
  obtain ⟨a, c, h1, h2, h3⟩ := h
  exact ⟨a, c, h1, h2, fun i hi => by obtain ⟨b, o, x, e1, e2, e3, e4, e5, e6⟩ := h3 i hi; exact ⟨b, o, x, e1, e2, e3, e4, hT _ e5, fun hl g e => hT _ (e6 hl g e)⟩⟩
theorem ClsT.fr {T T' : Nat → Prop} {w w' : World} {v : Value} {cl : List (List Am)} (h : ClsT T' w v cl) (hf : Fr T w w') (hd : ∀ g, T' g → ¬ T g) : ClsT T' w' v cl := by
  obtain ⟨a, c, h1, h2, h3⟩ := h
  refine ⟨a, c, h1, h2, fun i hi => ?_⟩
  obtain ⟨b, o, x, e1, e2, e3, e4, e5, e6⟩ := h3 i hi
  exact ⟨b, o, x, e1, Nat.lt_of_lt_of_le e2 hf.size, (World.cell?_of_block (a := ⟨b, _, none⟩) (hf.block b e2 (hd b e5))).trans e3, hf.ams e4 (fun hl g e => hd g (e6 hl g e)), e5, e6⟩
theorem ClsT.later {T : Nat → Prop} {w w' : World} {v : Value} {cl : List (List Am)} (h : ClsT T w v cl) (hb : Below w.heap.size w w') : ClsT T w' v cl :=
  h.fr (T := fun _ => False) ((Fr.refl _ _).below hb) (fun _ _ h => h)
theorem ClsT.nil (T : Nat → Prop) (w : World) : ClsT T w (.slice none 0 0) [] := ⟨none, 0, rfl, by simp, fun i h => absurd h (Nat.not_lt_zero _)⟩
theorem ClsT.bound {T : Nat → Prop} {w : World} {v : Value} {cl : List (List Am)} (h : ClsT T w v cl) : ClsT (fun g => T g ∧ g < w.heap.size) w v cl := by
  obtain ⟨a, c, h1, h2, h3⟩ := h
  exact ⟨a, c, h1, h2, fun i hi => by obtain ⟨b, o, x, e1, e2, e3, e4, e5, e6⟩ := h3 i hi; exact ⟨b, o, x, e1, e2, e3, e4, ⟨e5, e2⟩, fun hl g e => ⟨e6 hl g e, e4.blk0 hl e⟩⟩⟩
theorem ownsRow_fr {T : Nat → Prop} {W W' : World} {base : Nat} {e : TypeId} {z : Nat} {v : Value} {n : Nat} {xs : List Value} (h : W.ownsRow base e z v n xs) (hf : Fr T W W') (hn : ∀ g, v.ownBlock = some g → ¬ T g) : W'.ownsRow base e z v n xs := by
  obtain ⟨h1, h2⟩ := h
  refine ⟨h1, ?_⟩
  rcases h2 with h2 | ⟨g, cap, cur, e1, e2, e3, e4⟩
  · exact Or.inl h2
  · subst e1
    exact Or.inr ⟨g, cap, cur, rfl, e2, (hf.block g (lt_of_block e3) (hn g rfl)).trans e3, e4⟩
theorem OwnC.fr {T T' : Nat → Prop} {lo : Nat} {W W' : World} {v : Value} {vs : List Value} {cl : List (List Am)} (h : OwnC T' lo W v vs cl) (hf : Fr T W W') (hd : ∀ g, T' g → ¬ T g) : OwnC T' lo W' v vs cl :=
  { h with
    row := ownsRow_fr h.row hf (fun g e => hd g (h.tr g e))
    el := fun i hi => by obtain ⟨x, h1, h2⟩ := h.el i hi; exact ⟨x, h1, ownsRow_fr h2.1 hf (fun g e => hd g (h.te i x h1 g e)), h2.2⟩ }
/-- ONE CLAUSE IN A ROW THAT IS LAID ANEW. -/
theorem OwnF.lit {lo : Nat} {W : World} {v : Value} {al : List Am} (h : OwnF lo W v al) (hlo : lo ≤ W.heap.size) (T : Nat → Prop) (hT : ∀ g, v.ownBlock = some g → T g) (hX : T W.heap.size) :
    OwnC T lo (W.alloc (.cells #[v] 52)) (.slice (some ⟨W.heap.size, 0, none⟩) 1 1) [v] [al] := by
  have hb : Below W.heap.size W (W.alloc (.cells #[v] 52)) := (Below.refl _ W).alloc (Nat.le_refl _) _
  have h1 : ∀ (i : Nat) (x : Value), [v][i]? = some x → i = 0 ∧ x = v := fun i x hx => by
    match i, hx with
    | 0, hx => exact ⟨rfl, by simpa using hx.symm⟩
    | i + 1, hx => simp at hx
  refine ⟨⟨rfl, .inr ⟨W.heap.size, 1, #[v], rfl, hlo, ?_, Nat.le_refl _, by decide, rfl, rfl⟩⟩, by simp, fun i hi => ?_, fun i j x y hx hy hne => ?_, fun i x hx g e e2 => ?_, fun g e => ?_, fun i x hx g e => ?_⟩
  · show (W.heap.push (.cells #[v] 52))[W.heap.size]? = some (.cells #[v] 52 (0, 0))
    simp
  · obtain rfl : i = 0 := by simp at hi; exact hi
    exact ⟨v, rfl, h.later hb⟩
  · obtain ⟨rfl, -⟩ := h1 i x hx
    obtain ⟨rfl, -⟩ := h1 j y hy
    exact absurd rfl hne
  · obtain ⟨-, rfl⟩ := h1 i x hx
    have := (World.ownsRow.lt h.1 g e).2
    have := Option.some.inj e2
    simp at this
    omega
  · have := Option.some.inj e
    simp at this
    exact this ▸ hX
  · obtain ⟨-, rfl⟩ := h1 i x hx
    exact hT g e
theorem OwnC.clsT {T : Nat → Prop} {lo : Nat} {W : World} {v : Value} {vs : List Value} {cl : List (List Am)} (h : OwnC T lo W v vs cl) : ClsT T W v cl := by
  have h0 := h.row
  have hL := h.big
  rcases h0.2 with ⟨e0, e⟩ | ⟨g, cap, cur, e0, _⟩
  · subst e0
    exact ⟨_, _, by rw [e], by omega, fun i hi => absurd hi (by omega)⟩
  · subst e0
    refine ⟨_, _, rfl, by omega, fun i hi => ?_⟩
    obtain ⟨x, h1, h2⟩ := h.el i hi
    have := h0.cells (g := g) rfl i _ h1
    rw [Go.WideShapes.add_plain] at this
    exact ⟨g, 0, x, rfl, (h0.lt _ rfl).2, this, h2.ams, h.tr g rfl, fun _ => h.te i x h1⟩

/-- THE VALUES LIE IN BLOCKS FROM lo ON. -/
def Frs (lo : Nat) (vs : List Value) : Prop := ∀ (i : Nat) (x : Value), vs[i]? = some x → ∀ g, x.ownBlock = some g → lo ≤ g
theorem Frs.nil (lo : Nat) : Frs lo [] := fun i x h => by simp at h
theorem Frs.put {lo : Nat} {vs : List Value} {x : Value} (h : Frs lo vs) (hx : ∀ g, x.ownBlock = some g → lo ≤ g) : Frs lo (vs ++ [x]) := fun i y hy => by
  by_cases hlt : i < vs.length
  · rw [List.getElem?_append_left hlt] at hy
    exact h i y hy
  · have hi := (List.getElem?_eq_some_iff.1 hy).1
    simp at hi
    obtain rfl : i = vs.length := by omega
    rw [List.getElem?_append_right (Nat.le_refl _)] at hy
    simp at hy
    subst hy
    exact hx
theorem Cvw.clsT {W : World} {base : Nat} {v : Value} {vs : List Value} {cl : List (List Am)} (h : W.ownsRow base 52 1 v cl.length vs) (hv : Cvw W v vs cl) (hf : Frs base vs) (hL : cl.length ≤ 16777217) : ClsT (fun g => base ≤ g) W v cl := by
  have h0 := h
  rcases h.2 with ⟨rfl, e⟩ | ⟨g, cap, cur, rfl, _⟩
  · exact ⟨_, _, by rw [e], by omega, fun i hi => absurd hi (by omega)⟩
  · refine ⟨_, _, rfl, by omega, fun i hi => ?_⟩
    obtain ⟨x, h1, h2, -⟩ := hv.2 i hi
    have := h0.cells (g := g) rfl i _ h1
    rw [Go.WideShapes.add_plain] at this
    exact ⟨g, 0, x, rfl, (h0.lt _ rfl).2, this, h2, (h0.lt _ rfl).1, fun _ => hf i x h1⟩

set_option maxRecDepth 100000 in
set_option maxHeartbeats 4000000 in
theorem rParseField_own (s : ByteArray) (w : World) (hs : s.size ≤ 9223372036854775807) :
    Calls Tryd.prog 25 #[.string s] w fun e w' => (∃ v, e = .returned (.tuple #[v, .int .i64 (fdE s)]) ∧ (fdE s = 0 → ClsT (fun g => w.heap.size ≤ g) w' v (fdL s)) ∧ (fdE s ≠ 0 → v = .slice none 0 0)) ∧ Below w.heap.size w w' := by
  have c1 := hide (rrow_any s w hs)
  have HE := hide (show fdE s = if rwE s ≠ 0 then rwE s else errOf clE (rwL s) from fld_row _ s)
  have HL := hide (show rwE s = 0 → fdL s = (rwL s).map clL from fld_list _ s)
  have hlen := rwL_len s
  have HZ := hide (rwL_sz s)
  generalize rwE s = e0 at *
  generalize rwL s = ps at *
  obtain ⟨i0, hi, hz0, hz1, hz2⟩ := info_parts infoC
  by_cases he : e0 = 0
  · subst he
    have HE2 := hide (show fdE s = errOf clE ps by rw [unhide HE, if_neg (by simp)])
    have HL2 := hide (unhide HL rfl)
    clear HE HL
    go_enter Tryd.func25, Tryd.ntmps25
    go_wp2_with fail
    refine (unhide c1).mono ?_
    rintro e w1 ⟨⟨pv, rfl, hst⟩, hb1⟩
    obtain ⟨va, vc, rfl⟩ := hst.shape
    have HS := hide hst
    have HB1 := hide hb1
    obtain ⟨N, hN⟩ : ∃ N : Nat, ps.length = N := ⟨_, rfl⟩
    rw [hN] at HS hlen ⊢
    clear hst hb1 c1
    go_wp2_with fail
    go_loopw [6, 7] (fun v i wr => ∃ (k : Nat) (vs : List Value), k ≤ N ∧ i = .int .i64 k ∧ Hid (wr.ownsRow w1.heap.size 52 1 v k vs) ∧ Hid (Cvw wr v vs ((ps.take k).map clL)) ∧ Hid (Frs w1.heap.size vs) ∧ Hid (Below w1.heap.size w1 wr) ∧ Hid (∀ j (h : j < ps.length), j < k → clE ps[j] = 0)) (fun _ i _ => N - (intOf i).toNat)
    case atStart => exact ⟨0, [], Nat.zero_le _, rfl, hide (World.ownsRow_nil _ _ _ _), hide ⟨rfl, fun i h => absurd h (Nat.not_lt_zero _)⟩, hide (Frs.nil _), hide (Below.refl _ _), hide (fun j h hj => absurd hj (Nat.not_lt_zero _))⟩
    case round =>
      obtain ⟨k, vs, hk, rfl, HO, HV, HF, HB, HZ0⟩ := hrel
      by_cases hlt : k < N
      · have hkl : k < ps.length := by omega
        obtain ⟨b, o, hva, hbl, hpc⟩ := ((unhide HS).later (unhide HB)).elem k hkl
        subst hva
        have hsz := unhide HZ ps[k] (List.getElem_mem hkl)
        have HT := hide (show (ps.take (k + 1)).map clL = (ps.take k).map clL ++ [clL ps[k]] by rw [List.take_succ_eq_append_getElem hkl, List.map_append]; rfl)
        have HEA := hide (fun hn : clE ps[k] ≠ 0 => errOf_at clE ps k hkl (fun j hj hjk => unhide HZ0 j hj hjk) hn)
        have HZ' := hide (fun (h0 : clE ps[k] = 0) => upto_nx (fun t => clE t = 0) ps k hkl (unhide HZ0) h0)
        generalize ps[k] = t at *
        have c3 := hide (fun (w' : World) => rParseClause_any t w' (by omega))
        clear hsz HZ0
        by_cases he : clE t = 0
        · rw [he] at c3
          have HE9 := hide he
          clear he
          go_wp2_with fail
          refine (unhide c3 _).mono ?_
          rintro e w4 ⟨⟨x, rfl, hx, -, hfr⟩, hb4⟩
          have HX := hide (hx (by first | trivial | rfl))
          have HO4 := hide (ownsRow_below (unhide HO) hb4)
          have HB4 := hide ((unhide HB).trans (hb4.mono (unhide HB).size))
          have hq4 := (unhide HB4).size
          have HV4 := hide (((unhide HV).later hb4).put (unhide HX) (fun g e1 e2 => by
            have h1 := hfr g e1
            have h2 := ((unhide HO).lt g e2).2
            omega))
          have HF4 := hide ((unhide HF).put (fun g e => Nat.le_trans (unhide HB).size (hfr g e)))
          obtain ⟨xa, xc, rfl, -⟩ := unhide HX
          clear hb4 hx hfr
          go_wp2_with (first | (at_builtin; go_must (refine wpList_append_own_at _ rfl _ _ 22 rfl w1.heap.size 52 i0 (.slice none 0 0) 1 24 Tryd.underlying22 hi hz0 hz1 hz2 rfl (by decide) _ _ _ rfl ((unhide HO4).alloc _) _ 1 1 [.slice xa (clL t).length xc] rfl rfl (by simpa using cells1_new w4 _ _) (by simp [Value.oneCell']) (by unfold maxLen; omega) (by omega) (by simp; omega) ?_); intro v' w5 hown5 hgrow5 _ hat5))
          have hba : Below w4.heap.size w4 (w4.alloc (.cells #[.slice xa (clL t).length xc] 52)) := (Below.refl _ w4).alloc (Nat.le_refl _) _
          have HV5 := hide (((unhide HV4).later hba).grown hgrow5 hat5)
          have HO5 := hide hown5
          have HB5 := hide (((unhide HB4).alloc hq4 _).grown hgrow5 (by simp; omega) (ownRow_own (unhide HO4)))
          clear hown5 hgrow5 hba hat5
          go_wp2_with fail
          go_roundw
          case rel => exact ⟨k + 1, _, by omega, by go_num, HO5, by rw [unhide HT]; exact HV5, HF4, HB5, hide (unhide HZ' (unhide HE9))⟩
          case measure => simp [intOf]; omega
        · have he' : (clE t == 0) = false := by simpa using he
          have HEA' := hide ((unhide HE2).trans (unhide HEA he))
          go_wp2_with fail
          refine (unhide c3 _).mono ?_
          rintro e w4 ⟨⟨x, rfl, -, hx, -⟩, hb4⟩
          have HB4 := hide ((unhide HB1).trans (((unhide HB).trans (hb4.mono (unhide HB).size)).mono (unhide HB1).size))
          have HN := hide he
          obtain rfl := hx he
          clear hb4 he hx
          go_wp2_with fail
          go_ret2
          rw [unhide HEA']
          exact ⟨⟨_, rfl, fun h => absurd h (unhide HN), fun _ => rfl⟩, unhide HB4⟩
      · obtain rfl : k = N := by omega
        have HE3 := hide ((unhide HE2).trans (errOf_none clE ps (fun j hj => unhide HZ0 j hj (by omega))))
        have HM := hide (Cvw.clsT (cl := ps.map clL) (by rw [List.length_map, hN]; exact unhide HO) (by have h := unhide HV; rw [List.take_of_length_le (by omega)] at h; exact h) (unhide HF) (by rw [List.length_map]; omega))
        go_wp2_with fail
        go_ret2
        rw [unhide HE3, unhide HL2]
        exact ⟨⟨_, rfl, fun _ => (unhide HM).mono (fun g h => Nat.le_trans (unhide HB1).size h), fun h => absurd rfl h⟩, (unhide HB1).trans ((unhide HB).mono (unhide HB1).size)⟩
  · have HE2 := hide (show fdE s = e0 by rw [unhide HE, if_pos he])
    have he' : (e0 == 0) = false := by simpa using he
    have HN := hide he
    clear he HE HL
    go_enter Tryd.func25, Tryd.ntmps25
    go_wp2_with fail
    refine (unhide c1).mono ?_
    rintro e w1 ⟨⟨pv, rfl, hst⟩, hb1⟩
    have HB1 := hide hb1
    clear hst hb1 c1
    go_wp2_with fail
    go_ret2
    rw [unhide HE2]
    exact ⟨⟨_, rfl, fun h => absurd h (unhide HN), fun _ => rfl⟩, unhide HB1⟩

end Go.Proofs.YtfembjjpmjfklaaDoor
