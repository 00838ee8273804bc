import Derived.Test.YtfembjjpmjfklaaDoorLawS
namespace Go.Proofs.YtfembjjpmjfklaaDoor
open Go.RowKit

/-- A ROW OF ATOMS OF ITS OWN, FULL: no room behind it. -/
def OwnF (base : Nat) (W : World) (v : Value) (al : List Am) : Prop := OwnA base W v al ∧ (∃ a, v = .slice a al.length al.length) ∧ al.length ≤ 16777217
theorem OwnF.mono {b b' : Nat} {W : World} {v : Value} {al : List Am} (h : OwnF b' W v al) (hb : b ≤ b') : OwnF b W v al := ⟨h.1.mono hb, h.2⟩
theorem OwnF.nil (b : Nat) (W : World) : OwnF b W (.slice none 0 0) [] := ⟨OwnA.nil _ _, ⟨_, rfl⟩, Nat.zero_le _⟩
theorem OwnF.later {b : Nat} {W W' : World} {v : Value} {al : List Am} (h : OwnF b W v al) (hb : Below W.heap.size W W') : OwnF b W' v al := ⟨h.1.later hb, h.2⟩
theorem OwnF.of {W : World} {base : Nat} {a : Option Addr} {n : Nat} {xs : List Value} {al : List Am} (h : W.ownsRow base 34 3 (.slice a n n) n xs) (hn : al.length = n) (hx : al.flatMap amCells = xs) (hN : n ≤ 16777217) : OwnF base W (.slice a n n) al := by
  subst hn; subst hx; exact ⟨h, ⟨a, rfl⟩, hN⟩
theorem OwnF.grown {b lo : Nat} {W W' : World} {v : Value} {al : List Am} (h : OwnF b W v al) (hg : W.grownBy W' (some lo)) (hl : lo < b) : OwnF b W' v al :=
  ⟨ownsRow_grownO h.1 hg (fun g e e2 => by have := (World.ownsRow.lt h.1 g e).1; have := Option.some.inj e2; omega), h.2⟩
theorem OwnF.ams {b : Nat} {W : World} {v : Value} {al : List Am} (h : OwnF b W v al) : Ams W v al := h.1.ams h.2.2

/-- THESE VALUES ARE ROWS OF THESE ATOMS, each its own, in blocks above lo, no two in one. -/
structure Els (lo : Nat) (w : World) (vs : List Value) (cl : List (List Am)) : Prop where
  len : vs.length = cl.length
  el : ∀ i (h : i < cl.length), ∃ x, vs[i]? = some x ∧ OwnF (lo + 1) w x cl[i]
  ap : ∀ (i j : Nat) (x y : Value), vs[i]? = some x → vs[j]? = some y → i < j → ∀ g, x.ownBlock = some g → y.ownBlock ≠ some g
theorem Els.nil (lo : Nat) (w : World) : Els lo w [] [] := ⟨rfl, fun i h => absurd h (Nat.not_lt_zero _), fun i j x y h => by simp at h⟩
theorem Els.later {lo : Nat} {w w' : World} {vs : List Value} {cl : List (List Am)} (h : Els lo w vs cl) (hb : Below w.heap.size w w') : Els lo w' vs cl :=
  { h with el := fun i hi => by obtain ⟨x, h1, h2⟩ := h.el i hi; exact ⟨x, h1, h2.later hb⟩ }
theorem Els.grown {lo : Nat} {w w' : World} {vs : List Value} {cl : List (List Am)} (h : Els lo w vs cl) (hg : w.grownBy w' (some lo)) : Els lo w' vs cl :=
  { h with el := fun i hi => by obtain ⟨x, h1, h2⟩ := h.el i hi; exact ⟨x, h1, h2.grown hg (Nat.lt_succ_self _)⟩ }
theorem Els.at {lo : Nat} {w : World} {vs : List Value} {cl : List (List Am)} (h : Els lo w vs cl) {i : Nat} {x : Value} (hx : vs[i]? = some x) : ∃ hi : i < cl.length, OwnF (lo + 1) w x cl[i] := by
  have hi : i < cl.length := by
    rw [← h.len]
    exact (List.getElem?_eq_some_iff.1 hx).1
  obtain ⟨y, h1, h2⟩ := h.el i hi
  rw [hx] at h1
  cases h1
  exact ⟨hi, h2⟩
theorem Els.lt {lo : Nat} {w : World} {vs : List Value} {cl : List (List Am)} (h : Els lo w vs cl) (i : Nat) (x : Value) (hx : vs[i]? = some x) (g : Nat) (hg : x.ownBlock = some g) : g < w.heap.size := by
  obtain ⟨_, h2⟩ := h.at hx
  exact (World.ownsRow.lt h2.1 g hg).2
theorem Els.put {lo s : Nat} {w : World} {vs : List Value} {cl : List (List Am)} {x : Value} {c : List Am} (h : Els lo w vs cl) (hx : OwnF s w x c) (hs : lo < s) (hlt : ∀ (i : Nat) (x : Value), vs[i]? = some x → ∀ g, x.ownBlock = some g → g < s) : Els lo w (vs ++ [x]) (cl ++ [c]) := by
  have hl := h.len
  refine ⟨by simp [hl], fun i hi => ?_, fun i j y z hy hz hij g e => ?_⟩
  · by_cases hlt' : i < cl.length
    · obtain ⟨y, h1, h2⟩ := h.el i hlt'
      exact ⟨y, by rw [List.getElem?_append_left (by rw [hl]; exact hlt')]; exact h1, by rw [List.getElem_append_left hlt']; exact h2⟩
    · obtain rfl : i = cl.length := by simp at hi; omega
      exact ⟨x, by rw [List.getElem?_append_right (by rw [hl]; exact Nat.le_refl _), hl]; simp, by simpa using hx.mono hs⟩
  · have hj := (List.getElem?_eq_some_iff.1 hz).1
    simp at hj
    have hi : i < vs.length := by omega
    rw [List.getElem?_append_left hi] at hy
    by_cases hjl : j < vs.length
    · rw [List.getElem?_append_left hjl] at hz
      exact h.ap i j y z hy hz hij g e
    · obtain rfl : j = vs.length := by omega
      rw [List.getElem?_append_right (Nat.le_refl _)] at hz
      simp at hz
      subst hz
      intro e2
      have h1 := hlt i y hy g e
      have h2 := (World.ownsRow.lt hx.1 g e2).1
      omega

/-- A ROW OF CLAUSES, ALL ITS OWN: the row, each clause, no two in one block; each block is one of T. -/
structure OwnC (T : Nat → Prop) (lo : Nat) (W : World) (v : Value) (vs : List Value) (cl : List (List Am)) : Prop where
  row : W.ownsRow lo 52 1 v cl.length vs
  big : cl.length ≤ 16777217
  el : ∀ i (h : i < cl.length), ∃ x, vs[i]? = some x ∧ OwnF lo W x cl[i]
  ap : ∀ (i j : Nat) (x y : Value), vs[i]? = some x → vs[j]? = some y → i ≠ j → ∀ g, x.ownBlock = some g → y.ownBlock ≠ some g
  ar : ∀ (i : Nat) (x : Value), vs[i]? = some x → ∀ g, x.ownBlock = some g → v.ownBlock ≠ some g
  tr : ∀ g, v.ownBlock = some g → T g
  te : ∀ (i : Nat) (x : Value), vs[i]? = some x → ∀ g, x.ownBlock = some g → T g
theorem OwnC.nil (T : Nat → Prop) (lo : Nat) (W : World) : OwnC T lo W (.slice none 0 0) [] [] :=
  ⟨World.ownsRow_nil _ _ _ _, Nat.zero_le _, fun i h => absurd h (Nat.not_lt_zero _), fun i j x y h => by simp at h, fun i x h => by simp at h, fun g h => (by cases h), fun i x h => by simp at h⟩
theorem OwnC.mono {T T' : Nat → Prop} {lo lo' : Nat} {W : World} {v : Value} {vs : List Value} {cl : List (List Am)} (h : OwnC T lo' W v vs cl) (hl : lo ≤ lo') (hT : ∀ g, T g → T' g) : OwnC T' lo W v vs cl :=
  { h with row := ownsRow_mono h.row hl, el := fun i hi => by obtain ⟨x, h1, h2⟩ := h.el i hi; exact ⟨x, h1, h2.mono hl⟩, tr := fun g e => hT g (h.tr g e), te := fun i x hx g e => hT g (h.te i x hx g e) }
theorem OwnC.later {T : Nat → Prop} {lo : Nat} {W W' : World} {v : Value} {vs : List Value} {cl : List (List Am)} (h : OwnC T lo W v vs cl) (hb : Below W.heap.size W W') : OwnC T lo W' v vs cl :=
  { h with row := ownsRow_below h.row hb, el := fun i hi => by obtain ⟨x, h1, h2⟩ := h.el i hi; exact ⟨x, h1, h2.later hb⟩ }
theorem Rdg.own {w wr : World} {P N : Nat} {ps : List ByteArray} {vs : List Value} {cl : List (List Am)} (h : Rdg w wr 52 1 P N ps N vs) (hv : Els w.heap.size wr vs cl) (hk : cl.length = N) (hN : N ≤ 16777217) :
    OwnC (fun g => w.heap.size ≤ g ∧ g < wr.heap.size) w.heap.size wr (.slice (some ⟨w.heap.size, 0, none⟩) N N) vs cl := by
  subst hk
  refine ⟨h.row, hN, fun i hi => ?_, fun i j x y hx hy hne g e => ?_, fun i x hx g e => ?_, fun g e => h.row.lt g e, fun i x hx g e => ?_⟩
  · obtain ⟨x, h1, h2⟩ := hv.el i hi
    exact ⟨x, h1, h2.mono (Nat.le_succ _)⟩
  · rcases Nat.lt_or_gt_of_ne hne with hlt | hlt
    · exact hv.ap i j x y hx hy hlt g e
    · intro e2
      exact hv.ap j i y x hy hx hlt g e2 e
  · obtain ⟨_, h2⟩ := hv.at hx
    have := (World.ownsRow.lt h2.1 g e).1
    intro e2
    have := Option.some.inj e2
    simp at this
    omega
  · obtain ⟨_, h2⟩ := hv.at hx
    have := World.ownsRow.lt h2.1 g e
    exact ⟨by omega, this.2⟩

set_option maxRecDepth 100000 in
set_option maxHeartbeats 4000000 in
theorem readRowA_full (s : ByteArray) (c : UInt8) (most : Int) (w : World) (hs : s.size ≤ 16777216) (hm : ((pcs s c).length : Int) ≤ most) (ha : ∀ j (h : j < (pcs s c).length), asc (pcs s c)[j] ∧ (pcs s c)[j].size ≤ 16777216) (hg : Glob w) :
    Calls Tryd.prog 60 #[.string s, .string ⟨#[c]⟩, .int .i64 most, .func (.func 14) #[] #[]] w fun e w' => (∃ v, e = .returned (.tuple #[v, .int .i64 (errOf (fun t => (parseA t).2) (pcs s c))]) ∧ (errOf (fun t => (parseA t).2) (pcs s c) = 0 → OwnF w.heap.size w' v ((pcs s c).map fun t => (parseA t).1)) ∧ (errOf (fun t => (parseA t).2) (pcs s c) ≠ 0 → v = .slice none 0 0) ∧ (∀ g, v.ownBlock = some g → w.heap.size ≤ g)) ∧ Below w.heap.size w w' := by
  have c1 := hide (cCount s c w (by omega) hg)
  have c2 := hide (fun w hg => cSplit s c w (by omega) hg)
  have hl := pcs_len s c
  have hcl := Lib.countB_le ⟨#[c]⟩ (Nat.le_refl _) s.size s (Nat.le_refl _)
  have HG := hide hg
  have h1 : ¬ ((16777216 : Int) < (s.size : Int)) := by omega
  clear hg
  obtain ⟨ps, hps⟩ : ∃ ps, pcs s c = ps := ⟨_, rfl⟩
  obtain ⟨n, hn⟩ : ∃ n, Lib.countB s ⟨#[c]⟩ = n := ⟨_, rfl⟩
  rw [hps] at hm ha c2 hl ⊢
  rw [hn] at c1 hl hcl
  clear hps hn
  have HA := hide ha
  clear ha
  obtain ⟨N, hN⟩ : ∃ N : Nat, ps.length = N := ⟨_, rfl⟩
  have hNs : N ≤ 16777217 := by omega
  have hn1 : wrap64 ((n : Int) + 1) = (N : Int) := by unfold wrap64; omega
  have hmo : ¬ most < (N : Int) := by omega
  rw [hN] at c2
  clear hm hl hcl
  obtain ⟨i0, hi, hz0, hz1, hz2⟩ := info_parts infoA
  clear hs
  go_enter Tryd.func60, Tryd.ntmps60
  go_wp2_with fail
  refine (unhide c1).mono ?_
  rintro e w1 ⟨rfl, rfl⟩
  go_wp2_with (first | (at_make; go_must (refine wpList_make_own _ rfl _ _ 39 rfl w1.heap.size 34 i0 (.agg #[.string ⟨#[]⟩, .int .i64 0, .string ⟨#[]⟩]) 3 Tryd.underlying39 hi hz0 hz1 _ _ _ N rfl rfl hn1 (by rw [hz2]; omega) (by unfold maxLen; omega) (Nat.le_refl _) ?_); intro w2 hown hgrow))
  have g2 : Glob w2 := (unhide HG).later ((Below.refl _ w1).grown hgrow (Nat.le_refl _) (fun k h => by cases h))
  refine (unhide c2 _ g2).mono ?_
  rintro e w3 ⟨rfl, hw3⟩
  have HR := hide (Rdg.start (ps := ps) hown hgrow 9)
  rw [← hw3] at HR
  obtain ⟨P, hP⟩ : ∃ P, w2.heap.size = P := ⟨_, rfl⟩
  rw [hP] at HR ⊢
  clear hown hgrow g2 hw3 hP c1 c2 hn1 hmo
  go_wp2_with fail
  go_loopw [11, 32] (fun v i wr => ∃ k : Nat, k ≤ N ∧ i = .int .i64 k ∧ v = .slice (some ⟨w1.heap.size, 0, none⟩) k N ∧ Hid (Rdg w1 wr 34 3 P N ps k ((ps.take k).flatMap fun t => amCells (parseA t).1)) ∧ Hid (∀ j (h : j < ps.length), j < k → (parseA ps[j]).2 = 0)) (fun _ i _ => N - (intOf i).toNat)
  case atStart => exact ⟨0, Nat.zero_le _, rfl, rfl, HR, hide (fun j h hj => absurd hj (Nat.not_lt_zero _))⟩
  case round =>
    obtain ⟨k, hk, rfl, rfl, HR, HZ⟩ := hrel
    by_cases hlt : k < N
    · have hkl : k < ps.length := by omega
      have hpc := (unhide HR).pc k hkl
      have hPl := (unhide HR).lt2
      have ha3 := unhide HA k hkl
      have HT := hide (show (ps.take (k + 1)).flatMap (fun t => amCells (parseA t).1) = (ps.take k).flatMap (fun t => amCells (parseA t).1) ++ amCells (parseA ps[k]).1 by rw [List.take_succ_eq_append_getElem hkl, List.flatMap_append]; simp)
      have HE := hide (fun hn : (parseA ps[k]).2 ≠ 0 => errOf_at (fun t => (parseA t).2) ps k hkl (fun j hj hjk => unhide HZ j hj hjk) hn)
      have HZ' := hide (fun (h0 : (parseA ps[k]).2 = 0) => upto_nx (fun t => (parseA t).2 = 0) ps k hkl (unhide HZ) h0)
      generalize ps[k] = t at *
      have c3 := hide (fun (w' : World) (hb : Below wr.heap.size wr w') => ParseAtom_any t w' (by omega) ha3.1 ((unhide HG).later ((unhide HR).bel.trans (hb.mono (unhide HR).bel.size))))
      rcases hp : parseA t with ⟨⟨an, ao, av⟩, e0⟩
      rw [hp] at c3 HT HE HZ'
      simp only [amV] at c3
      simp only at HE HZ'
      clear hp ha3 HZ
      by_cases he : e0 = 0
      · subst he
        go_wp2_with fail
        refine (unhide c3 _ (Below.refl _ _)).mono ?_
        rintro e w4 ⟨rfl, hb4⟩
        have HR4 := hide ((unhide HR).later hb4)
        clear hb4
        go_wp2_with (first | (at_builtin; go_must (refine wpList_append_fits _ rfl _ _ 39 rfl w1.heap.size 34 i0 3 Tryd.underlying39 hi hz1 w1.heap.size k N _ rfl (((unhide HR4).row.alloc _).alloc _) _ 1 1 [.string an, .int .i64 ao, .string av] rfl rfl (by simpa using cells3_new (w4.alloc _) _ _ _ _) (by simp [Value.oneCell']) (by omega) ?_); intro w5 hown5 hgrow5))
        have HR5 := hide (((unhide HR4).later (((Below.refl _ w4).alloc (Nat.le_refl _) _).alloc (by simp) _)).put hown5 hgrow5)
        clear hown5 hgrow5
        go_wp2_with fail
        go_roundw
        case rel => exact ⟨k + 1, by omega, by go_num, rfl, by rw [unhide HT]; exact HR5, hide (unhide HZ' (by first | trivial | rfl))⟩
        case measure => simp [intOf]; omega
      · have he' : (e0 == 0) = false := by simpa using he
        have HE' := hide (unhide HE he)
        go_wp2_with fail
        refine (unhide c3 _ (Below.refl _ _)).mono ?_
        rintro e w4 ⟨rfl, hb4⟩
        have HB4 := hide ((unhide HR).bel.trans (hb4.mono (unhide HR).bel.size))
        have hq4 := (unhide HB4).size
        have HN := hide he
        clear hb4 he
        go_wp2_with fail
        go_ret2
        rw [unhide HE']
        exact ⟨⟨_, rfl, fun h => absurd h (unhide HN), fun _ => rfl, fun g h => by cases h⟩, (unhide HB4).alloc hq4 _⟩
    · obtain rfl : k = N := by omega
      have HE := hide (errOf_none (fun t => (parseA t).2) ps (fun j hj => unhide HZ j hj (by omega)))
      have HM := hide (OwnF.of (al := ps.map fun t => (parseA t).1) (by have h := (unhide HR).row; rw [List.take_of_length_le (by omega)] at h; exact h) (by rw [List.length_map, hN]) (by rw [List.flatMap_map]) hNs)
      go_wp2_with fail
      go_ret2
      rw [unhide HE]
      exact ⟨⟨_, rfl, fun _ => unhide HM, fun h => absurd rfl h, fun g h => by cases h; exact Nat.le_refl _⟩, (unhide HR).bel⟩


set_option maxRecDepth 100000 in
set_option maxHeartbeats 4000000 in
theorem readRowA_fullo (s : ByteArray) (c : UInt8) (most : Nat) (w : World) (hs : s.size ≤ 9223372036854775807) (ha : asc s) (hg : Glob w) :
    Calls Tryd.prog 60 #[.string s, .string ⟨#[c]⟩, .int .i64 most, .func (.func 14) #[] #[]] w fun e w' => (∃ v, e = .returned (.tuple #[v, .int .i64 (rowE (fun t => (parseA t).2) s c most)]) ∧ (rowE (fun t => (parseA t).2) s c most = 0 → OwnF w.heap.size w' v ((pcs s c).map fun t => (parseA t).1)) ∧ (rowE (fun t => (parseA t).2) s c most ≠ 0 → v = .slice none 0 0) ∧ (∀ g, v.ownBlock = some g → w.heap.size ≤ g)) ∧ Below w.heap.size w w' := by
  by_cases h1 : 16777216 < s.size
  · have HF := hide (show rowE (fun t => (parseA t).2) s c most = 2 by unfold rowE; rw [if_pos h1])
    have h2 : ((16777216 : Int) < (s.size : Int)) := by omega
    clear h1 ha hg hs
    go_enter Tryd.func60, Tryd.ntmps60
    go_wp2_with fail
    go_ret2
    rw [unhide HF]
    exact ⟨⟨_, rfl, fun h => absurd h (by decide), fun _ => rfl, fun g h => by cases h⟩, Below.refl _ _⟩
  · by_cases h2 : most < (pcs s c).length
    · have HF := hide (show rowE (fun t => (parseA t).2) s c most = 24 by unfold rowE; rw [if_neg h1, if_pos h2])
      have c1 := hide (cCount s c w (by omega) hg)
      have hl := pcs_len s c
      have hcl := Lib.countB_le ⟨#[c]⟩ (Nat.le_refl _) s.size s (Nat.le_refl _)
      obtain ⟨n, hn⟩ : ∃ n, Lib.countB s ⟨#[c]⟩ = n := ⟨_, rfl⟩
      rw [hn] at c1 hl hcl
      have hn1 : wrap64 ((n : Int) + 1) = (n : Int) + 1 := by unfold wrap64; omega
      have hmo : (most : Int) < (n : Int) + 1 := by omega
      have h3 : ¬ ((16777216 : Int) < (s.size : Int)) := by omega
      clear h1 h2 ha hg hs hn hl hcl
      go_enter Tryd.func60, Tryd.ntmps60
      go_wp2_with fail
      refine (unhide c1).mono ?_
      rintro e w1 ⟨rfl, rfl⟩
      go_wp2_with fail
      go_ret2
      rw [unhide HF]
      exact ⟨⟨_, rfl, fun h => absurd h (by decide), fun _ => rfl, fun g h => by cases h⟩, Below.refl _ _⟩
    · have HF : rowE (fun t => (parseA t).2) s c most = errOf (fun t => (parseA t).2) (pcs s c) := by unfold rowE; rw [if_neg h1, if_neg h2]
      rw [HF]
      exact readRowA_full s c most w (by omega) (by omega) (pcs_asc ha c (by omega)) hg


set_option maxHeartbeats 1000000 in
theorem ParseClause_full (s : ByteArray) (w : World) (hs : s.size ≤ 9223372036854775807) (ha : asc s) (hg : Glob w) :
    Calls Tryd.prog 23 #[.string s] w fun e w' => (∃ v, e = .returned (.tuple #[v, .int .i64 (clE s)]) ∧ (clE s = 0 → OwnF w.heap.size w' v (clL s)) ∧ (clE s ≠ 0 → v = .slice none 0 0) ∧ (∀ g, v.ownBlock = some g → w.heap.size ≤ g)) ∧ Below w.heap.size w w' := by
  have c1 := hide (readRowA_fullo s 124 256 w hs ha hg)
  clear hs ha hg
  go_enter Tryd.func23, Tryd.ntmps23
  go_wp2_with fail
  refine (unhide c1).mono ?_
  rintro e w1 ⟨⟨v, rfl, h1, h2⟩, hb⟩
  have HH := hide (And.intro h1 (And.intro h2 hb))
  clear h1 h2 hb
  go_wp2_with fail
  go_ret2
  exact ⟨⟨v, rfl, (unhide HH).1, (unhide HH).2.1⟩, (unhide HH).2.2⟩


set_option maxRecDepth 100000 in
set_option maxHeartbeats 4000000 in
theorem readRowC_own (s : ByteArray) (c : UInt8) (most : Int) (w : World) (hs : s.size ≤ 16777216) (hm : ((pcs s c).length : Int) ≤ most) (ha : ∀ j (h : j < (pcs s c).length), asc (pcs s c)[j] ∧ (pcs s c)[j].size ≤ 16777216) (hg : Glob w) :
    Calls Tryd.prog 74 #[.string s, .string ⟨#[c]⟩, .int .i64 most, .func (.func 23) #[] #[]] w fun e w' => (∃ v vs, e = .returned (.tuple #[v, .int .i64 (errOf clE (pcs s c))]) ∧ (errOf clE (pcs s c) = 0 → OwnC (fun g => w.heap.size ≤ g ∧ g < w'.heap.size) w.heap.size w' v vs ((pcs s c).map clL)) ∧ (errOf clE (pcs s c) ≠ 0 → v = .slice none 0 0)) ∧ Below w.heap.size w w' := by
  have c1 := hide (cCount s c w (by omega) hg)
  have c2 := hide (fun w hg => cSplit s c w (by omega) hg)
  have hl := pcs_len s c
  have hcl := Lib.countB_le ⟨#[c]⟩ (Nat.le_refl _) s.size s (Nat.le_refl _)
  have HG := hide hg
  have h1 : ¬ ((16777216 : Int) < (s.size : Int)) := by omega
  clear hg
  obtain ⟨ps, hps⟩ : ∃ ps, pcs s c = ps := ⟨_, rfl⟩
  obtain ⟨n, hn⟩ : ∃ n, Lib.countB s ⟨#[c]⟩ = n := ⟨_, rfl⟩
  rw [hps] at hm ha c2 hl ⊢
  rw [hn] at c1 hl hcl
  clear hps hn
  have HA := hide ha
  clear ha
  obtain ⟨N, hN⟩ : ∃ N : Nat, ps.length = N := ⟨_, rfl⟩
  have hNs : N ≤ 16777217 := by omega
  have hn1 : wrap64 ((n : Int) + 1) = (N : Int) := by unfold wrap64; omega
  have hmo : ¬ most < (N : Int) := by omega
  rw [hN] at c2
  clear hm hl hcl
  obtain ⟨i0, hi, hz0, hz1, hz2⟩ := info_parts infoC
  clear hs
  go_enter Tryd.func74, Tryd.ntmps74
  go_wp2_with fail
  refine (unhide c1).mono ?_
  rintro e w1 ⟨rfl, rfl⟩
  go_wp2_with (first | (at_make; go_must (refine wpList_make_own _ rfl _ _ 22 rfl w1.heap.size 52 i0 (.slice none 0 0) 1 Tryd.underlying22 hi hz0 hz1 _ _ _ N rfl rfl hn1 (by rw [hz2]; omega) (by unfold maxLen; omega) (Nat.le_refl _) ?_); intro w2 hown hgrow))
  have g2 : Glob w2 := (unhide HG).later ((Below.refl _ w1).grown hgrow (Nat.le_refl _) (fun k h => by cases h))
  refine (unhide c2 _ g2).mono ?_
  rintro e w3 ⟨rfl, hw3⟩
  have HR := hide (Rdg.start (ps := ps) hown hgrow 9)
  rw [← hw3] at HR
  obtain ⟨P, hP⟩ : ∃ P, w2.heap.size = P := ⟨_, rfl⟩
  rw [hP] at HR ⊢
  clear hown hgrow g2 hw3 hP c1 c2 hn1 hmo
  go_wp2_with fail
  go_loopw [11, 32] (fun v i wr => ∃ (k : Nat) (vs : List Value), k ≤ N ∧ i = .int .i64 k ∧ v = .slice (some ⟨w1.heap.size, 0, none⟩) k N ∧ Hid (Rdg w1 wr 52 1 P N ps k vs ∧ Els w1.heap.size wr vs ((ps.take k).map clL)) ∧ Hid (∀ j (h : j < ps.length), j < k → clE ps[j] = 0)) (fun _ i _ => N - (intOf i).toNat)
  case atStart => exact ⟨0, [], Nat.zero_le _, rfl, rfl, hide ⟨unhide HR, Els.nil _ _⟩, hide (fun j h hj => absurd hj (Nat.not_lt_zero _))⟩
  case round =>
    obtain ⟨k, vs, hk, rfl, rfl, HRV, HZ⟩ := hrel
    have HR := hide (unhide HRV).1
    have HV := hide (unhide HRV).2
    clear HRV
    by_cases hlt : k < N
    · have hkl : k < ps.length := by omega
      have hpc := (unhide HR).pc k hkl
      have hPl := (unhide HR).lt2
      have ha3 := unhide HA k hkl
      have HT := hide (show (ps.take (k + 1)).map clL = (ps.take k).map clL ++ [clL ps[k]] by rw [List.take_succ_eq_append_getElem hkl, List.map_append]; rfl)
      have HE := hide (fun hn : clE ps[k] ≠ 0 => errOf_at clE ps k hkl (fun j hj hjk => unhide HZ j hj hjk) hn)
      have HZ' := hide (fun (h0 : clE ps[k] = 0) => upto_nx (fun t => clE t = 0) ps k hkl (unhide HZ) h0)
      generalize ps[k] = t at *
      have c3 := hide (fun (w' : World) (hb : Below wr.heap.size wr w') => ParseClause_full t w' (by omega) ha3.1 ((unhide HG).later ((unhide HR).bel.trans (hb.mono (unhide HR).bel.size))))
      clear ha3 HZ
      by_cases he : clE t = 0
      · rw [he] at c3
        go_wp2_with fail
        refine (unhide c3 _ (Below.refl _ _)).mono ?_
        rintro e w4 ⟨⟨x, rfl, hx, -, -⟩, hb4⟩
        have HLT := hide (unhide HV).lt
        have HLs := hide (Nat.lt_trans (unhide HR).lt (unhide HR).lt2)
        have HR4 := hide ((unhide HR).later hb4)
        have HV4 := hide ((unhide HV).later hb4)
        have HX := hide (hx (by first | trivial | rfl))
        obtain ⟨-, ⟨xa, rfl⟩, -⟩ := unhide HX
        clear hb4 hx
        go_wp2_with (first | (at_builtin; go_must (refine wpList_append_fits _ rfl _ _ 22 rfl w1.heap.size 52 i0 1 Tryd.underlying22 hi hz1 w1.heap.size k N _ rfl ((unhide HR4).row.alloc _) _ 1 1 [.slice xa (clL t).length (clL t).length] rfl rfl (by simpa using cells1_new w4 _ _) (by simp [Value.oneCell']) (by omega) ?_); intro w5 hown5 hgrow5))
        have hba : Below w4.heap.size w4 (w4.alloc (.cells #[.slice xa (clL t).length (clL t).length] 52)) := (Below.refl _ w4).alloc (Nat.le_refl _) _
        have HR5 := hide (((unhide HR4).later hba).put hown5 hgrow5)
        have HV5 := hide ((((unhide HV4).later hba).grown hgrow5).put (((unhide HX).later hba).grown hgrow5 (unhide HLs)) (unhide HLs) (unhide HLT))
        clear hown5 hgrow5 hba
        go_wp2_with fail
        go_roundw
        case rel => exact ⟨k + 1, _, by omega, by go_num, rfl, by rw [unhide HT]; exact hide ⟨unhide HR5, unhide HV5⟩, hide (unhide HZ' he)⟩
        case measure => simp [intOf]; omega
      · have he' : (clE t == 0) = false := by simpa using he
        have HE' := hide (unhide HE he)
        go_wp2_with fail
        refine (unhide c3 _ (Below.refl _ _)).mono ?_
        rintro e w4 ⟨⟨x, rfl, -, hx, -⟩, hb4⟩
        have HB4 := hide ((unhide HR).bel.trans (hb4.mono (unhide HR).bel.size))
        have hq4 := (unhide HB4).size
        have HN := hide he
        obtain rfl := hx he
        clear hb4 he hx
        go_wp2_with fail
        go_ret2
        rw [unhide HE']
        exact ⟨⟨_, [], rfl, fun h => absurd h (unhide HN), fun _ => rfl⟩, unhide HB4⟩
    · obtain rfl : k = N := by omega
      have HE := hide (errOf_none clE ps (fun j hj => unhide HZ j hj (by omega)))
      have HM := hide (Rdg.own (cl := ps.map clL) (unhide HR) (by have h := unhide HV; rw [List.take_of_length_le (by omega)] at h; exact h) (by simpa using hN) hNs)
      go_wp2_with fail
      go_ret2
      rw [unhide HE]
      exact ⟨⟨_, _, rfl, fun _ => unhide HM, fun h => absurd rfl h⟩, (unhide HR).bel⟩


set_option maxRecDepth 100000 in
set_option maxHeartbeats 4000000 in
theorem readRowC_allo (s : ByteArray) (c : UInt8) (most : Nat) (w : World) (hs : s.size ≤ 9223372036854775807) (ha : asc s) (hg : Glob w) :
    Calls Tryd.prog 74 #[.string s, .string ⟨#[c]⟩, .int .i64 most, .func (.func 23) #[] #[]] w fun e w' => (∃ v vs, e = .returned (.tuple #[v, .int .i64 (rowE clE s c most)]) ∧ (rowE clE s c most = 0 → OwnC (fun g => w.heap.size ≤ g ∧ g < w'.heap.size) w.heap.size w' v vs ((pcs s c).map clL)) ∧ (rowE clE s c most ≠ 0 → v = .slice none 0 0)) ∧ Below w.heap.size w w' := by
  by_cases h1 : 16777216 < s.size
  · have HF := hide (show rowE clE s c most = 2 by unfold rowE; rw [if_pos h1])
    have h2 : ((16777216 : Int) < (s.size : Int)) := by omega
    clear h1 ha hg hs
    go_enter Tryd.func74, Tryd.ntmps74
    go_wp2_with fail
    go_ret2
    rw [unhide HF]
    exact ⟨⟨_, [], rfl, fun h => absurd h (by decide), fun _ => rfl⟩, Below.refl _ _⟩
  · by_cases h2 : most < (pcs s c).length
    · have HF := hide (show rowE clE s c most = 24 by unfold rowE; rw [if_neg h1, if_pos h2])
      have c1 := hide (cCount s c w (by omega) hg)
      have hl := pcs_len s c
      have hcl := Lib.countB_le ⟨#[c]⟩ (Nat.le_refl _) s.size s (Nat.le_refl _)
      obtain ⟨n, hn⟩ : ∃ n, Lib.countB s ⟨#[c]⟩ = n := ⟨_, rfl⟩
      rw [hn] at c1 hl hcl
      have hn1 : wrap64 ((n : Int) + 1) = (n : Int) + 1 := by unfold wrap64; omega
      have hmo : (most : Int) < (n : Int) + 1 := by omega
      have h3 : ¬ ((16777216 : Int) < (s.size : Int)) := by omega
      clear h1 h2 ha hg hs hn hl hcl
      go_enter Tryd.func74, Tryd.ntmps74
      go_wp2_with fail
      refine (unhide c1).mono ?_
      rintro e w1 ⟨rfl, rfl⟩
      go_wp2_with fail
      go_ret2
      rw [unhide HF]
      exact ⟨⟨_, [], rfl, fun h => absurd h (by decide), fun _ => rfl⟩, Below.refl _ _⟩
    · have HF : rowE clE s c most = errOf clE (pcs s c) := by unfold rowE; rw [if_neg h1, if_neg h2]
      rw [HF]
      exact readRowC_own s c most w (by omega) (by omega) (pcs_asc ha c (by omega)) hg

set_option maxHeartbeats 2000000 in
theorem readFieldC_own (s : ByteArray) (w : World) (hs : s.size ≤ 9223372036854775807) (ha : asc s) (hg : Glob w) :
    Calls Tryd.prog 46 #[.string s, .func (.func 23) #[] #[]] w fun e w' => (∃ v vs, e = .returned (.tuple #[v, .int .i64 (fdE s)]) ∧ (fdE s = 0 → OwnC (fun g => w.heap.size ≤ g ∧ g < w'.heap.size) w.heap.size w' v vs (fdL s)) ∧ (fdE s ≠ 0 → v = .slice none 0 0)) ∧ Below w.heap.size w w' := by
  have c1 := hide (cTrimB s w hs)
  have c2 := hide (fun (w' : World) (hb : Below w.heap.size w w') => readRowC_allo s 44 1024 w' hs ha (hg.later hb))
  have hb0 := hide (empty_beq (trimB s))
  by_cases h1 : s.size ≤ 16777216
  · have h1' : ((s.size : Int) ≤ 16777216) := by omega
    by_cases h2 : (trimB s).size = 0
    · have HF := hide (show fdE s = 0 ∧ fdL s = [] by unfold fdE fdL; rw [if_pos ⟨h1, h2⟩, if_pos ⟨h1, h2⟩]; exact ⟨rfl, rfl⟩)
      have hb : ((trimB s).toList == []) = true := by rw [unhide hb0]; simpa using h2
      have hbl : (trimB s).toList = [] := eq_of_beq hb
      generalize trimB s = t at *
      clear h1 h2 ha hg hs c2 hb0
      go_enter Tryd.func46, Tryd.ntmps46
      go_wp2_with fail
      refine (unhide c1).mono ?_
      rintro e w1 ⟨rfl, hb1⟩
      have HB1 := hide hb1
      clear hb1
      go_wp2_with fail
      go_ret2
      rw [(unhide HF).1, (unhide HF).2]
      exact ⟨⟨_, [], rfl, fun _ => OwnC.nil _ _ _, fun _ => rfl⟩, unhide HB1⟩
    · have HF := hide (show fdE s = rowE clE s 44 1024 ∧ fdL s = (pcs s 44).map clL by unfold fdE fdL; rw [if_neg (fun h => h2 h.2), if_neg (fun h => h2 h.2)]; exact ⟨rfl, rfl⟩)
      have hb : ((trimB s).toList == []) = false := by rw [unhide hb0]; simpa using h2
      generalize trimB s = t at *
      clear h1 h2 ha hg hs hb0
      go_enter Tryd.func46, Tryd.ntmps46
      go_wp2_with fail
      refine (unhide c1).mono ?_
      rintro e w1 ⟨rfl, hb1⟩
      have HB1 := hide hb1
      clear hb1
      go_wp2_with fail
      refine (unhide c2 _ (unhide HB1)).mono ?_
      rintro e w2 ⟨⟨v, vs, rfl, k1, k2⟩, hb2⟩
      have HH := hide (And.intro k1 (And.intro k2 hb2))
      clear k1 k2 hb2
      go_wp2_with fail
      go_ret2
      rw [(unhide HF).1, (unhide HF).2]
      exact ⟨⟨v, vs, rfl, fun h => ((unhide HH).1 h).mono (unhide HB1).size (fun g hg => ⟨Nat.le_trans (unhide HB1).size hg.1, hg.2⟩), (unhide HH).2.1⟩, bl_t (unhide HB1) (unhide HH).2.2⟩
  · have h1' : ¬ ((s.size : Int) ≤ 16777216) := by omega
    have HF := hide (show fdE s = rowE clE s 44 1024 ∧ fdL s = (pcs s 44).map clL by unfold fdE fdL; rw [if_neg (fun h => h1 h.1), if_neg (fun h => h1 h.1)]; exact ⟨rfl, rfl⟩)
    have c3 := hide (unhide c2 w (Below.refl _ _))
    clear h1 ha hg hs hb0 c1 c2
    go_enter Tryd.func46, Tryd.ntmps46
    go_wp2_with fail
    refine (unhide c3).mono ?_
    rintro e w2 ⟨⟨v, vs, rfl, k1, k2⟩, hb2⟩
    have HH := hide (And.intro k1 (And.intro k2 hb2))
    clear k1 k2 hb2
    go_wp2_with fail
    go_ret2
    rw [(unhide HF).1, (unhide HF).2]
    exact ⟨⟨v, vs, rfl, (unhide HH).1, (unhide HH).2.1⟩, (unhide HH).2.2⟩


set_option maxHeartbeats 1000000 in
theorem ParseField_own (s : ByteArray) (w : World) (hs : s.size ≤ 9223372036854775807) (ha : asc s) (hg : Glob w) :
    Calls Tryd.prog 8 #[.string s] w fun e w' => (∃ v vs, e = .returned (.tuple #[v, .int .i64 (fdE s)]) ∧ (fdE s = 0 → OwnC (fun g => w.heap.size ≤ g ∧ g < w'.heap.size) w.heap.size w' v vs (fdL s)) ∧ (fdE s ≠ 0 → v = .slice none 0 0)) ∧ Below w.heap.size w w' := by
  have c1 := hide (readFieldC_own s w hs ha hg)
  clear hs ha hg
  go_enter Tryd.func8, Tryd.ntmps8
  go_wp2_with fail
  refine (unhide c1).mono ?_
  rintro e w1 ⟨⟨v, vs, rfl, h1, h2⟩, hb⟩
  have HH := hide (And.intro h1 (And.intro h2 hb))
  clear h1 h2 hb
  go_wp2_with fail
  go_ret2
  exact ⟨⟨v, vs, rfl, (unhide HH).1, (unhide HH).2.1⟩, (unhide HH).2.2⟩

end Go.Proofs.YtfembjjpmjfklaaDoor
