import Derived.Test.YtfembjjpmjfklaaDoorRelX
namespace Go.Proofs.YtfembjjpmjfklaaDoor
open Go.RowKit

theorem ownsRow_mono {W : World} {b b' : Nat} {e : TypeId} {z : Nat} {v : Value} {n : Nat} {xs : List Value} (h : W.ownsRow b' e z v n xs) (hb : b ≤ b') : W.ownsRow b e z v n xs := by
  obtain ⟨h1, h2⟩ := h
  refine ⟨h1, ?_⟩
  rcases h2 with h2 | ⟨g, cap, cur, e1, e2, e3⟩
  · exact .inl h2
  · exact .inr ⟨g, cap, cur, e1, Nat.le_trans hb e2, e3⟩
/-- A ROW OF THESE ATOMS, ALL ITS OWN. -/
def OwnA (base : Nat) (W : World) (v : Value) (al : List Am) : Prop := W.ownsRow base 34 3 v al.length (al.flatMap amCells)
theorem OwnA.mono {b b' : Nat} {W : World} {v : Value} {al : List Am} (h : OwnA b' W v al) (hb : b ≤ b') : OwnA b W v al := ownsRow_mono h hb
theorem OwnA.nil (b : Nat) (W : World) : OwnA b W (.slice none 0 0) [] := World.ownsRow_nil _ _ _ _
/-- A ROW OF THESE TEXTS, ALL ITS OWN. -/
def OwnS (base : Nat) (W : World) (v : Value) (al : List ByteArray) : Prop := W.ownsRow base 9 1 v al.length (al.map Value.string)
theorem OwnS.mono {b b' : Nat} {W : World} {v : Value} {al : List ByteArray} (h : OwnS b' W v al) (hb : b ≤ b') : OwnS b W v al := ownsRow_mono h hb
theorem OwnS.nil (b : Nat) (W : World) : OwnS b W (.slice none 0 0) [] := World.ownsRow_nil _ _ _ _

set_option maxRecDepth 100000 in
set_option maxHeartbeats 4000000 in
theorem readRowA_own (s : ByteArray) (c : UInt8) (most : Int) (w : World) (hs : s.size ≤ 16777216) (hm : ((pcs s c).length : Int) ≤ most) (ha : ∀ j (h : j < (pcs s c).length), asc (pcs s c)[j] ∧ (pcs s c)[j].size ≤ 16777216) (hg : Glob w) :
    Calls Tryd.prog 60 #[.string s, .string ⟨#[c]⟩, .int .i64 most, .func (.func 14) #[] #[]] w fun e w' => (∃ v, e = .returned (.tuple #[v, .int .i64 (errOf (fun t => (parseA t).2) (pcs s c))]) ∧ (errOf (fun t => (parseA t).2) (pcs s c) = 0 → OwnA w.heap.size w' v ((pcs s c).map fun t => (parseA t).1)) ∧ (errOf (fun t => (parseA t).2) (pcs s c) ≠ 0 → v = .slice none 0 0) ∧ (∀ g, v.ownBlock = some g → w.heap.size ≤ g)) ∧ Below w.heap.size w w' := by
  have c1 := hide (cCount s c w (by omega) hg)
  have c2 := hide (fun w hg => cSplit s c w (by omega) hg)
  have hl := pcs_len s c
  have hcl := Lib.countB_le ⟨#[c]⟩ (Nat.le_refl _) s.size s (Nat.le_refl _)
  have HG := hide hg
  have h1 : ¬ ((16777216 : Int) < (s.size : Int)) := by omega
  clear hg
  obtain ⟨ps, hps⟩ : ∃ ps, pcs s c = ps := ⟨_, rfl⟩
  obtain ⟨n, hn⟩ : ∃ n, Lib.countB s ⟨#[c]⟩ = n := ⟨_, rfl⟩
  rw [hps] at hm ha c2 hl ⊢
  rw [hn] at c1 hl hcl
  clear hps hn
  have HA := hide ha
  clear ha
  obtain ⟨N, hN⟩ : ∃ N : Nat, ps.length = N := ⟨_, rfl⟩
  have hNs : N ≤ 16777217 := by omega
  have hn1 : wrap64 ((n : Int) + 1) = (N : Int) := by unfold wrap64; omega
  have hmo : ¬ most < (N : Int) := by omega
  rw [hN] at c2
  clear hm hl hcl
  obtain ⟨i0, hi, hz0, hz1, hz2⟩ := info_parts infoA
  clear hs
  go_enter Tryd.func60, Tryd.ntmps60
  go_wp2_with fail
  refine (unhide c1).mono ?_
  rintro e w1 ⟨rfl, rfl⟩
  go_wp2_with (first | (at_make; go_must (refine wpList_make_own _ rfl _ _ 39 rfl w1.heap.size 34 i0 (.agg #[.string ⟨#[]⟩, .int .i64 0, .string ⟨#[]⟩]) 3 Tryd.underlying39 hi hz0 hz1 _ _ _ N rfl rfl hn1 (by rw [hz2]; omega) (by unfold maxLen; omega) (Nat.le_refl _) ?_); intro w2 hown hgrow))
  have g2 : Glob w2 := (unhide HG).later ((Below.refl _ w1).grown hgrow (Nat.le_refl _) (fun k h => by cases h))
  refine (unhide c2 _ g2).mono ?_
  rintro e w3 ⟨rfl, hw3⟩
  have HR := hide (Rdg.start (ps := ps) hown hgrow 9)
  rw [← hw3] at HR
  obtain ⟨P, hP⟩ : ∃ P, w2.heap.size = P := ⟨_, rfl⟩
  rw [hP] at HR ⊢
  clear hown hgrow g2 hw3 hP c1 c2 hn1 hmo
  go_wp2_with fail
  go_loopw [11, 32] (fun v i wr => ∃ k : Nat, k ≤ N ∧ i = .int .i64 k ∧ v = .slice (some ⟨w1.heap.size, 0, none⟩) k N ∧ Hid (Rdg w1 wr 34 3 P N ps k ((ps.take k).flatMap fun t => amCells (parseA t).1)) ∧ Hid (∀ j (h : j < ps.length), j < k → (parseA ps[j]).2 = 0)) (fun _ i _ => N - (intOf i).toNat)
  case atStart => exact ⟨0, Nat.zero_le _, rfl, rfl, HR, hide (fun j h hj => absurd hj (Nat.not_lt_zero _))⟩
  case round =>
    obtain ⟨k, hk, rfl, rfl, HR, HZ⟩ := hrel
    by_cases hlt : k < N
    · have hkl : k < ps.length := by omega
      have hpc := (unhide HR).pc k hkl
      have hPl := (unhide HR).lt2
      have ha3 := unhide HA k hkl
      have HT := hide (show (ps.take (k + 1)).flatMap (fun t => amCells (parseA t).1) = (ps.take k).flatMap (fun t => amCells (parseA t).1) ++ amCells (parseA ps[k]).1 by rw [List.take_succ_eq_append_getElem hkl, List.flatMap_append]; simp)
      have HE := hide (fun hn : (parseA ps[k]).2 ≠ 0 => errOf_at (fun t => (parseA t).2) ps k hkl (fun j hj hjk => unhide HZ j hj hjk) hn)
      have HZ' := hide (fun (h0 : (parseA ps[k]).2 = 0) => upto_nx (fun t => (parseA t).2 = 0) ps k hkl (unhide HZ) h0)
      generalize ps[k] = t at *
      have c3 := hide (fun (w' : World) (hb : Below wr.heap.size wr w') => ParseAtom_any t w' (by omega) ha3.1 ((unhide HG).later ((unhide HR).bel.trans (hb.mono (unhide HR).bel.size))))
      rcases hp : parseA t with ⟨⟨an, ao, av⟩, e0⟩
      rw [hp] at c3 HT HE HZ'
      simp only [amV] at c3
      simp only at HE HZ'
      clear hp ha3 HZ
      by_cases he : e0 = 0
      · subst he
        go_wp2_with fail
        refine (unhide c3 _ (Below.refl _ _)).mono ?_
        rintro e w4 ⟨rfl, hb4⟩
        have HR4 := hide ((unhide HR).later hb4)
        clear hb4
        go_wp2_with (first | (at_builtin; go_must (refine wpList_append_fits _ rfl _ _ 39 rfl w1.heap.size 34 i0 3 Tryd.underlying39 hi hz1 w1.heap.size k N _ rfl (((unhide HR4).row.alloc _).alloc _) _ 1 1 [.string an, .int .i64 ao, .string av] rfl rfl (by simpa using cells3_new (w4.alloc _) _ _ _ _) (by simp [Value.oneCell']) (by omega) ?_); intro w5 hown5 hgrow5))
        have HR5 := hide (((unhide HR4).later (((Below.refl _ w4).alloc (Nat.le_refl _) _).alloc (by simp) _)).put hown5 hgrow5)
        clear hown5 hgrow5
        go_wp2_with fail
        go_roundw
        case rel => exact ⟨k + 1, by omega, by go_num, rfl, by rw [unhide HT]; exact HR5, hide (unhide HZ' (by first | trivial | rfl))⟩
        case measure => simp [intOf]; omega
      · have he' : (e0 == 0) = false := by simpa using he
        have HE' := hide (unhide HE he)
        go_wp2_with fail
        refine (unhide c3 _ (Below.refl _ _)).mono ?_
        rintro e w4 ⟨rfl, hb4⟩
        have HB4 := hide ((unhide HR).bel.trans (hb4.mono (unhide HR).bel.size))
        have hq4 := (unhide HB4).size
        have HN := hide he
        clear hb4 he
        go_wp2_with fail
        go_ret2
        rw [unhide HE']
        exact ⟨⟨_, rfl, fun h => absurd h (unhide HN), fun _ => rfl, fun g h => by cases h⟩, (unhide HB4).alloc hq4 _⟩
    · obtain rfl : k = N := by omega
      have HE := hide (errOf_none (fun t => (parseA t).2) ps (fun j hj => unhide HZ j hj (by omega)))
      have HM := hide (show OwnA w1.heap.size _ _ (ps.map fun t => (parseA t).1) by have h := (unhide HR).row; rw [List.take_of_length_le (by omega)] at h; unfold OwnA; rw [List.flatMap_map, List.length_map, hN]; exact h)
      go_wp2_with fail
      go_ret2
      rw [unhide HE]
      exact ⟨⟨_, rfl, fun _ => unhide HM, fun h => absurd rfl h, fun g h => by cases h; exact Nat.le_refl _⟩, (unhide HR).bel⟩

set_option maxRecDepth 100000 in
set_option maxHeartbeats 4000000 in
theorem readRowA_allo (s : ByteArray) (c : UInt8) (most : Nat) (w : World) (hs : s.size ≤ 9223372036854775807) (ha : asc s) (hg : Glob w) :
    Calls Tryd.prog 60 #[.string s, .string ⟨#[c]⟩, .int .i64 most, .func (.func 14) #[] #[]] w fun e w' => (∃ v, e = .returned (.tuple #[v, .int .i64 (rowE (fun t => (parseA t).2) s c most)]) ∧ (rowE (fun t => (parseA t).2) s c most = 0 → OwnA w.heap.size w' v ((pcs s c).map fun t => (parseA t).1)) ∧ (rowE (fun t => (parseA t).2) s c most ≠ 0 → v = .slice none 0 0) ∧ (∀ g, v.ownBlock = some g → w.heap.size ≤ g)) ∧ Below w.heap.size w w' := by
  by_cases h1 : 16777216 < s.size
  · have HF := hide (show rowE (fun t => (parseA t).2) s c most = 2 by unfold rowE; rw [if_pos h1])
    have h2 : ((16777216 : Int) < (s.size : Int)) := by omega
    clear h1 ha hg hs
    go_enter Tryd.func60, Tryd.ntmps60
    go_wp2_with fail
    go_ret2
    rw [unhide HF]
    exact ⟨⟨_, rfl, fun h => absurd h (by decide), fun _ => rfl, fun g h => by cases h⟩, Below.refl _ _⟩
  · by_cases h2 : most < (pcs s c).length
    · have HF := hide (show rowE (fun t => (parseA t).2) s c most = 24 by unfold rowE; rw [if_neg h1, if_pos h2])
      have c1 := hide (cCount s c w (by omega) hg)
      have hl := pcs_len s c
      have hcl := Lib.countB_le ⟨#[c]⟩ (Nat.le_refl _) s.size s (Nat.le_refl _)
      obtain ⟨n, hn⟩ : ∃ n, Lib.countB s ⟨#[c]⟩ = n := ⟨_, rfl⟩
      rw [hn] at c1 hl hcl
      have hn1 : wrap64 ((n : Int) + 1) = (n : Int) + 1 := by unfold wrap64; omega
      have hmo : (most : Int) < (n : Int) + 1 := by omega
      have h3 : ¬ ((16777216 : Int) < (s.size : Int)) := by omega
      clear h1 h2 ha hg hs hn hl hcl
      go_enter Tryd.func60, Tryd.ntmps60
      go_wp2_with fail
      refine (unhide c1).mono ?_
      rintro e w1 ⟨rfl, rfl⟩
      go_wp2_with fail
      go_ret2
      rw [unhide HF]
      exact ⟨⟨_, rfl, fun h => absurd h (by decide), fun _ => rfl, fun g h => by cases h⟩, Below.refl _ _⟩
    · have HF : rowE (fun t => (parseA t).2) s c most = errOf (fun t => (parseA t).2) (pcs s c) := by unfold rowE; rw [if_neg h1, if_neg h2]
      rw [HF]
      exact readRowA_own s c most w (by omega) (by omega) (pcs_asc ha c (by omega)) hg

set_option maxHeartbeats 1000000 in
theorem ParseClause_own (s : ByteArray) (w : World) (hs : s.size ≤ 9223372036854775807) (ha : asc s) (hg : Glob w) :
    Calls Tryd.prog 23 #[.string s] w fun e w' => (∃ v, e = .returned (.tuple #[v, .int .i64 (clE s)]) ∧ (clE s = 0 → OwnA w.heap.size w' v (clL s)) ∧ (clE s ≠ 0 → v = .slice none 0 0) ∧ (∀ g, v.ownBlock = some g → w.heap.size ≤ g)) ∧ Below w.heap.size w w' := by
  have c1 := hide (readRowA_allo s 124 256 w hs ha hg)
  clear hs ha hg
  go_enter Tryd.func23, Tryd.ntmps23
  go_wp2_with fail
  refine (unhide c1).mono ?_
  rintro e w1 ⟨⟨v, rfl, h1, h2⟩, hb⟩
  have HH := hide (And.intro h1 (And.intro h2 hb))
  clear h1 h2 hb
  go_wp2_with fail
  go_ret2
  exact ⟨⟨v, rfl, (unhide HH).1, (unhide HH).2.1⟩, (unhide HH).2.2⟩

set_option maxHeartbeats 2000000 in
theorem readFieldA_own (s : ByteArray) (w : World) (hs : s.size ≤ 9223372036854775807) (ha : asc s) (hg : Glob w) :
    Calls Tryd.prog 56 #[.string s, .func (.func 14) #[] #[]] w fun e w' => (∃ v, e = .returned (.tuple #[v, .int .i64 (afE s)]) ∧ (afE s = 0 → OwnA w.heap.size w' v (afL s)) ∧ (afE s ≠ 0 → v = .slice none 0 0) ∧ (∀ g, v.ownBlock = some g → w.heap.size ≤ g)) ∧ Below w.heap.size w w' := by
  have c1 := hide (cTrimB s w hs)
  have c2 := hide (fun (w' : World) (hb : Below w.heap.size w w') => readRowA_allo s 44 1024 w' hs ha (hg.later hb))
  have hb0 := hide (empty_beq (trimB s))
  by_cases h1 : s.size ≤ 16777216
  · have h1' : ((s.size : Int) ≤ 16777216) := by omega
    by_cases h2 : (trimB s).size = 0
    · have HF := hide (show afE s = 0 ∧ afL s = [] by unfold afE afL; rw [if_pos ⟨h1, h2⟩, if_pos ⟨h1, h2⟩]; exact ⟨rfl, rfl⟩)
      have hb : ((trimB s).toList == []) = true := by rw [unhide hb0]; simpa using h2
      have hbl : (trimB s).toList = [] := eq_of_beq hb
      generalize trimB s = t at *
      clear h1 h2 ha hg hs c2 hb0
      go_enter Tryd.func56, Tryd.ntmps56
      go_wp2_with fail
      refine (unhide c1).mono ?_
      rintro e w1 ⟨rfl, hb1⟩
      have HB1 := hide hb1
      clear hb1
      go_wp2_with fail
      go_ret2
      rw [(unhide HF).1, (unhide HF).2]
      exact ⟨⟨_, rfl, fun _ => OwnA.nil _ _, fun _ => rfl, fun g h => by cases h⟩, unhide HB1⟩
    · have HF := hide (show afE s = rowE (fun t => (parseA t).2) s 44 1024 ∧ afL s = (pcs s 44).map (fun t => (parseA t).1) by unfold afE afL; rw [if_neg (fun h => h2 h.2), if_neg (fun h => h2 h.2)]; exact ⟨rfl, rfl⟩)
      have hb : ((trimB s).toList == []) = false := by rw [unhide hb0]; simpa using h2
      generalize trimB s = t at *
      clear h1 h2 ha hg hs hb0
      go_enter Tryd.func56, Tryd.ntmps56
      go_wp2_with fail
      refine (unhide c1).mono ?_
      rintro e w1 ⟨rfl, hb1⟩
      have HB1 := hide hb1
      clear hb1
      go_wp2_with fail
      refine (unhide c2 _ (unhide HB1)).mono ?_
      rintro e w2 ⟨⟨v, rfl, k1, k2, k3⟩, hb2⟩
      have HH := hide (And.intro k1 (And.intro k2 (And.intro k3 hb2)))
      clear k1 k2 k3 hb2
      go_wp2_with fail
      go_ret2
      rw [(unhide HF).1, (unhide HF).2]
      exact ⟨⟨v, rfl, fun h => ((unhide HH).1 h).mono (unhide HB1).size, (unhide HH).2.1, fun g e => Nat.le_trans (unhide HB1).size ((unhide HH).2.2.1 g e)⟩, bl_t (unhide HB1) (unhide HH).2.2.2⟩
  · have h1' : ¬ ((s.size : Int) ≤ 16777216) := by omega
    have HF := hide (show afE s = rowE (fun t => (parseA t).2) s 44 1024 ∧ afL s = (pcs s 44).map (fun t => (parseA t).1) by unfold afE afL; rw [if_neg (fun h => h1 h.1), if_neg (fun h => h1 h.1)]; exact ⟨rfl, rfl⟩)
    have c3 := hide (unhide c2 w (Below.refl _ _))
    clear h1 ha hg hs hb0 c1 c2
    go_enter Tryd.func56, Tryd.ntmps56
    go_wp2_with fail
    refine (unhide c3).mono ?_
    rintro e w2 ⟨⟨v, rfl, k1, k2, k3⟩, hb2⟩
    have HH := hide (And.intro k1 (And.intro k2 (And.intro k3 hb2)))
    clear k1 k2 k3 hb2
    go_wp2_with fail
    go_ret2
    rw [(unhide HF).1, (unhide HF).2]
    exact ⟨⟨v, rfl, (unhide HH).1, (unhide HH).2.1, (unhide HH).2.2.1⟩, (unhide HH).2.2.2⟩


set_option maxHeartbeats 1000000 in
theorem ParseAtoms_own (s : ByteArray) (w : World) (hs : s.size ≤ 9223372036854775807) (ha : asc s) (hg : Glob w) :
    Calls Tryd.prog 16 #[.string s] w fun e w' => (∃ v, e = .returned (.tuple #[v, .int .i64 (afE s)]) ∧ (afE s = 0 → OwnA w.heap.size w' v (afL s)) ∧ (afE s ≠ 0 → v = .slice none 0 0) ∧ (∀ g, v.ownBlock = some g → w.heap.size ≤ g)) ∧ Below w.heap.size w w' := by
  have c1 := hide (readFieldA_own s w hs ha hg)
  clear hs ha hg
  go_enter Tryd.func16, Tryd.ntmps16
  go_wp2_with fail
  refine (unhide c1).mono ?_
  rintro e w1 ⟨⟨v, rfl, h1, h2⟩, hb⟩
  have HH := hide (And.intro h1 (And.intro h2 hb))
  clear h1 h2 hb
  go_wp2_with fail
  go_ret2
  exact ⟨⟨v, rfl, (unhide HH).1, (unhide HH).2.1⟩, (unhide HH).2.2⟩

set_option maxRecDepth 100000 in
set_option maxHeartbeats 4000000 in
theorem readRowN_own (s : ByteArray) (c : UInt8) (most : Int) (w : World) (hs : s.size ≤ 16777216) (hm : ((pcs s c).length : Int) ≤ most) (ha : ∀ j (h : j < (pcs s c).length), asc (pcs s c)[j] ∧ (pcs s c)[j].size ≤ 16777216) (hg : Glob w) :
    Calls Tryd.prog 92 #[.string s, .string ⟨#[c]⟩, .int .i64 most, .func (.func 59) #[] #[]] w fun e w' => (∃ v, e = .returned (.tuple #[v, .int .i64 (errOf (fun t => (rdN t).2) (pcs s c))]) ∧ (errOf (fun t => (rdN t).2) (pcs s c) = 0 → OwnS w.heap.size w' v ((pcs s c).map fun t => (rdN t).1)) ∧ (errOf (fun t => (rdN t).2) (pcs s c) ≠ 0 → v = .slice none 0 0) ∧ (∀ g, v.ownBlock = some g → w.heap.size ≤ g)) ∧ Below w.heap.size w w' := by
  have c1 := hide (cCount s c w (by omega) hg)
  have c2 := hide (fun w hg => cSplit s c w (by omega) hg)
  have hl := pcs_len s c
  have hcl := Lib.countB_le ⟨#[c]⟩ (Nat.le_refl _) s.size s (Nat.le_refl _)
  have HG := hide hg
  have h1 : ¬ ((16777216 : Int) < (s.size : Int)) := by omega
  clear hg
  obtain ⟨ps, hps⟩ : ∃ ps, pcs s c = ps := ⟨_, rfl⟩
  obtain ⟨n, hn⟩ : ∃ n, Lib.countB s ⟨#[c]⟩ = n := ⟨_, rfl⟩
  rw [hps] at hm ha c2 hl ⊢
  rw [hn] at c1 hl hcl
  clear hps hn
  have HA := hide ha
  clear ha
  obtain ⟨N, hN⟩ : ∃ N : Nat, ps.length = N := ⟨_, rfl⟩
  have hNs : N ≤ 16777217 := by omega
  have hn1 : wrap64 ((n : Int) + 1) = (N : Int) := by unfold wrap64; omega
  have hmo : ¬ most < (N : Int) := by omega
  rw [hN] at c2
  clear hm hl hcl
  obtain ⟨i0, hi, hz0, hz1, hz2⟩ := info_parts info9
  clear hs
  go_enter Tryd.func92, Tryd.ntmps92
  go_wp2_with fail
  refine (unhide c1).mono ?_
  rintro e w1 ⟨rfl, rfl⟩
  go_wp2_with (first | (at_make; go_must (refine wpList_make_own _ rfl _ _ 44 rfl w1.heap.size 9 i0 (.string ⟨#[]⟩) 1 Tryd.underlying44 hi hz0 hz1 _ _ _ N rfl rfl hn1 (by rw [hz2]; omega) (by unfold maxLen; omega) (Nat.le_refl _) ?_); intro w2 hown hgrow))
  have g2 : Glob w2 := (unhide HG).later ((Below.refl _ w1).grown hgrow (Nat.le_refl _) (fun k h => by cases h))
  refine (unhide c2 _ g2).mono ?_
  rintro e w3 ⟨rfl, hw3⟩
  have HR := hide (Rdg.start (ps := ps) hown hgrow 9)
  rw [← hw3] at HR
  obtain ⟨P, hP⟩ : ∃ P, w2.heap.size = P := ⟨_, rfl⟩
  rw [hP] at HR ⊢
  clear hown hgrow g2 hw3 hP c1 c2 hn1 hmo
  go_wp2_with fail
  go_loopw [11, 32] (fun v i wr => ∃ k : Nat, k ≤ N ∧ i = .int .i64 k ∧ v = .slice (some ⟨w1.heap.size, 0, none⟩) k N ∧ Hid (Rdg w1 wr 9 1 P N ps k ((ps.take k).map fun t => Value.string (rdN t).1)) ∧ Hid (∀ j (h : j < ps.length), j < k → (rdN ps[j]).2 = 0)) (fun _ i _ => N - (intOf i).toNat)
  case atStart => exact ⟨0, Nat.zero_le _, rfl, rfl, HR, hide (fun j h hj => absurd hj (Nat.not_lt_zero _))⟩
  case round =>
    obtain ⟨k, hk, rfl, rfl, HR, HZ⟩ := hrel
    by_cases hlt : k < N
    · have hkl : k < ps.length := by omega
      have hpc := (unhide HR).pc k hkl
      have hPl := (unhide HR).lt2
      have ha3 := unhide HA k hkl
      have HT := hide (show (ps.take (k + 1)).map (fun t => Value.string (rdN t).1) = (ps.take k).map (fun t => Value.string (rdN t).1) ++ [Value.string (rdN ps[k]).1] by rw [List.take_succ_eq_append_getElem hkl, List.map_append]; rfl)
      have HE := hide (fun hn : (rdN ps[k]).2 ≠ 0 => errOf_at (fun t => (rdN t).2) ps k hkl (fun j hj hjk => unhide HZ j hj hjk) hn)
      have HZ' := hide (fun (h0 : (rdN ps[k]).2 = 0) => upto_nx (fun t => (rdN t).2 = 0) ps k hkl (unhide HZ) h0)
      generalize ps[k] = t at *
      have c3 := hide (fun (w' : World) => readName_any t w' (by omega))
      rcases hp : rdN t with ⟨tx, e0⟩
      rw [hp] at c3 HT HE HZ'
      simp only at c3 HT HE HZ'
      clear hp ha3 HZ
      by_cases he : e0 = 0
      · subst he
        go_wp2_with fail
        refine (unhide c3 _).mono ?_
        rintro e w4 ⟨rfl, hb4⟩
        have HR4 := hide ((unhide HR).later hb4)
        clear hb4
        go_wp2_with (first | (at_builtin; go_must (refine wpList_append_fits _ rfl _ _ 44 rfl w1.heap.size 9 i0 1 Tryd.underlying44 hi hz1 w1.heap.size k N _ rfl ((unhide HR4).row.alloc _) _ 1 1 [.string tx] rfl rfl (by simpa using cells1_new w4 _ _) (by simp [Value.oneCell']) (by omega) ?_); intro w5 hown5 hgrow5))
        have HR5 := hide (((unhide HR4).later ((Below.refl _ w4).alloc (Nat.le_refl _) _)).put hown5 hgrow5)
        clear hown5 hgrow5
        go_wp2_with fail
        go_roundw
        case rel => exact ⟨k + 1, by omega, by go_num, rfl, by rw [unhide HT]; exact HR5, hide (unhide HZ' (by first | trivial | rfl))⟩
        case measure => simp [intOf]; omega
      · have he' : (e0 == 0) = false := by simpa using he
        have HE' := hide (unhide HE he)
        go_wp2_with fail
        refine (unhide c3 _).mono ?_
        rintro e w4 ⟨rfl, hb4⟩
        have HB4 := hide ((unhide HR).bel.trans (hb4.mono (unhide HR).bel.size))
        have hq4 := (unhide HB4).size
        have HN := hide he
        clear hb4 he
        go_wp2_with fail
        go_ret2
        rw [unhide HE']
        exact ⟨⟨_, rfl, fun h => absurd h (unhide HN), fun _ => rfl, fun g h => by cases h⟩, unhide HB4⟩
    · obtain rfl : k = N := by omega
      have HE := hide (errOf_none (fun t => (rdN t).2) ps (fun j hj => unhide HZ j hj (by omega)))
      have HM := hide (show OwnS w1.heap.size _ _ (ps.map fun t => (rdN t).1) by have h := (unhide HR).row; rw [List.take_of_length_le (by omega)] at h; unfold OwnS; rw [List.map_map, List.length_map, hN]; exact h)
      go_wp2_with fail
      go_ret2
      rw [unhide HE]
      exact ⟨⟨_, rfl, fun _ => unhide HM, fun h => absurd rfl h, fun g h => by cases h; exact Nat.le_refl _⟩, (unhide HR).bel⟩


set_option maxRecDepth 100000 in
set_option maxHeartbeats 4000000 in
theorem readRowN_allo (s : ByteArray) (c : UInt8) (most : Nat) (w : World) (hs : s.size ≤ 9223372036854775807) (ha : asc s) (hg : Glob w) :
    Calls Tryd.prog 92 #[.string s, .string ⟨#[c]⟩, .int .i64 most, .func (.func 59) #[] #[]] w fun e w' => (∃ v, e = .returned (.tuple #[v, .int .i64 (rowE (fun t => (rdN t).2) s c most)]) ∧ (rowE (fun t => (rdN t).2) s c most = 0 → OwnS w.heap.size w' v ((pcs s c).map fun t => (rdN t).1)) ∧ (rowE (fun t => (rdN t).2) s c most ≠ 0 → v = .slice none 0 0) ∧ (∀ g, v.ownBlock = some g → w.heap.size ≤ g)) ∧ Below w.heap.size w w' := by
  by_cases h1 : 16777216 < s.size
  · have HF := hide (show rowE (fun t => (rdN t).2) s c most = 2 by unfold rowE; rw [if_pos h1])
    have h2 : ((16777216 : Int) < (s.size : Int)) := by omega
    clear h1 ha hg hs
    go_enter Tryd.func92, Tryd.ntmps92
    go_wp2_with fail
    go_ret2
    rw [unhide HF]
    exact ⟨⟨_, rfl, fun h => absurd h (by decide), fun _ => rfl, fun g h => by cases h⟩, Below.refl _ _⟩
  · by_cases h2 : most < (pcs s c).length
    · have HF := hide (show rowE (fun t => (rdN t).2) s c most = 24 by unfold rowE; rw [if_neg h1, if_pos h2])
      have c1 := hide (cCount s c w (by omega) hg)
      have hl := pcs_len s c
      have hcl := Lib.countB_le ⟨#[c]⟩ (Nat.le_refl _) s.size s (Nat.le_refl _)
      obtain ⟨n, hn⟩ : ∃ n, Lib.countB s ⟨#[c]⟩ = n := ⟨_, rfl⟩
      rw [hn] at c1 hl hcl
      have hn1 : wrap64 ((n : Int) + 1) = (n : Int) + 1 := by unfold wrap64; omega
      have hmo : (most : Int) < (n : Int) + 1 := by omega
      have h3 : ¬ ((16777216 : Int) < (s.size : Int)) := by omega
      clear h1 h2 ha hg hs hn hl hcl
      go_enter Tryd.func92, Tryd.ntmps92
      go_wp2_with fail
      refine (unhide c1).mono ?_
      rintro e w1 ⟨rfl, rfl⟩
      go_wp2_with fail
      go_ret2
      rw [unhide HF]
      exact ⟨⟨_, rfl, fun h => absurd h (by decide), fun _ => rfl, fun g h => by cases h⟩, Below.refl _ _⟩
    · have HF : rowE (fun t => (rdN t).2) s c most = errOf (fun t => (rdN t).2) (pcs s c) := by unfold rowE; rw [if_neg h1, if_neg h2]
      rw [HF]
      exact readRowN_own s c most w (by omega) (by omega) (pcs_asc ha c (by omega)) hg

set_option maxHeartbeats 2000000 in
theorem readFieldN_own (s : ByteArray) (w : World) (hs : s.size ≤ 9223372036854775807) (ha : asc s) (hg : Glob w) :
    Calls Tryd.prog 58 #[.string s, .func (.func 59) #[] #[]] w fun e w' => (∃ v, e = .returned (.tuple #[v, .int .i64 (nfE s)]) ∧ (nfE s = 0 → OwnS w.heap.size w' v (nfL s)) ∧ (nfE s ≠ 0 → v = .slice none 0 0) ∧ (∀ g, v.ownBlock = some g → w.heap.size ≤ g)) ∧ Below w.heap.size w w' := by
  have c1 := hide (cTrimB s w hs)
  have c2 := hide (fun (w' : World) (hb : Below w.heap.size w w') => readRowN_allo s 44 1024 w' hs ha (hg.later hb))
  have hb0 := hide (empty_beq (trimB s))
  by_cases h1 : s.size ≤ 16777216
  · have h1' : ((s.size : Int) ≤ 16777216) := by omega
    by_cases h2 : (trimB s).size = 0
    · have HF := hide (show nfE s = 0 ∧ nfL s = [] by unfold nfE nfL; rw [if_pos ⟨h1, h2⟩, if_pos ⟨h1, h2⟩]; exact ⟨rfl, rfl⟩)
      have hb : ((trimB s).toList == []) = true := by rw [unhide hb0]; simpa using h2
      have hbl : (trimB s).toList = [] := eq_of_beq hb
      generalize trimB s = t at *
      clear h1 h2 ha hg hs c2 hb0
      go_enter Tryd.func58, Tryd.ntmps58
      go_wp2_with fail
      refine (unhide c1).mono ?_
      rintro e w1 ⟨rfl, hb1⟩
      have HB1 := hide hb1
      clear hb1
      go_wp2_with fail
      go_ret2
      rw [(unhide HF).1, (unhide HF).2]
      exact ⟨⟨_, rfl, fun _ => OwnS.nil _ _, fun _ => rfl, fun g h => by cases h⟩, unhide HB1⟩
    · have HF := hide (show nfE s = rowE (fun t => (rdN t).2) s 44 1024 ∧ nfL s = (pcs s 44).map (fun t => (rdN t).1) by unfold nfE nfL; rw [if_neg (fun h => h2 h.2), if_neg (fun h => h2 h.2)]; exact ⟨rfl, rfl⟩)
      have hb : ((trimB s).toList == []) = false := by rw [unhide hb0]; simpa using h2
      generalize trimB s = t at *
      clear h1 h2 ha hg hs hb0
      go_enter Tryd.func58, Tryd.ntmps58
      go_wp2_with fail
      refine (unhide c1).mono ?_
      rintro e w1 ⟨rfl, hb1⟩
      have HB1 := hide hb1
      clear hb1
      go_wp2_with fail
      refine (unhide c2 _ (unhide HB1)).mono ?_
      rintro e w2 ⟨⟨v, rfl, k1, k2, k3⟩, hb2⟩
      have HH := hide (And.intro k1 (And.intro k2 (And.intro k3 hb2)))
      clear k1 k2 k3 hb2
      go_wp2_with fail
      go_ret2
      rw [(unhide HF).1, (unhide HF).2]
      exact ⟨⟨v, rfl, fun h => ((unhide HH).1 h).mono (unhide HB1).size, (unhide HH).2.1, fun g e => Nat.le_trans (unhide HB1).size ((unhide HH).2.2.1 g e)⟩, bl_t (unhide HB1) (unhide HH).2.2.2⟩
  · have h1' : ¬ ((s.size : Int) ≤ 16777216) := by omega
    have HF := hide (show nfE s = rowE (fun t => (rdN t).2) s 44 1024 ∧ nfL s = (pcs s 44).map (fun t => (rdN t).1) by unfold nfE nfL; rw [if_neg (fun h => h1 h.1), if_neg (fun h => h1 h.1)]; exact ⟨rfl, rfl⟩)
    have c3 := hide (unhide c2 w (Below.refl _ _))
    clear h1 ha hg hs hb0 c1 c2
    go_enter Tryd.func58, Tryd.ntmps58
    go_wp2_with fail
    refine (unhide c3).mono ?_
    rintro e w2 ⟨⟨v, rfl, k1, k2, k3⟩, hb2⟩
    have HH := hide (And.intro k1 (And.intro k2 (And.intro k3 hb2)))
    clear k1 k2 k3 hb2
    go_wp2_with fail
    go_ret2
    rw [(unhide HF).1, (unhide HF).2]
    exact ⟨⟨v, rfl, (unhide HH).1, (unhide HH).2.1, (unhide HH).2.2.1⟩, (unhide HH).2.2.2⟩


set_option maxHeartbeats 1000000 in
theorem ParseNames_own (s : ByteArray) (w : World) (hs : s.size ≤ 9223372036854775807) (ha : asc s) (hg : Glob w) :
    Calls Tryd.prog 18 #[.string s] w fun e w' => (∃ v, e = .returned (.tuple #[v, .int .i64 (nfE s)]) ∧ (nfE s = 0 → OwnS w.heap.size w' v (nfL s)) ∧ (nfE s ≠ 0 → v = .slice none 0 0) ∧ (∀ g, v.ownBlock = some g → w.heap.size ≤ g)) ∧ Below w.heap.size w w' := by
  have c1 := hide (readFieldN_own s w hs ha hg)
  clear hs ha hg
  go_enter Tryd.func18, Tryd.ntmps18
  go_wp2_with fail
  refine (unhide c1).mono ?_
  rintro e w1 ⟨⟨v, rfl, h1, h2⟩, hb⟩
  have HH := hide (And.intro h1 (And.intro h2 hb))
  clear h1 h2 hb
  go_wp2_with fail
  go_ret2
  exact ⟨⟨v, rfl, (unhide HH).1, (unhide HH).2.1⟩, (unhide HH).2.2⟩

end Go.Proofs.YtfembjjpmjfklaaDoor
