import Derived.Test.YtfembjjpmjfklaaDoorRelR
namespace Go.Proofs.YtfembjjpmjfklaaDoor
open Go.RowKit

theorem Ams.grown {w w' : World} {v : Value} {al : List Am} {r : Nat} (h : Ams w v al) (hg : w.grownBy w' (some r)) (hne : ∀ g, v.ownBlock = some g → g ≠ r) : Ams w' v al := by
  obtain ⟨a, c, rfl, h2, h3⟩ := h
  refine ⟨a, c, rfl, h2, fun i hi => ?_⟩
  obtain ⟨b, o, rfl, e2, e3, e4, e5⟩ := h3 i hi
  have hb : some b ≠ some r := fun e => hne b rfl (Option.some.inj e)
  exact ⟨b, o, rfl, Nat.lt_of_lt_of_le e2 hg.size, hg.cell e3 hb, hg.cell e4 hb, hg.cell e5 hb⟩

/-- THESE VALUES ARE SLICES OF THESE ATOMS, in blocks above lo. -/
def Cvs (lo : Nat) (w : World) (vs : List Value) (cl : List (List Am)) : Prop := vs.length = cl.length ∧ ∀ i (h : i < cl.length), ∃ x, vs[i]? = some x ∧ Ams w x cl[i] ∧ ∀ g, x.ownBlock = some g → lo < g
theorem Cvs.later {lo : Nat} {w w' : World} {vs : List Value} {cl : List (List Am)} (h : Cvs lo w vs cl) (hb : Below w.heap.size w w') : Cvs lo w' vs cl :=
  ⟨h.1, fun i hi => by obtain ⟨x, h1, h2, h3⟩ := h.2 i hi; exact ⟨x, h1, h2.later hb, h3⟩⟩
theorem Cvs.grown {lo : Nat} {w w' : World} {vs : List Value} {cl : List (List Am)} (h : Cvs lo w vs cl) (hg : w.grownBy w' (some lo)) : Cvs lo w' vs cl :=
  ⟨h.1, fun i hi => by obtain ⟨x, h1, h2, h3⟩ := h.2 i hi; exact ⟨x, h1, h2.grown hg (fun g e => by have := h3 g e; omega), h3⟩⟩
theorem Cvs.put {lo : Nat} {w : World} {vs : List Value} {cl : List (List Am)} {x : Value} {c : List Am} (h : Cvs lo w vs cl) (hx : Ams w x c) (hl : ∀ g, x.ownBlock = some g → lo < g) : Cvs lo w (vs ++ [x]) (cl ++ [c]) := by
  refine ⟨by simp [h.1], fun i hi => ?_⟩
  by_cases hlt : i < cl.length
  · obtain ⟨y, h1, h2, h3⟩ := h.2 i hlt
    exact ⟨y, by rw [List.getElem?_append_left (by rw [h.1]; exact hlt)]; exact h1, by rw [List.getElem_append_left hlt]; exact h2, h3⟩
  · obtain rfl : i = cl.length := by simp at hi; omega
    exact ⟨x, by rw [List.getElem?_append_right (by rw [h.1]; exact Nat.le_refl _), h.1]; simp, by simpa using hx, hl⟩

/-- A SLICE OF THESE CLAUSES. -/
def Cls (w : World) (v : Value) (cl : List (List Am)) : Prop :=
  ∃ a c, v = .slice a cl.length c ∧ cl.length ≤ 9223372036854775807 ∧ ∀ i (h : i < cl.length), ∃ b o x, a = some ⟨b, o, none⟩ ∧ b < w.heap.size ∧ w.cell? ⟨b, o + i, none⟩ = some x ∧ Ams w x cl[i]
theorem Cls.later {w w' : World} {v : Value} {cl : List (List Am)} (h : Cls w v cl) (hb : Below w.heap.size w w') : Cls w' v cl := by
  obtain ⟨a, c, h1, h2, h3⟩ := h
  refine ⟨a, c, h1, h2, fun i hi => ?_⟩
  obtain ⟨b, o, x, e1, e2, e3, e4⟩ := h3 i hi
  exact ⟨b, o, x, e1, Nat.lt_of_lt_of_le e2 hb.size, (hb.cell (p := ⟨b, _, none⟩) e2).trans e3, e4.later hb⟩

theorem cells1_new (w : World) (a : Value) (t : TypeId) : ∀ j u, [a][j]? = some u → (w.alloc (.cells #[a] t)).cell? ((⟨w.heap.size, 0, none⟩ : Addr).add j) = some u := by
  intro j u h
  rw [Go.WideShapes.add_plain, World.cell?_alloc_at _ _ _ _ rfl]
  simpa using h

theorem infoC : (Tryd.prog.info? 52).map (fun i => (i.zero, i.size, i.bytes)) = some (some (.slice none 0 0), 1, 24) := by kernel_rfl

theorem Rdg.cls {w wr : World} {P N : Nat} {ps : List ByteArray} {k : Nat} {vs : List Value} {cl : List (List Am)} (h : Rdg w wr 52 1 P N ps k vs) (hv : Cvs w.heap.size wr vs cl) (hk : cl.length = k) (hN : N ≤ 16777217) (hkN : k ≤ N) : Cls wr (.slice (some ⟨w.heap.size, 0, none⟩) k N) cl := by
  subst hk
  refine ⟨_, _, rfl, by omega, fun i hi => ?_⟩
  obtain ⟨x, h1, h2, -⟩ := hv.2 i hi
  have := h.row.cells (g := w.heap.size) rfl i _ h1
  rw [Go.WideShapes.add_plain] at this
  exact ⟨w.heap.size, 0, x, rfl, (h.row.lt _ rfl).2, this, h2⟩

set_option maxRecDepth 100000 in
set_option maxHeartbeats 4000000 in
theorem readRowC_any (s : ByteArray) (c : UInt8) (most : Int) (w : World) (hs : s.size ≤ 16777216) (hm : ((pcs s c).length : Int) ≤ most) (ha : ∀ j (h : j < (pcs s c).length), asc (pcs s c)[j] ∧ (pcs s c)[j].size ≤ 16777216) (hg : Glob w) :
    Calls Tryd.prog 74 #[.string s, .string ⟨#[c]⟩, .int .i64 most, .func (.func 23) #[] #[]] w fun e w' => (∃ v, e = .returned (.tuple #[v, .int .i64 (errOf clE (pcs s c))]) ∧ (errOf clE (pcs s c) = 0 → Cls w' v ((pcs s c).map clL)) ∧ (errOf clE (pcs s c) ≠ 0 → v = .slice none 0 0) ∧ (∀ g, v.ownBlock = some g → w.heap.size ≤ g)) ∧ Below w.heap.size w w' := by
  have c1 := hide (cCount s c w (by omega) hg)
  have c2 := hide (fun w hg => cSplit s c w (by omega) hg)
  have hl := pcs_len s c
  have hcl := Lib.countB_le ⟨#[c]⟩ (Nat.le_refl _) s.size s (Nat.le_refl _)
  have HG := hide hg
  have h1 : ¬ ((16777216 : Int) < (s.size : Int)) := by omega
  clear hg
  obtain ⟨ps, hps⟩ : ∃ ps, pcs s c = ps := ⟨_, rfl⟩
  obtain ⟨n, hn⟩ : ∃ n, Lib.countB s ⟨#[c]⟩ = n := ⟨_, rfl⟩
  rw [hps] at hm ha c2 hl ⊢
  rw [hn] at c1 hl hcl
  clear hps hn
  have HA := hide ha
  clear ha
  obtain ⟨N, hN⟩ : ∃ N : Nat, ps.length = N := ⟨_, rfl⟩
  have hNs : N ≤ 16777217 := by omega
  have hn1 : wrap64 ((n : Int) + 1) = (N : Int) := by unfold wrap64; omega
  have hmo : ¬ most < (N : Int) := by omega
  rw [hN] at c2
  clear hm hl hcl
  obtain ⟨i0, hi, hz0, hz1, hz2⟩ := info_parts infoC
  clear hs
  go_enter Tryd.func74, Tryd.ntmps74
  go_wp2_with fail
  refine (unhide c1).mono ?_
  rintro e w1 ⟨rfl, rfl⟩
  go_wp2_with (first | (at_make; go_must (refine wpList_make_own _ rfl _ _ 22 rfl w1.heap.size 52 i0 (.slice none 0 0) 1 Tryd.underlying22 hi hz0 hz1 _ _ _ N rfl rfl hn1 (by rw [hz2]; omega) (by unfold maxLen; omega) (Nat.le_refl _) ?_); intro w2 hown hgrow))
  have g2 : Glob w2 := (unhide HG).later ((Below.refl _ w1).grown hgrow (Nat.le_refl _) (fun k h => by cases h))
  refine (unhide c2 _ g2).mono ?_
  rintro e w3 ⟨rfl, hw3⟩
  have HR := hide (Rdg.start (ps := ps) hown hgrow 9)
  rw [← hw3] at HR
  obtain ⟨P, hP⟩ : ∃ P, w2.heap.size = P := ⟨_, rfl⟩
  rw [hP] at HR ⊢
  clear hown hgrow g2 hw3 hP c1 c2 hn1 hmo
  go_wp2_with fail
  go_loopw [11, 32] (fun v i wr => ∃ (k : Nat) (vs : List Value), k ≤ N ∧ i = .int .i64 k ∧ v = .slice (some ⟨w1.heap.size, 0, none⟩) k N ∧ Hid (Rdg w1 wr 52 1 P N ps k vs ∧ Cvs w1.heap.size wr vs ((ps.take k).map clL)) ∧ Hid (∀ j (h : j < ps.length), j < k → clE ps[j] = 0)) (fun _ i _ => N - (intOf i).toNat)
  case atStart => exact ⟨0, [], Nat.zero_le _, rfl, rfl, hide ⟨unhide HR, rfl, fun i h => absurd h (Nat.not_lt_zero _)⟩, hide (fun j h hj => absurd hj (Nat.not_lt_zero _))⟩
  case round =>
    obtain ⟨k, vs, hk, rfl, rfl, HRV, HZ⟩ := hrel
    have HR := hide (unhide HRV).1
    have HV := hide (unhide HRV).2
    clear HRV
    by_cases hlt : k < N
    · have hkl : k < ps.length := by omega
      have hpc := (unhide HR).pc k hkl
      have hPl := (unhide HR).lt2
      have ha3 := unhide HA k hkl
      have HT := hide (show (ps.take (k + 1)).map clL = (ps.take k).map clL ++ [clL ps[k]] by rw [List.take_succ_eq_append_getElem hkl, List.map_append]; rfl)
      have HE := hide (fun hn : clE ps[k] ≠ 0 => errOf_at clE ps k hkl (fun j hj hjk => unhide HZ j hj hjk) hn)
      have HZ' := hide (fun (h0 : clE ps[k] = 0) => upto_nx (fun t => clE t = 0) ps k hkl (unhide HZ) h0)
      generalize ps[k] = t at *
      have c3 := hide (fun (w' : World) (hb : Below wr.heap.size wr w') => ParseClause_any t w' (by omega) ha3.1 ((unhide HG).later ((unhide HR).bel.trans (hb.mono (unhide HR).bel.size))))
      clear ha3 HZ
      by_cases he : clE t = 0
      · rw [he] at c3
        go_wp2_with fail
        refine (unhide c3 _ (Below.refl _ _)).mono ?_
        rintro e w4 ⟨⟨x, rfl, hx, -, hfr⟩, hb4⟩
        have HFr := hide (fun g e => Nat.lt_of_lt_of_le (Nat.lt_trans (unhide HR).lt (unhide HR).lt2) (hfr g e))
        have HR4 := hide ((unhide HR).later hb4)
        have HV4 := hide ((unhide HV).later hb4)
        have HX := hide (hx (by first | trivial | rfl))
        obtain ⟨xa, xc, rfl, -⟩ := unhide HX
        clear hb4 hx hfr
        go_wp2_with (first | (at_builtin; go_must (refine wpList_append_fits _ rfl _ _ 22 rfl w1.heap.size 52 i0 1 Tryd.underlying22 hi hz1 w1.heap.size k N _ rfl ((unhide HR4).row.alloc _) _ 1 1 [.slice xa (clL t).length xc] rfl rfl (by simpa using cells1_new w4 _ _) (by simp [Value.oneCell']) (by omega) ?_); intro w5 hown5 hgrow5))
        have hba : Below w4.heap.size w4 (w4.alloc (.cells #[.slice xa (clL t).length xc] 52)) := (Below.refl _ w4).alloc (Nat.le_refl _) _
        have HR5 := hide (((unhide HR4).later hba).put hown5 hgrow5)
        have HV5 := hide ((((unhide HV4).later hba).grown hgrow5).put (((unhide HX).later hba).grown hgrow5 (fun g e => by have := unhide HFr g e; omega)) (unhide HFr))
        clear hown5 hgrow5 hba
        go_wp2_with fail
        go_roundw
        case rel => exact ⟨k + 1, _, by omega, by go_num, rfl, by rw [unhide HT]; exact hide ⟨unhide HR5, unhide HV5⟩, hide (unhide HZ' he)⟩
        case measure => simp [intOf]; omega
      · have he' : (clE t == 0) = false := by simpa using he
        have HE' := hide (unhide HE he)
        go_wp2_with fail
        refine (unhide c3 _ (Below.refl _ _)).mono ?_
        rintro e w4 ⟨⟨x, rfl, -, hx, -⟩, hb4⟩
        have HB4 := hide ((unhide HR).bel.trans (hb4.mono (unhide HR).bel.size))
        have hq4 := (unhide HB4).size
        have HN := hide he
        obtain rfl := hx he
        clear hb4 he hx
        go_wp2_with fail
        go_ret2
        rw [unhide HE']
        exact ⟨⟨_, rfl, fun h => absurd h (unhide HN), fun _ => rfl, fun g h => by cases h⟩, unhide HB4⟩
    · obtain rfl : k = N := by omega
      have HE := hide (errOf_none clE ps (fun j hj => unhide HZ j hj (by omega)))
      have HM := hide (Rdg.cls (cl := ps.map clL) (unhide HR) (by have h := unhide HV; rw [List.take_of_length_le (by omega)] at h; exact h) (by simpa using hN) hNs (Nat.le_refl _))
      go_wp2_with fail
      go_ret2
      rw [unhide HE]
      exact ⟨⟨_, rfl, fun _ => unhide HM, fun h => absurd rfl h, fun g h => by cases h; exact Nat.le_refl _⟩, (unhide HR).bel⟩

set_option maxRecDepth 100000 in
set_option maxHeartbeats 4000000 in
theorem readRowC_all (s : ByteArray) (c : UInt8) (most : Nat) (w : World) (hs : s.size ≤ 9223372036854775807) (ha : asc s) (hg : Glob w) :
    Calls Tryd.prog 74 #[.string s, .string ⟨#[c]⟩, .int .i64 most, .func (.func 23) #[] #[]] w fun e w' => (∃ v, e = .returned (.tuple #[v, .int .i64 (rowE clE s c most)]) ∧ (rowE clE s c most = 0 → Cls w' v ((pcs s c).map clL)) ∧ (rowE clE s c most ≠ 0 → v = .slice none 0 0) ∧ (∀ g, v.ownBlock = some g → w.heap.size ≤ g)) ∧ Below w.heap.size w w' := by
  by_cases h1 : 16777216 < s.size
  · have HF := hide (show rowE clE s c most = 2 by unfold rowE; rw [if_pos h1])
    have h2 : ((16777216 : Int) < (s.size : Int)) := by omega
    clear h1 ha hg hs
    go_enter Tryd.func74, Tryd.ntmps74
    go_wp2_with fail
    go_ret2
    rw [unhide HF]
    exact ⟨⟨_, rfl, fun h => absurd h (by decide), fun _ => rfl, fun g h => by cases h⟩, Below.refl _ _⟩
  · by_cases h2 : most < (pcs s c).length
    · have HF := hide (show rowE clE s c most = 24 by unfold rowE; rw [if_neg h1, if_pos h2])
      have c1 := hide (cCount s c w (by omega) hg)
      have hl := pcs_len s c
      have hcl := Lib.countB_le ⟨#[c]⟩ (Nat.le_refl _) s.size s (Nat.le_refl _)
      obtain ⟨n, hn⟩ : ∃ n, Lib.countB s ⟨#[c]⟩ = n := ⟨_, rfl⟩
      rw [hn] at c1 hl hcl
      have hn1 : wrap64 ((n : Int) + 1) = (n : Int) + 1 := by unfold wrap64; omega
      have hmo : (most : Int) < (n : Int) + 1 := by omega
      have h3 : ¬ ((16777216 : Int) < (s.size : Int)) := by omega
      clear h1 h2 ha hg hs hn hl hcl
      go_enter Tryd.func74, Tryd.ntmps74
      go_wp2_with fail
      refine (unhide c1).mono ?_
      rintro e w1 ⟨rfl, rfl⟩
      go_wp2_with fail
      go_ret2
      rw [unhide HF]
      exact ⟨⟨_, rfl, fun h => absurd h (by decide), fun _ => rfl, fun g h => by cases h⟩, Below.refl _ _⟩
    · have HF : rowE clE s c most = errOf clE (pcs s c) := by unfold rowE; rw [if_neg h1, if_neg h2]
      rw [HF]
      exact readRowC_any s c most w (by omega) (by omega) (pcs_asc ha c (by omega)) hg


/-- A FIELD READ. -/
def fdE (s : ByteArray) : Int := if s.size ≤ 16777216 ∧ (trimB s).size = 0 then 0 else rowE clE s 44 1024
def fdL (s : ByteArray) : List (List Am) := if s.size ≤ 16777216 ∧ (trimB s).size = 0 then [] else (pcs s 44).map clL

theorem empty_beq (s : ByteArray) : (s.toList == []) = decide (s.size = 0) := by
  rw [Lib.toList_data]
  have h := size_list s
  cases hl : s.data.toList with
  | nil => rw [hl] at h; simp at h; simp [← h]
  | cons a l => rw [hl] at h; simp at h; simp [← h]

set_option maxHeartbeats 2000000 in
theorem readFieldC_any (s : ByteArray) (w : World) (hs : s.size ≤ 9223372036854775807) (ha : asc s) (hg : Glob w) :
    Calls Tryd.prog 46 #[.string s, .func (.func 23) #[] #[]] w fun e w' => (∃ v, e = .returned (.tuple #[v, .int .i64 (fdE s)]) ∧ (fdE s = 0 → Cls w' v (fdL s)) ∧ (fdE s ≠ 0 → v = .slice none 0 0) ∧ (∀ g, v.ownBlock = some g → w.heap.size ≤ g)) ∧ Below w.heap.size w w' := by
  have c1 := hide (cTrimB s w hs)
  have c2 := hide (fun (w' : World) (hb : Below w.heap.size w w') => readRowC_all s 44 1024 w' hs ha (hg.later hb))
  have hb0 := hide (empty_beq (trimB s))
  by_cases h1 : s.size ≤ 16777216
  · have h1' : ((s.size : Int) ≤ 16777216) := by omega
    by_cases h2 : (trimB s).size = 0
    · have HF := hide (show fdE s = 0 ∧ fdL s = [] by unfold fdE fdL; rw [if_pos ⟨h1, h2⟩, if_pos ⟨h1, h2⟩]; exact ⟨rfl, rfl⟩)
      have hb : ((trimB s).toList == []) = true := by rw [unhide hb0]; simpa using h2
      have hbl : (trimB s).toList = [] := eq_of_beq hb
      generalize trimB s = t at *
      clear h1 h2 ha hg hs c2 hb0
      go_enter Tryd.func46, Tryd.ntmps46
      go_wp2_with fail
      refine (unhide c1).mono ?_
      rintro e w1 ⟨rfl, hb1⟩
      have HB1 := hide hb1
      clear hb1
      go_wp2_with fail
      go_ret2
      rw [(unhide HF).1, (unhide HF).2]
      exact ⟨⟨_, rfl, fun _ => ⟨none, 0, rfl, by simp, fun i h => absurd h (Nat.not_lt_zero _)⟩, fun _ => rfl, fun g h => by cases h⟩, unhide HB1⟩
    · have HF := hide (show fdE s = rowE clE s 44 1024 ∧ fdL s = (pcs s 44).map clL by unfold fdE fdL; rw [if_neg (fun h => h2 h.2), if_neg (fun h => h2 h.2)]; exact ⟨rfl, rfl⟩)
      have hb : ((trimB s).toList == []) = false := by rw [unhide hb0]; simpa using h2
      generalize trimB s = t at *
      clear h1 h2 ha hg hs hb0
      go_enter Tryd.func46, Tryd.ntmps46
      go_wp2_with fail
      refine (unhide c1).mono ?_
      rintro e w1 ⟨rfl, hb1⟩
      have HB1 := hide hb1
      clear hb1
      go_wp2_with fail
      refine (unhide c2 _ (unhide HB1)).mono ?_
      rintro e w2 ⟨⟨v, rfl, k1, k2, k3⟩, hb2⟩
      have HH := hide (And.intro k1 (And.intro k2 (And.intro k3 hb2)))
      clear k1 k2 k3 hb2
      go_wp2_with fail
      go_ret2
      rw [(unhide HF).1, (unhide HF).2]
      exact ⟨⟨v, rfl, (unhide HH).1, (unhide HH).2.1, fun g e => Nat.le_trans (unhide HB1).size ((unhide HH).2.2.1 g e)⟩, bl_t (unhide HB1) (unhide HH).2.2.2⟩
  · have h1' : ¬ ((s.size : Int) ≤ 16777216) := by omega
    have HF := hide (show fdE s = rowE clE s 44 1024 ∧ fdL s = (pcs s 44).map clL by unfold fdE fdL; rw [if_neg (fun h => h1 h.1), if_neg (fun h => h1 h.1)]; exact ⟨rfl, rfl⟩)
    have c3 := hide (unhide c2 w (Below.refl _ _))
    clear h1 ha hg hs hb0 c1 c2
    go_enter Tryd.func46, Tryd.ntmps46
    go_wp2_with fail
    refine (unhide c3).mono ?_
    rintro e w2 ⟨⟨v, rfl, k1, k2, k3⟩, hb2⟩
    have HH := hide (And.intro k1 (And.intro k2 (And.intro k3 hb2)))
    clear k1 k2 k3 hb2
    go_wp2_with fail
    go_ret2
    rw [(unhide HF).1, (unhide HF).2]
    exact ⟨⟨v, rfl, (unhide HH).1, (unhide HH).2.1, (unhide HH).2.2.1⟩, (unhide HH).2.2.2⟩

set_option maxHeartbeats 1000000 in
theorem ParseField_any (s : ByteArray) (w : World) (hs : s.size ≤ 9223372036854775807) (ha : asc s) (hg : Glob w) :
    Calls Tryd.prog 8 #[.string s] w fun e w' => (∃ v, e = .returned (.tuple #[v, .int .i64 (fdE s)]) ∧ (fdE s = 0 → Cls w' v (fdL s)) ∧ (fdE s ≠ 0 → v = .slice none 0 0) ∧ (∀ g, v.ownBlock = some g → w.heap.size ≤ g)) ∧ Below w.heap.size w w' := by
  have c1 := hide (readFieldC_any s w hs ha hg)
  clear hs ha hg
  go_enter Tryd.func8, Tryd.ntmps8
  go_wp2_with fail
  refine (unhide c1).mono ?_
  rintro e w1 ⟨⟨v, rfl, h1, h2⟩, hb⟩
  have HH := hide (And.intro h1 (And.intro h2 hb))
  clear h1 h2 hb
  go_wp2_with fail
  go_ret2
  exact ⟨⟨v, rfl, (unhide HH).1, (unhide HH).2.1⟩, (unhide HH).2.2⟩

end Go.Proofs.YtfembjjpmjfklaaDoor
