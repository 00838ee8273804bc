import Derived.Test.YtfembjjpmjfklaaDoorBackD
namespace Go.Proofs.YtfembjjpmjfklaaDoor
open Go.RowKit

/-- A SLICE OF THESE TEXTS. -/
def Sts (w : World) (v : Value) (nl : List ByteArray) : Prop :=
  ∃ a c, v = .slice a nl.length c ∧ nl.length ≤ 9223372036854775807 ∧ ∀ i (h : i < nl.length), ∃ b o, a = some ⟨b, o, none⟩ ∧ b < w.heap.size ∧ w.cell? ⟨b, o + i, none⟩ = some (.string nl[i])
theorem Sts.later {w w' : World} {v : Value} {nl : List ByteArray} (h : Sts w v nl) (hb : Below w.heap.size w w') : Sts w' v nl := by
  obtain ⟨a, c, h1, h2, h3⟩ := h
  refine ⟨a, c, h1, h2, fun i hi => ?_⟩
  obtain ⟨b, o, e1, e2, e3⟩ := h3 i hi
  exact ⟨b, o, e1, Nat.lt_of_lt_of_le e2 hb.size, (hb.cell (p := ⟨b, _, none⟩) e2).trans e3⟩
theorem Sts.elem {w : World} {va : Option Addr} {n vc : Nat} {al : List ByteArray} (h : Sts w (.slice va n vc) al) (k : Nat) (hk : k < al.length) : ∃ b o, va = some ⟨b, o, none⟩ ∧ b < w.heap.size ∧ w.cell? ⟨b, o + k, none⟩ = some (.string al[k]) := by
  obtain ⟨a, c, e, _, h3⟩ := h
  cases e
  exact h3 k hk
theorem Rdg.sts {w wr : World} {P N : Nat} {ps : List ByteArray} {k : Nat} {nl : List ByteArray} (h : Rdg w wr 9 1 P N ps k (nl.map Value.string)) (hk : nl.length = k) (hN : N ≤ 16777217) (hkN : k ≤ N) : Sts wr (.slice (some ⟨w.heap.size, 0, none⟩) k N) nl := by
  subst hk
  refine ⟨_, _, rfl, by omega, fun i hi => ⟨w.heap.size, 0, rfl, (h.row.lt _ rfl).2, ?_⟩⟩
  have := h.row.cells (g := w.heap.size) rfl i (.string nl[i]) (by rw [List.getElem?_map, List.getElem?_eq_getElem hi]; rfl)
  rw [Go.WideShapes.add_plain] at this
  exact this

set_option maxHeartbeats 1000000 in
theorem readName_any (s : ByteArray) (w : World) (hs : s.size ≤ 9223372036854775807) :
    Calls Tryd.prog 59 #[.string s] w fun e w' => e = .returned (.tuple #[.string (rdN s).1, .int .i64 (rdN s).2]) ∧ Below w.heap.size w w' := by
  have z := trimB_size s
  have c1 := hide (cTrimB s w hs)
  have c2 := hide (fun w => CheckName_any (trimB s) w (by unfold maxLen; omega))
  have HF := hide (show rdN s = if okName (trimB s) = false then (nob, 20) else (trimB s, 0) from rfl)
  generalize trimB s = t at *
  clear z hs
  cases hok : okName t
  · have HH := hide (show rdN s = (nob, 20) by rw [unhide HF, if_pos hok])
    have c3 := hide (fun w => (ckName_no t hok) ▸ unhide c2 w)
    clear c2 HF hok
    go_enter Tryd.func59, Tryd.ntmps59
    go_wp2_with (first | (go_at_call 49; refine (unhide c1).mono ?_; rintro e w1 ⟨rfl, hb1⟩; have HB1 := hide hb1; clear hb1) | (go_at_call 50; refine (unhide c3 _).mono ?_; rintro e w' ⟨rfl, rfl⟩))
    go_ret2
    rw [unhide HH]
    exact ⟨rfl, unhide HB1⟩
  · have HH := hide (show rdN s = (t, 0) by rw [unhide HF, if_neg (by simp [hok])])
    have c3 := hide (fun w => (ckName_yes t hok) ▸ unhide c2 w)
    clear c2 HF hok
    go_enter Tryd.func59, Tryd.ntmps59
    go_wp2_with (first | (go_at_call 49; refine (unhide c1).mono ?_; rintro e w1 ⟨rfl, hb1⟩; have HB1 := hide hb1; clear hb1) | (go_at_call 50; refine (unhide c3 _).mono ?_; rintro e w' ⟨rfl, rfl⟩))
    go_ret2
    rw [unhide HH]
    exact ⟨rfl, unhide HB1⟩

set_option maxHeartbeats 1000000 in
theorem printName_any (s : ByteArray) (w : World) (hs : s.size ≤ maxLen) :
    Calls Tryd.prog 69 #[.string s] w fun e w' => e = .returned (.tuple #[.string (prN s).1, .int .i64 (prN s).2]) ∧ Below w.heap.size w w' := by
  have c2 := hide (fun w => CheckName_any s w hs)
  have HF := hide (show prN s = if okName s = false then (nob, 20) else (s, 0) from rfl)
  clear hs
  cases hok : okName s
  · have HH := hide (show prN s = (nob, 20) by rw [unhide HF, if_pos hok])
    have c3 := hide (fun w => (ckName_no s hok) ▸ unhide c2 w)
    clear c2 HF hok
    go_enter Tryd.func69, Tryd.ntmps69
    go_wp2_with (first | (go_at_call 50; refine (unhide c3 _).mono ?_; rintro e w' ⟨rfl, rfl⟩))
    go_ret2
    rw [unhide HH]
    exact ⟨rfl, Below.refl _ _⟩
  · have HH := hide (show prN s = (s, 0) by rw [unhide HF, if_neg (by simp [hok])])
    have c3 := hide (fun w => (ckName_yes s hok) ▸ unhide c2 w)
    clear c2 HF hok
    go_enter Tryd.func69, Tryd.ntmps69
    go_wp2_with (first | (go_at_call 50; refine (unhide c3 _).mono ?_; rintro e w' ⟨rfl, rfl⟩))
    go_ret2
    rw [unhide HH]
    exact ⟨rfl, Below.refl _ _⟩

set_option maxRecDepth 100000 in
set_option maxHeartbeats 4000000 in
theorem readRowN_any (s : ByteArray) (c : UInt8) (most : Int) (w : World) (hs : s.size ≤ 16777216) (hm : ((pcs s c).length : Int) ≤ most) (ha : ∀ j (h : j < (pcs s c).length), asc (pcs s c)[j] ∧ (pcs s c)[j].size ≤ 16777216) (hg : Glob w) :
    Calls Tryd.prog 92 #[.string s, .string ⟨#[c]⟩, .int .i64 most, .func (.func 59) #[] #[]] w fun e w' => (∃ v, e = .returned (.tuple #[v, .int .i64 (errOf (fun t => (rdN t).2) (pcs s c))]) ∧ (errOf (fun t => (rdN t).2) (pcs s c) = 0 → Sts w' v ((pcs s c).map fun t => (rdN t).1)) ∧ (errOf (fun t => (rdN t).2) (pcs s c) ≠ 0 → v = .slice none 0 0) ∧ (∀ g, v.ownBlock = some g → w.heap.size ≤ g)) ∧ Below w.heap.size w w' := by
  have c1 := hide (cCount s c w (by omega) hg)
  have c2 := hide (fun w hg => cSplit s c w (by omega) hg)
  have hl := pcs_len s c
  have hcl := Lib.countB_le ⟨#[c]⟩ (Nat.le_refl _) s.size s (Nat.le_refl _)
  have HG := hide hg
  have h1 : ¬ ((16777216 : Int) < (s.size : Int)) := by omega
  clear hg
  obtain ⟨ps, hps⟩ : ∃ ps, pcs s c = ps := ⟨_, rfl⟩
  obtain ⟨n, hn⟩ : ∃ n, Lib.countB s ⟨#[c]⟩ = n := ⟨_, rfl⟩
  rw [hps] at hm ha c2 hl ⊢
  rw [hn] at c1 hl hcl
  clear hps hn
  have HA := hide ha
  clear ha
  obtain ⟨N, hN⟩ : ∃ N : Nat, ps.length = N := ⟨_, rfl⟩
  have hNs : N ≤ 16777217 := by omega
  have hn1 : wrap64 ((n : Int) + 1) = (N : Int) := by unfold wrap64; omega
  have hmo : ¬ most < (N : Int) := by omega
  rw [hN] at c2
  clear hm hl hcl
  obtain ⟨i0, hi, hz0, hz1, hz2⟩ := info_parts info9
  clear hs
  go_enter Tryd.func92, Tryd.ntmps92
  go_wp2_with fail
  refine (unhide c1).mono ?_
  rintro e w1 ⟨rfl, rfl⟩
  go_wp2_with (first | (at_make; go_must (refine wpList_make_own _ rfl _ _ 44 rfl w1.heap.size 9 i0 (.string ⟨#[]⟩) 1 Tryd.underlying44 hi hz0 hz1 _ _ _ N rfl rfl hn1 (by rw [hz2]; omega) (by unfold maxLen; omega) (Nat.le_refl _) ?_); intro w2 hown hgrow))
  have g2 : Glob w2 := (unhide HG).later ((Below.refl _ w1).grown hgrow (Nat.le_refl _) (fun k h => by cases h))
  refine (unhide c2 _ g2).mono ?_
  rintro e w3 ⟨rfl, hw3⟩
  have HR := hide (Rdg.start (ps := ps) hown hgrow 9)
  rw [← hw3] at HR
  obtain ⟨P, hP⟩ : ∃ P, w2.heap.size = P := ⟨_, rfl⟩
  rw [hP] at HR ⊢
  clear hown hgrow g2 hw3 hP c1 c2 hn1 hmo
  go_wp2_with fail
  go_loopw [11, 32] (fun v i wr => ∃ k : Nat, k ≤ N ∧ i = .int .i64 k ∧ v = .slice (some ⟨w1.heap.size, 0, none⟩) k N ∧ Hid (Rdg w1 wr 9 1 P N ps k ((ps.take k).map fun t => Value.string (rdN t).1)) ∧ Hid (∀ j (h : j < ps.length), j < k → (rdN ps[j]).2 = 0)) (fun _ i _ => N - (intOf i).toNat)
  case atStart => exact ⟨0, Nat.zero_le _, rfl, rfl, HR, hide (fun j h hj => absurd hj (Nat.not_lt_zero _))⟩
  case round =>
    obtain ⟨k, hk, rfl, rfl, HR, HZ⟩ := hrel
    by_cases hlt : k < N
    · have hkl : k < ps.length := by omega
      have hpc := (unhide HR).pc k hkl
      have hPl := (unhide HR).lt2
      have ha3 := unhide HA k hkl
      have HT := hide (show (ps.take (k + 1)).map (fun t => Value.string (rdN t).1) = (ps.take k).map (fun t => Value.string (rdN t).1) ++ [Value.string (rdN ps[k]).1] by rw [List.take_succ_eq_append_getElem hkl, List.map_append]; rfl)
      have HE := hide (fun hn : (rdN ps[k]).2 ≠ 0 => errOf_at (fun t => (rdN t).2) ps k hkl (fun j hj hjk => unhide HZ j hj hjk) hn)
      have HZ' := hide (fun (h0 : (rdN ps[k]).2 = 0) => upto_nx (fun t => (rdN t).2 = 0) ps k hkl (unhide HZ) h0)
      generalize ps[k] = t at *
      have c3 := hide (fun (w' : World) => readName_any t w' (by omega))
      rcases hp : rdN t with ⟨tx, e0⟩
      rw [hp] at c3 HT HE HZ'
      simp only at c3 HT HE HZ'
      clear hp ha3 HZ
      by_cases he : e0 = 0
      · subst he
        go_wp2_with fail
        refine (unhide c3 _).mono ?_
        rintro e w4 ⟨rfl, hb4⟩
        have HR4 := hide ((unhide HR).later hb4)
        clear hb4
        go_wp2_with (first | (at_builtin; go_must (refine wpList_append_fits _ rfl _ _ 44 rfl w1.heap.size 9 i0 1 Tryd.underlying44 hi hz1 w1.heap.size k N _ rfl ((unhide HR4).row.alloc _) _ 1 1 [.string tx] rfl rfl (by simpa using cells1_new w4 _ _) (by simp [Value.oneCell']) (by omega) ?_); intro w5 hown5 hgrow5))
        have HR5 := hide (((unhide HR4).later ((Below.refl _ w4).alloc (Nat.le_refl _) _)).put hown5 hgrow5)
        clear hown5 hgrow5
        go_wp2_with fail
        go_roundw
        case rel => exact ⟨k + 1, by omega, by go_num, rfl, by rw [unhide HT]; exact HR5, hide (unhide HZ' (by first | trivial | rfl))⟩
        case measure => simp [intOf]; omega
      · have he' : (e0 == 0) = false := by simpa using he
        have HE' := hide (unhide HE he)
        go_wp2_with fail
        refine (unhide c3 _).mono ?_
        rintro e w4 ⟨rfl, hb4⟩
        have HB4 := hide ((unhide HR).bel.trans (hb4.mono (unhide HR).bel.size))
        have hq4 := (unhide HB4).size
        have HN := hide he
        clear hb4 he
        go_wp2_with fail
        go_ret2
        rw [unhide HE']
        exact ⟨⟨_, rfl, fun h => absurd h (unhide HN), fun _ => rfl, fun g h => by cases h⟩, unhide HB4⟩
    · obtain rfl : k = N := by omega
      have HE := hide (errOf_none (fun t => (rdN t).2) ps (fun j hj => unhide HZ j hj (by omega)))
      have HM := hide (Rdg.sts (nl := ps.map fun t => (rdN t).1) (by have h := unhide HR; rw [List.take_of_length_le (by omega)] at h; rw [List.map_map]; exact h) (by simpa using hN) hNs (Nat.le_refl _))
      go_wp2_with fail
      go_ret2
      rw [unhide HE]
      exact ⟨⟨_, rfl, fun _ => unhide HM, fun h => absurd rfl h, fun g h => by cases h; exact Nat.le_refl _⟩, (unhide HR).bel⟩

set_option maxRecDepth 100000 in
set_option maxHeartbeats 4000000 in
theorem readRowN_all (s : ByteArray) (c : UInt8) (most : Nat) (w : World) (hs : s.size ≤ 9223372036854775807) (ha : asc s) (hg : Glob w) :
    Calls Tryd.prog 92 #[.string s, .string ⟨#[c]⟩, .int .i64 most, .func (.func 59) #[] #[]] w fun e w' => (∃ v, e = .returned (.tuple #[v, .int .i64 (rowE (fun t => (rdN t).2) s c most)]) ∧ (rowE (fun t => (rdN t).2) s c most = 0 → Sts w' v ((pcs s c).map fun t => (rdN t).1)) ∧ (rowE (fun t => (rdN t).2) s c most ≠ 0 → v = .slice none 0 0) ∧ (∀ g, v.ownBlock = some g → w.heap.size ≤ g)) ∧ Below w.heap.size w w' := by
  by_cases h1 : 16777216 < s.size
  · have HF := hide (show rowE (fun t => (rdN t).2) s c most = 2 by unfold rowE; rw [if_pos h1])
    have h2 : ((16777216 : Int) < (s.size : Int)) := by omega
    clear h1 ha hg hs
    go_enter Tryd.func92, Tryd.ntmps92
    go_wp2_with fail
    go_ret2
    rw [unhide HF]
    exact ⟨⟨_, rfl, fun h => absurd h (by decide), fun _ => rfl, fun g h => by cases h⟩, Below.refl _ _⟩
  · by_cases h2 : most < (pcs s c).length
    · have HF := hide (show rowE (fun t => (rdN t).2) s c most = 24 by unfold rowE; rw [if_neg h1, if_pos h2])
      have c1 := hide (cCount s c w (by omega) hg)
      have hl := pcs_len s c
      have hcl := Lib.countB_le ⟨#[c]⟩ (Nat.le_refl _) s.size s (Nat.le_refl _)
      obtain ⟨n, hn⟩ : ∃ n, Lib.countB s ⟨#[c]⟩ = n := ⟨_, rfl⟩
      rw [hn] at c1 hl hcl
      have hn1 : wrap64 ((n : Int) + 1) = (n : Int) + 1 := by unfold wrap64; omega
      have hmo : (most : Int) < (n : Int) + 1 := by omega
      have h3 : ¬ ((16777216 : Int) < (s.size : Int)) := by omega
      clear h1 h2 ha hg hs hn hl hcl
      go_enter Tryd.func92, Tryd.ntmps92
      go_wp2_with fail
      refine (unhide c1).mono ?_
      rintro e w1 ⟨rfl, rfl⟩
      go_wp2_with fail
      go_ret2
      rw [unhide HF]
      exact ⟨⟨_, rfl, fun h => absurd h (by decide), fun _ => rfl, fun g h => by cases h⟩, Below.refl _ _⟩
    · have HF : rowE (fun t => (rdN t).2) s c most = errOf (fun t => (rdN t).2) (pcs s c) := by unfold rowE; rw [if_neg h1, if_neg h2]
      rw [HF]
      exact readRowN_any s c most w (by omega) (by omega) (pcs_asc ha c (by omega)) hg


end Go.Proofs.YtfembjjpmjfklaaDoor
