import Derived.Test.YtdkpglmdncjnbaaGreatDoorZf24
import Derived.Deep.CutRange
import Derived.Great.BuildSlice
namespace Go.Proofs.YtdkpglmdncjnbaaGreatDoor
section
open Go.RowKit Go.Maps
theorem ftA_len (ps : List Pk) (p : Nat) (q : Pk) (hp : p ≤ ps.length) : (ftA ps p q).length ≤ ps.length + (q.dp.length + q.pr.length) + q.cf.length * ps.length + q.fs.length := by
 unfold ftA
 rw [List.length_append, List.length_append, List.length_append]
 have h1 := twF_len ps p q
 have h2 := unF_len ps p q
 have h3 := cfJ_len ps p q q.cf.length
 have h4 := paJ_len ps p q q.fs.length
 omega
def ftL (ps : List Pk) : Nat → List Ft
 | 0 => []
 | i + 1 => ftL ps i ++ (match ps[i]? with | some q => ftA ps i q | none => [])
theorem ftL_len (ps : List Pk) : ∀ n, n ≤ ps.length → (ftL ps n).length ≤ n * ps.length + (((ps.take n).map fun p => p.dp.length).sum + ((ps.take n).map fun p => p.pr.length).sum) + ((ps.take n).map fun p => p.cf.length).sum * ps.length + ((ps.take n).map fun p => p.fs.length).sum
 | 0, _ => Nat.zero_le _
 | n + 1, hn => by
   have ih := ftL_len ps n (by omega)
   obtain ⟨q, hq⟩ : ∃ q, ps[n]? = some q := ⟨_, List.getElem?_eq_getElem (by omega)⟩
   have hA := ftA_len ps n q (by omega)
   have e : ∀ f : Pk → Nat, ((ps.take (n + 1)).map f).sum = ((ps.take n).map f).sum + f q := fun f => by
    rw [List.take_add_one, hq, List.map_append, List.sum_append]
    simp
   rw [e, e, e, e, Nat.add_mul, Nat.add_mul, Nat.one_mul]
   unfold ftL
   rw [hq, List.length_append]
   simp only
   omega
theorem ftL_all {ps : List Pk} (sm : SmP ps) {n : Nat} (hn : n ≤ ps.length) : (ftL ps n).length ≤ 549755813888 := by
 have h := ftL_len ps n hn
 have hd := Nat.le_trans (sum_take_le (fun p : Pk => p.dp.length) ps n) sm.sd
 have hr := Nat.le_trans (sum_take_le (fun p : Pk => p.pr.length) ps n) sm.sr
 have hc := Nat.le_trans (sum_take_le (fun p : Pk => p.cf.length) ps n) sm.sc
 have hf := Nat.le_trans (sum_take_le (fun p : Pk => p.fs.length) ps n) sm.sf
 have hl := sm.l
 have h1 : n * ps.length ≤ 262144 * 262144 := Nat.mul_le_mul (by omega) hl
 have h2 : ((ps.take n).map fun p => p.cf.length).sum * ps.length ≤ 1048576 * 262144 := Nat.mul_le_mul hc hl
 omega
set_option maxRecDepth 100000 in
set_option maxHeartbeats 4000000 in
theorem faultsAt_any {w : World} {v : Value} {b1 b2 b3 : Nat} {av : Value} {ps : List Pk} {p : Nat} {q : Pk} (sm : SmP ps) (ck : Ck w v b1 b2 b3 av ps) (hq : ps[p]? = some q) :
 Calls Tryz.prog 28 #[.agg #[v, .map (some b1), .map (some b2), av, .map (some b3)], .int .i64 (p : Int)] w fun e w' => ∃ r, e = .returned r ∧ w'.ownsRow w.heap.size 31 6 r (ftA ps p q).length (ftC (ftA ps p q)) ∧ RowKit.Below w.heap.size w w' := by
 obtain ⟨W1, hW1⟩ : ∃ W, W = w.alloc (.cells #[v, .map (some b1), .map (some b2), av, .map (some b3)] 66) := ⟨_, rfl⟩
 have hb1 : RowKit.Below w.heap.size w W1 := by rw [hW1]; exact (Below.refl _ w).alloc (Nat.le_refl _) _
 have hx1 : W1.heap[w.heap.size]? = some (.cells #[v, .map (some b1), .map (some b2), av, .map (some b3)] 66 (0, 0)) := by rw [hW1]; exact World.alloc_heap_new w _
 have hpl := (List.getElem?_eq_some_iff.1 hq).1
 have hmem := List.mem_of_getElem? hq
 have htot : (twF ps p q).length + (unF ps p q).length + (cfJ ps p q q.cf.length).length + (paJ ps p q q.fs.length).length ≤ 549755813888 := by
  have h1 := twF_len ps p q
  have h2 := unF_len ps p q
  have h3 := cfJ_len ps p q q.cf.length
  have h4 := paJ_len ps p q q.fs.length
  have hd := Nat.le_trans (le_sum (fun p : Pk => p.dp.length) hmem) sm.sd
  have hr := Nat.le_trans (le_sum (fun p : Pk => p.pr.length) hmem) sm.sr
  have hc := Nat.le_trans (le_sum (fun p : Pk => p.cf.length) hmem) sm.sc
  have hf := Nat.le_trans (le_sum (fun p : Pk => p.fs.length) hmem) sm.sf
  have hl := sm.l
  have h5 : q.cf.length * ps.length ≤ 1048576 * 262144 := Nat.mul_le_mul hc hl
  omega
 have HR := hide (And.intro hb1 hx1)
 have HC := hide (And.intro sm (And.intro ck (And.intro hq htot)))
 obtain ⟨va, vc, rfl⟩ : ∃ a c, v = .slice a ps.length c := let ⟨a, c, e, _⟩ := ck.pk; ⟨a, c, e⟩
 obtain ⟨ia, ic, rfl⟩ : ∃ a c, av = .slice a ps.length c := let ⟨a, c, e, _⟩ := ck.al; ⟨a, c, e⟩
 clear sm ck hq htot hb1 hx1 hpl hmem
 go_enter Tryz.func28, Tryz.ntmps28
 go_wp2_with fail
 rw [← hW1]
 obtain ⟨hb1, hx1⟩ := unhide HR
 obtain ⟨sm, ck, hq, htot⟩ := unhide HC
 refine rgE (W := W1) (ps := ps) (q := q) (fun c d v a w h => by cases d <;> exact h) (fun X hX => five ((hX.block _ (blk_lt hx1)).trans hx1)) (fun X hX => ?_) (fun X hX => ?_) (fun X hX => ?_) (fun X hX => ?_) htot (fun a2 n2 k2 a5 n5 k5 a8 n8 k8 a11 n11 k11 G r X hrow hX => ?_)
 ·have c := ck.later (bl_t hb1 hX)
  obtain ⟨xs, base, H1, H2, k1, k2, s1, s2, s3, s4⟩ := c.st
  exact twice_any s3 s1 sm c.pk hq
 ·have c := ck.later (bl_t hb1 hX)
  obtain ⟨xs, base, H1, H2, k1, k2, s1, s2, s3, s4⟩ := c.st
  exact unmet_any s3 s4 s2 s1 sm c.pk c.al hq
 ·have c := ck.later (bl_t hb1 hX)
  obtain ⟨xs, base, H1, H2, k1, k2, s1, s2, s3, s4⟩ := c.st
  exact conflicts_any s3 s4 s2 s1 sm c.pk hq
 ·have c := ck.later (bl_t hb1 hX)
  obtain ⟨k, hk⟩ := c.fs
  exact paths_any hk sm c.pk hq
 ·have HF := hide (And.intro hrow hX)
  have HB1 := hide hb1
  clear hrow hX sm ck hq htot hb1 hx1 hW1
  go_wp2_with fail
  go_ret
  obtain ⟨⟨lo, hlo, hrow⟩, hX⟩ := unhide HF
  exact ⟨_, rfl, row_lo2 hrow (Nat.le_trans (unhide HB1).size hlo), bl_t (unhide HB1) hX⟩
end
section
open Go.RowKit Go.Maps
theorem ftL_succ {ps : List Pk} {i : Nat} {q : Pk} (h : ps[i]? = some q) : ftL ps (i + 1) = ftL ps i ++ ftA ps i q := by rw [ftL, h]
theorem box_ck {w1 : World} {v : Value} {b1 b2 b3 : Nat} {av : Value} {ps : List Pk} (ck : Ck w1 v b1 b2 b3 av ps) : Ck (w1.alloc (.cells #[v, .map (some b1), .map (some b2), av, .map (some b3)] 66)) v b1 b2 b3 av ps ∧ (w1.alloc (.cells #[v, .map (some b1), .map (some b2), av, .map (some b3)] 66)).heap[w1.heap.size]? = some (.cells #[v, .map (some b1), .map (some b2), av, .map (some b3)] 66 (0, 0)) ∧ RowKit.Below w1.heap.size w1 (w1.alloc (.cells #[v, .map (some b1), .map (some b2), av, .map (some b3)] 66)) :=
 have hb := (Below.refl _ w1).alloc (Nat.le_refl _) (.cells #[v, .map (some b1), .map (some b2), av, .map (some b3)] 66)
 ⟨ck.later hb, World.alloc_heap_new w1 _, hb⟩
set_option maxRecDepth 100000 in
set_option maxHeartbeats 4000000 in
theorem Faults_any {w : World} {v : Value} {ps : List Pk} (sm : SmP ps) (pk : Pkl w v ps) :
 Calls Tryz.prog 9 #[v] w fun e w' => ∃ r, e = .returned r ∧ w'.ownsRow w.heap.size 31 6 r (ftL ps ps.length).length (ftC (ftL ps ps.length)) ∧ RowKit.Below w.heap.size w w' := by
 obtain ⟨i0, hi, hz0, hz1, hz2⟩ := info_parts2 infoFt
 obtain ⟨va, vc, rfl⟩ : ∃ a c, v = .slice a ps.length c := let ⟨a, c, e, _⟩ := pk; ⟨a, c, e⟩
 have C := hide (checkOf_any sm pk)
 have HSM := hide sm
 have hl := sm.l
 clear sm pk
 go_enter Tryz.func9, Tryz.ntmps9
 go_wp2_with (go_at_call 27; refine (unhide C).mono ?_; rintro e w1 ⟨b1, b2, b3, av, rfl, ck, hb1⟩; obtain ⟨ia, ic, rfl⟩ := (show ∃ a c, av = .slice a ps.length c from let ⟨a, c, e, _⟩ := ck.al; ⟨a, c, e⟩); have HC := hide (And.intro ck hb1); clear ck hb1 C)
 obtain ⟨W2, hW2⟩ : ∃ W, W = w1.alloc (.cells #[.slice va ps.length vc, .map (some b1), .map (some b2), .slice ia ps.length ic, .map (some b3)] 66) := ⟨_, rfl⟩
 have HBX := hide (show Ck W2 (.slice va ps.length vc) b1 b2 b3 (.slice ia ps.length ic) ps ∧ W2.heap[w1.heap.size]? = some (.cells #[.slice va ps.length vc, .map (some b1), .map (some b2), .slice ia ps.length ic, .map (some b3)] 66 (0, 0)) ∧ RowKit.Below w1.heap.size w1 W2 from by rw [hW2]; exact box_ck (unhide HC).1)
 have HST := hide (Fs.start W2)
 rw [← hW2]
 clear hW2
 go_loopw [4, 10] (fun sv iv wr => ∃ i : Nat, iv = .int .i64 i ∧ i ≤ ps.length ∧ Hid (Fs W2 wr sv (ftL ps i))) (fun _ iv _ => ps.length - (intOf iv).toNat)
 case atStart => exact ⟨0, rfl, Nat.zero_le _, HST⟩
 case round =>
  clear HST
  obtain ⟨i, rfl, hile, HF⟩ := hrel
  have hf := unhide HF
  by_cases hlt : i < ps.length
  ·have hlt2 : (i : Int) < (ps.length : Int) := by omega
   obtain ⟨q, hq⟩ : ∃ q, ps[i]? = some q := ⟨_, List.getElem?_eq_getElem hlt⟩
   have e5 := (hf.bw.block _ (blk_lt (unhide HBX).2.1)).trans (unhide HBX).2.1
   obtain ⟨s0, s1, s2, s3, s4⟩ := five e5
   have CA := hide (faultsAt_any (unhide HSM) ((unhide HBX).1.later hf.bw) hq)
   have HE := hide (ftL_succ hq)
   have hL1 : (ftL ps i).length + (ftA ps i q).length ≤ 549755813888 := by
    rw [← List.length_append, ← ftL_succ hq]
    exact ftL_all (unhide HSM) (by omega)
   clear hq e5
   generalize ftL ps i = m at *
   generalize ftA ps i q = l at *
   go_wp2_with fail
   refine (unhide CA).mono ?_
   rintro e w5 ⟨r, rfl, hrow, hb5⟩
   have hf5 := hf.later hb5
   have hbz := hf5.bw.size
   have hnw : ∀ ad n c, r = .slice (some ad) n c → ∀ k u, (ftC l)[k]? = some u → w5.cell? (ad.add k) = some u := fun ad n c e k u hu => by
    rcases hrow.2 with ⟨q, q2⟩ | ⟨g, cap, cur, q, _, q3, _⟩
    ·rw [e] at q; cases q
    ·have hc := hrow.cells (g := g) (by rw [q]; rfl) k u hu
     rw [e] at q
     injection q with q _ _
     injection q with q
     subst q
     rw [Addr.add_mid, Nat.zero_add] at hc ⊢
     exact hc
   obtain ⟨⟨ra, rn, rk⟩, rfl, hrn⟩ := slice_hd hrow
   simp only at hrn
   subst hrn
   have HF5 := hide hf5
   clear CA hb5 s0 s1 s2 s3 s4 hf
   cases ra with
   | none =>
     have hl0 : l = [] ∧ rk = 0 := by
      rcases hrow.2 with ⟨q, q2⟩ | ⟨g, cap, cur, q, _⟩
      ·unfold hv at q
       injection q with _ _ q
       exact ⟨List.length_eq_zero_iff.1 q2, q⟩
      ·cases q
     obtain ⟨rfl, rfl⟩ := hl0
     have HE2 := hide (show ftL ps (i + 1) = m from by rw [unhide HE, List.append_nil])
     clear hrow hnw HE hf5
     unfold hv
     go_wp2_with (at_builtin; go_must (refine wpList_append_own_none rfl _ _ 24 rfl W2.heap.size 31 i0 6 Tryz.underlying24 hi _ _ _ rfl (unhide HF5).row rfl ?_))
     go_roundw
     case rel => exact ⟨i + 1, by go_num, by omega, by rw [unhide HE2]; exact HF5⟩
     case measure => simp [intOf]; omega
   | some ad =>
     have HNW := hide (hnw ad l.length rk rfl)
     clear hrow hnw hf5
     unfold hv
     go_wp2_with (at_builtin; go_must (refine wpList_append_own _ rfl _ _ 24 rfl W2.heap.size 31 i0 (.agg #[.int .i64 0, .string ⟨#[]⟩, .string ⟨#[]⟩, .int .i64 0, .string ⟨#[]⟩, .string ⟨#[]⟩]) 6 80 Tryz.underlying24 hi hz0 hz1 hz2 rfl (by decide) _ _ _ rfl (unhide HF5).row ad l.length rk (ftC l) rfl (ftC_len l) (unhide HNW) (one_ftC l) (by unfold maxLen; omega) (by omega) hbz ?_); intro v' w9 hown hgrow _; have HF9 := hide ((unhide HF5).more hown hgrow); clear hown hgrow)
     go_roundw
     case rel => exact ⟨i + 1, by go_num, by omega, by rw [unhide HE]; exact HF9⟩
     case measure => simp [intOf]; omega
  ·obtain rfl : i = ps.length := by omega
   have HH := hide hf
   clear hf
   go_wp2_with fail
   go_ret
   have hf := unhide HH
   have hb := bl_t (unhide HC).2 (unhide HBX).2.2
   exact ⟨_, rfl, row_lo2 hf.row hb.size, bl_t hb hf.bw⟩
set_option maxRecDepth 100000 in
set_option maxHeartbeats 4000000 in
theorem Valid_any {w : World} {v : Value} {ps : List Pk} (sm : SmP ps) (pk : Pkl w v ps) :
 Calls Tryz.prog 11 #[v] w fun e w' => ∃ b : Bool, e = .returned (.bool b) ∧ (b = true ↔ ∀ i q, ps[i]? = some q → ftA ps i q = []) ∧ RowKit.Below w.heap.size w w' := by
 obtain ⟨va, vc, rfl⟩ : ∃ a c, v = .slice a ps.length c := let ⟨a, c, e, _⟩ := pk; ⟨a, c, e⟩
 have C := hide (checkOf_any sm pk)
 have HSM := hide sm
 have hl := sm.l
 clear sm pk
 go_enter Tryz.func11, Tryz.ntmps11
 go_wp2_with (go_at_call 27; refine (unhide C).mono ?_; rintro e w1 ⟨b1, b2, b3, av, rfl, ck, hb1⟩; obtain ⟨ia, ic, rfl⟩ := (show ∃ a c, av = .slice a ps.length c from let ⟨a, c, e, _⟩ := ck.al; ⟨a, c, e⟩); have HC := hide (And.intro ck hb1); clear ck hb1 C)
 obtain ⟨W2, hW2⟩ : ∃ W, W = w1.alloc (.cells #[.slice va ps.length vc, .map (some b1), .map (some b2), .slice ia ps.length ic, .map (some b3)] 66) := ⟨_, rfl⟩
 have HBX := hide (show Ck W2 (.slice va ps.length vc) b1 b2 b3 (.slice ia ps.length ic) ps ∧ W2.heap[w1.heap.size]? = some (.cells #[.slice va ps.length vc, .map (some b1), .map (some b2), .slice ia ps.length ic, .map (some b3)] 66 (0, 0)) ∧ RowKit.Below w1.heap.size w1 W2 from by rw [hW2]; exact box_ck (unhide HC).1)
 rw [← hW2]
 clear hW2
 go_loopw [9] (fun iv wr => ∃ i : Nat, iv = .int .i64 i ∧ i ≤ ps.length ∧ Hid (RowKit.Below W2.heap.size W2 wr ∧ ∀ k q, k < i → ps[k]? = some q → ftA ps k q = [])) (fun iv _ => ps.length - (intOf iv).toNat)
 case atStart => exact ⟨0, rfl, Nat.zero_le _, hide ⟨Below.refl _ _, fun k q h => absurd h (Nat.not_lt_zero _)⟩⟩
 case round =>
  obtain ⟨i, rfl, hile, HF⟩ := hrel
  have hbw := (unhide HF).1
  by_cases hlt : i < ps.length
  ·have hlt2 : (i : Int) < (ps.length : Int) := by omega
   obtain ⟨q, hq⟩ : ∃ q, ps[i]? = some q := ⟨_, List.getElem?_eq_getElem hlt⟩
   have e5 := (hbw.block _ (blk_lt (unhide HBX).2.1)).trans (unhide HBX).2.1
   obtain ⟨s0, s1, s2, s3, s4⟩ := five e5
   have CA := hide (faultsAt_any (unhide HSM) ((unhide HBX).1.later hbw) hq)
   have HQ := hide hq
   have HBW := hide hbw
   clear hq e5 hbw
   go_wp2_with fail
   refine (unhide CA).mono ?_
   rintro e w5 ⟨r, rfl, hrow, hb5⟩
   obtain ⟨⟨ra, rn, rk⟩, rfl, hrn⟩ := slice_hd hrow
   simp only at hrn
   subst hrn
   have HB5 := hide (bl_t (unhide HBW) hb5)
   clear CA hb5 s0 s1 s2 s3 s4 hrow
   unfold hv
   by_cases h0 : ftA ps i q = []
   ·have hg0 : (ftA ps i q).length = 0 := by rw [h0]; rfl
    rw [hg0]
    have HN := hide (show ∀ k q, k < i + 1 → ps[k]? = some q → ftA ps k q = [] from fun k q2 hk e => by
     by_cases ek : k = i
     ·subst ek; rw [unhide HQ] at e; cases e; exact h0
     ·exact (unhide HF).2 k q2 (by omega) e)
    clear h0 hg0
    go_wp2_with fail
    go_roundw
    case rel => exact ⟨i + 1, by go_num, by omega, hide ⟨unhide HB5, unhide HN⟩⟩
    case measure => simp [intOf]; omega
   ·have hpos : ((ftA ps i q).length : Int) > 0 := by
     have : (ftA ps i q).length ≠ 0 := fun e => h0 (List.length_eq_zero_iff.1 e)
     omega
    have HX := hide (show ¬ ∀ i q, ps[i]? = some q → ftA ps i q = [] from fun h => h0 (h i q (unhide HQ)))
    clear h0
    generalize (ftA ps i q).length = n at *
    go_wp2_with fail
    go_ret
    exact ⟨false, rfl, ⟨fun h => (by cases h), fun h => absurd h (unhide HX)⟩, bl_t (bl_t (unhide HC).2 (unhide HBX).2.2) (unhide HB5)⟩
  ·obtain rfl : i = ps.length := by omega
   have HH := hide hbw
   clear hbw
   go_wp2_with fail
   go_ret
   exact ⟨true, rfl, ⟨fun _ k q e => (unhide HF).2 k q (List.getElem?_eq_some_iff.1 e).1 e, fun _ => rfl⟩, bl_t (bl_t (unhide HC).2 (unhide HBX).2.2) (unhide HH)⟩
end
section
open Go.RowKit Go.Maps
theorem PkC.pkg {cs : List Value} {q : Pk} {d r c pv f : Value} (h : PkC cs q d r c pv f) : Pkg cs q.nm q.vr pv := ⟨h.len, h.c0, h.c1, h.c6⟩
theorem mP_at {ps : List Pk} {i : Nat} {q : Pk} (h : ps[i]? = some q) (a : At) : mP ps a i = meetsA a.n a.op a.v q.nm q.vr q.pv := by unfold mP; rw [h]
theorem imP_yes {ps : List Pk} {inn : Nat → Bool} {but : Int} {al : List At} {i : Nat} {a : At} (ha : a ∈ al) (hm : mP ps a i = true) (hh : hitP inn but i = true) : imP ps inn but al = true := by
 unfold imP
 rw [List.any_eq_true]
 refine ⟨a, ha, ?_⟩
 rw [List.any_eq_true]
 exact ⟨i, List.mem_range.2 (mP_lt hm), by rw [hm, hh]; rfl⟩
theorem imP_no {ps : List Pk} {inn : Nat → Bool} {but : Int} {al : List At} (h : ∀ i, i < ps.length → ∀ a ∈ al, (mP ps a i && hitP inn but i) = false) : imP ps inn but al = false := by
 unfold imP
 rw [List.any_eq_false]
 intro a ha
 rw [Bool.not_eq_true, List.any_eq_false]
 intro i hi
 rw [h i (List.mem_range.1 hi) a ha]
 decide
end
section
open Go.RowKit Go.Maps
def Cl1 (ps : List Pk) (i : Nat) (q : Pk) : Prop := (∀ al ∈ q.dp, imP ps (fun _ => true) (-1) al = true) ∧ (∀ al ∈ q.pr, imP ps (fun _ => true) (i : Int) al = true)
end
section
open Go.RowKit Go.Maps
theorem Fls.path {w : World} {va : Option Addr} {n vc : Nat} {fl : List (List Value)} (h : Fls w (.slice va n vc) fl) {k : Nat} {x : List Value} (hx : fl[k]? = some x) (hs : ∃ s : Nm, x[0]? = some (Value.string s) ∧ s.size ≤ maxLen) : ∃ b o, va = some ⟨b, o, none⟩ ∧ w.cell? ⟨b, o + k * 34, none⟩ = some (.string (pathC x)) := by
 obtain ⟨_, b, o, e, _, hr⟩ := h.at hx
 obtain ⟨s, hs, _⟩ := hs
 refine ⟨b, o, e, ?_⟩
 have := hr 0 _ hs
 rw [Nat.add_zero] at this
 rw [this]
 unfold pathC
 rw [hs]
end
section
open Go.RowKit Go.Maps
theorem spQ_mem2 (p : Nat) (fs : List (List Value)) (t : Nm × Nat × Nat) : t ∈ spQ p fs ↔ t.2.1 = p ∧ ∃ x, fs[t.2.2]? = some x ∧ pathC x = t.1 := by
 unfold spQ
 rw [List.mem_map]
 constructor
 ·rintro ⟨⟨x, i⟩, hx, rfl⟩
  exact ⟨rfl, x, List.mk_mem_zipIdx_iff_getElem?.1 hx, rfl⟩
 ·rintro ⟨h1, x, hx, h2⟩
  refine ⟨(x, t.2.2), List.mk_mem_zipIdx_iff_getElem?.2 hx, ?_⟩
  obtain ⟨a, b, c⟩ := t
  simp only at h1 h2 ⊢
  rw [h1, h2]
theorem spL_mem2 (ps : List Pk) : ∀ n (t : Nm × Nat × Nat), t ∈ spL ps n ↔ t.2.1 < n ∧ ∃ q x, ps[t.2.1]? = some q ∧ q.fs[t.2.2]? = some x ∧ pathC x = t.1
 | 0, t => by simp [spL]
 | n + 1, t => by
   have ih := spL_mem2 ps n t
   unfold spL
   rw [List.mem_append, ih]
   constructor
   ·rintro (⟨h1, h2⟩ | h)
    ·exact ⟨by omega, h2⟩
    ·cases e : ps[n]? with
     | none => rw [e] at h; cases h
     | some q =>
       rw [e] at h
       obtain ⟨h1, x, h2, h3⟩ := (spQ_mem2 n q.fs t).1 h
       exact ⟨by omega, q, x, by rw [h1]; exact e, h2, h3⟩
   ·rintro ⟨h1, q, x, h2, h3, h4⟩
    by_cases e : t.2.1 = n
    ·rw [e] at h2
     refine .inr ?_
     rw [h2]
     exact (spQ_mem2 n q.fs t).2 ⟨e, x, h3, h4⟩
    ·exact .inl ⟨by omega, q, x, h2, h3, h4⟩
theorem fst1_some2 {L : List (Nm × Nat × Nat)} {x : Nm} {t : Nat × Nat} (h : fst1 L x = some t) : (x, t) ∈ L := by
 unfold fst1 at h
 rw [Option.map_eq_some_iff] at h
 obtain ⟨s, h1, rfl⟩ := h
 have := List.find?_some h1
 have e : s.1 = x := of_decide_eq_true this
 have hm := List.mem_of_find?_eq_some h1
 rw [← e]
 exact hm
end
section
open Go.RowKit Go.Maps
theorem bl_eqK {a b : Nm} (h : a.toList = b.toList) : a = b := by
 have e : a.data.toList = b.data.toList := by rw [← ByteArray.toList_eq, ← ByteArray.toList_eq]; exact h
 cases a
 cases b
 congr 1
 exact Array.toList_inj.1 e
theorem fst1_app (A B : List (Nm × Nat × Nat)) (P : Nm) : fst1 (A ++ B) P = (fst1 A P).or (fst1 B P) := by
 unfold fst1
 rw [List.find?_append]
 cases A.find? fun t => decide (t.1 = P) <;> rfl
theorem fst1_none {B : List (Nm × Nat × Nat)} {P : Nm} (h : ∀ t ∈ B, t.1 ≠ P) : fst1 B P = none := by
 unfold fst1
 rw [List.find?_eq_none.2 (fun t ht => by simpa using h t ht)]
 rfl
theorem fst1_Q {p k : Nat} {fs : List (List Value)} {x : List Value} {P : Nm} (hx : fs[k]? = some x) (hp : pathC x = P) (h2 : ∀ (k' : Nat) (x' : List Value), k' < k → fs[k']? = some x' → pathC x' ≠ P) : fst1 (spQ p fs) P = some (p, k) := by
 have hk : k < (spQ p fs).length := by rw [spQ_len]; exact (List.getElem?_eq_some_iff.1 hx).1
 have e : (spQ p fs).find? (fun t => decide (t.1 = P)) = some (pathC x, p, k) := by
  rw [List.find?_eq_some_iff_getElem]
  refine ⟨by simpa using hp, k, hk, ?_, fun j hj => ?_⟩
  ·have := spQ_at (p := p) hx
   rw [List.getElem?_eq_getElem hk] at this
   exact Option.some.inj this
  ·have hj2 : j < fs.length := by rw [spQ_len] at hk; omega
   have := spQ_at (p := p) (List.getElem?_eq_getElem hj2)
   rw [List.getElem?_eq_getElem (by rw [spQ_len]; exact hj2)] at this
   rw [Option.some.inj this]
   simpa using h2 j _ hj (List.getElem?_eq_getElem hj2)
 unfold fst1
 rw [e]
 rfl
theorem fst1_at {ps : List Pk} {P : Nm} {i k : Nat} {q : Pk} {x : List Value} (hq : ps[i]? = some q) (hx : q.fs[k]? = some x) (hp : pathC x = P) (h1 : ∀ (i' : Nat) (q' : Pk) (k' : Nat) (x' : List Value), i' < i → ps[i']? = some q' → q'.fs[k']? = some x' → pathC x' ≠ P) (h2 : ∀ (k' : Nat) (x' : List Value), k' < k → q.fs[k']? = some x' → pathC x' ≠ P) : fst1 (spL ps ps.length) P = some (i, k) := by
 have key : ∀ n, fst1 (spL ps n) P = if i < n then some (i, k) else none := fun n => by
  induction n with
  | zero => rfl
  | succ n ih =>
    rw [show spL ps (n + 1) = spL ps n ++ (match ps[n]? with | some q => spQ n q.fs | none => []) from rfl, fst1_app, ih]
    by_cases h : i < n
    ·rw [if_pos h, if_pos (by omega)]
     rfl
    ·rw [if_neg h]
     by_cases e : n = i
     ·subst e
      rw [hq, if_pos (by omega)]
      exact fst1_Q hx hp h2
     ·rw [if_neg (by omega)]
      cases e2 : ps[n]? with
      | none => rfl
      | some q' =>
        refine fst1_none fun t ht => ?_
        obtain ⟨_, y, hy, e3⟩ := spQ_inv ht
        rw [e3]
        exact h1 n q' _ y (by omega) e2 hy
 rw [key, if_pos (List.getElem?_eq_some_iff.1 hq).1]
def ahd (ps : List Pk) (p n : Nat) (P : Nm) : Int := match fst1 (spL ps ps.length) P with | some t => if t = (p, n) then -1 else (t.1 : Int) | none => -1
set_option maxRecDepth 100000 in
set_option maxHeartbeats 4000000 in
theorem rahead_any {w : World} {v : Value} {ps : List Pk} {p n : Nat} {q : Pk} {x : List Value} (sm : SmP ps) (pk : Pkl w v ps) (hq : ps[p]? = some q) (hx : q.fs[n]? = some x) :
 Calls Tryz.prog 56 #[v, .int .i64 (p : Int), .int .i64 (n : Int)] w fun e w' => e = .returned (.int .i64 (ahd ps p n (pathC x))) ∧ RowKit.Below w.heap.size w w' := by
 obtain ⟨va, vc, rfl⟩ : ∃ a c, v = .slice a ps.length c := let ⟨a, c, e, _⟩ := pk; ⟨a, c, e⟩
 have hpl := (List.getElem?_eq_some_iff.1 hq).1
 have hnl := (List.getElem?_eq_some_iff.1 hx).1
 have hl := sm.l
 have hfs : ∀ (i : Nat) (q' : Pk), ps[i]? = some q' → q'.fs.length ≤ 1048576 := fun i q' h => Nat.le_trans (le_sum (fun p : Pk => p.fs.length) (List.mem_of_getElem? h)) sm.sf
 have HFS := hide hfs
 have HA := hide (show ∀ (i : Nat) (q' : Pk), ps[i]? = some q' → ∃ b o fa fc, va = some ⟨b, o, none⟩ ∧ w.cell? ⟨b, o + i * 43 + 7, none⟩ = some (.slice fa q'.fs.length fc) ∧ ∀ (k : Nat) (x' : List Value), q'.fs[k]? = some x' → ∃ g go, fa = some ⟨g, go, none⟩ ∧ w.cell? ⟨g, go + k * 34, none⟩ = some (.string (pathC x')) from fun i q' hq' => by
  obtain ⟨vb, vo, vc', cs, d, r, c, pv, f, e, hvb, hr, hpc, hll⟩ := pk.at2 hq'
  injection e with e1 e2 e3
  obtain ⟨fa, fc, e4, _⟩ := hll.fl
  have h7 := hr 7 _ hpc.c7
  have hfl := hll.fl
  rw [e4] at h7 hfl
  exact ⟨vb, vo, fa, fc, e1, h7, fun k x' hx' => hfl.path hx' (sm.f q' (List.mem_of_getElem? hq') x' (List.mem_of_getElem? hx'))⟩)
 obtain ⟨b, o, fa, fc, rfl, c7, hf⟩ := unhide HA p q hq
 obtain ⟨g, go, rfl, cp⟩ := hf n x hx
 have HE := hide (show ∀ (i k : Nat) (q' : Pk) (x' : List Value), ps[i]? = some q' → q'.fs[k]? = some x' → pathC x' = pathC x → (∀ (i' : Nat) (q' : Pk) (k' : Nat) (x' : List Value), i' < i → ps[i']? = some q' → q'.fs[k']? = some x' → pathC x' ≠ pathC x) → (∀ (k' : Nat) (x' : List Value), k' < k → q'.fs[k']? = some x' → pathC x' ≠ pathC x) → ahd ps p n (pathC x) = if (i, k) = (p, n) then -1 else (i : Int) from fun i k q' x' h1 h2 h3 h4 h5 => by
  unfold ahd
  rw [fst1_at h1 h2 h3 h4 h5])
 have HX := hide (And.intro hq hx)
 obtain ⟨P, hP⟩ : ∃ P, P = pathC x := ⟨_, rfl⟩
 rw [← hP] at cp HE ⊢
 have HPE := hide hP
 have hn2 : (n : Int) < (q.fs.length : Int) := by omega
 have hp2 : (p : Int) < (ps.length : Int) := by omega
 have hqf := hfs p q hq
 clear hq hx hf hfs pk sm hP
 go_enter Tryz.func56, Tryz.ntmps56
 go_wp2_with fail
 go_loopg [8] (p + 1) (fun gq iv wr => ∃ i : Nat, iv = .int .i64 i ∧ i ≤ p + 1 ∧ p + 1 - i ≤ gq ∧ w = wr ∧ Hid (∀ (i' : Nat) (q' : Pk) (k' : Nat) (x' : List Value), i' < i → ps[i']? = some q' → q'.fs[k']? = some x' → (i' = p → k' < n) → pathC x' ≠ P))
 case atStart => exact ⟨0, by go_num, by omega, by omega, rfl, hide (fun i' q' k' x' h => absurd h (Nat.not_lt_zero _))⟩
 case round =>
  obtain ⟨i, rfl, hi, hg, rfl, HN⟩ := hrel
  by_cases hle : i ≤ p
  ·have hi2 : (i : Int) ≤ (p : Int) := by omega
   have hi3 : (i : Int) < (ps.length : Int) := by omega
   obtain ⟨q', hq'⟩ : ∃ q', ps[i]? = some q' := ⟨_, List.getElem?_eq_getElem (by omega)⟩
   obtain ⟨b', o', fa', fc', e', c7', hf'⟩ := unhide HA i q' hq'
   cases e'
   obtain ⟨M, hM⟩ : ∃ M : Nat, M = if i = p then n else q'.fs.length := ⟨_, rfl⟩
   have hMq : M ≤ q'.fs.length := by
    rw [hM]
    split
    ·rename_i e
     subst e
     rw [(unhide HX).1] at hq'
     cases hq'
     omega
    ·exact Nat.le_refl _
   have hqf' := unhide HFS i q' hq'
   have HQ := hide hq'
   have HF := hide hf'
   clear hq' hf'
   go_upto_if 33 with fail
   go_cut [9] from 20 to 51 (fun mv wc => mv = .int .i64 (M : Int) ∧ w = wc)
   case first =>
    by_cases e : i = p
    ·rw [if_pos e] at hM
     subst e
     subst hM
     go_wp2_with fail
     go_meet
     case rel => exact ⟨rfl, rfl⟩
    ·rw [if_neg e] at hM
     subst hM
     have e2 : ¬ (i : Int) = (p : Int) := by omega
     go_wp2_with fail
     go_meet
     case rel => exact ⟨rfl, rfl⟩
   case rest =>
    obtain ⟨rfl, rfl⟩ := hcut
    have HM := hide hM
    clear hM
    go_wp2_with fail
    go_loopg [10] M (fun gq kv wr => ∃ k : Nat, kv = .int .i64 k ∧ k ≤ M ∧ M - k ≤ gq ∧ w = wr ∧ Hid (∀ (k' : Nat) (x' : List Value), k' < k → q'.fs[k']? = some x' → pathC x' ≠ P))
    case atStart => exact ⟨0, by go_num, by omega, by omega, rfl, hide (fun k' x' h => absurd h (Nat.not_lt_zero _))⟩
    case round =>
     obtain ⟨k, rfl, hk, hgk, rfl, HK⟩ := hrel
     by_cases hlt : k < M
     ·have hk2 : (k : Int) < (M : Int) := by omega
      have hk3 : (k : Int) < (q'.fs.length : Int) := by omega
      obtain ⟨x', hx'⟩ : ∃ x', q'.fs[k]? = some x' := ⟨_, List.getElem?_eq_getElem (by omega)⟩
      obtain ⟨g', go', rfl, cp'⟩ := unhide HF k x' hx'
      have HX' := hide hx'
      obtain ⟨P', hP'⟩ : ∃ P', P' = pathC x' := ⟨_, rfl⟩
      rw [← hP'] at cp'
      have HP' := hide hP'
      clear hx' hP'
      by_cases e : P' = P
      ·subst e
       go_wp2_with fail
       go_ret
       have he := unhide HE i k q' x' (unhide HQ) (unhide HX') (unhide HP').symm (fun i' q' k' x' h1 h2 h3 => unhide HN i' q' k' x' h1 h2 h3 (fun h => by omega)) (unhide HK)
       rw [if_neg (by
        intro h
        injection h with h1 h2
        have := unhide HM
        rw [if_pos h1] at this
        omega)] at he
       exact ⟨by rw [he]; rfl, Below.refl _ _⟩
      ·have hbe : (ByteArray.toList P' == ByteArray.toList P) = false := by
        rw [beq_eq_false_iff_ne]
        exact fun h => e (bl_eqK h)
       go_wp2_with fail
       go_roundg (M - (k + 1))
       case measure => omega
       case rel => exact ⟨k + 1, by go_num, by omega, by omega, rfl, hide (fun k' x'' h1 h2 => by
        by_cases e2 : k' = k
        ·subst e2
         rw [unhide HX'] at h2
         cases h2
         rw [← unhide HP']
         exact e
        ·exact unhide HK k' x'' (by omega) h2)⟩
     ·obtain rfl : k = M := by omega
      go_wp2_with fail
      go_roundg (p + 1 - (i + 1))
      case measure => omega
      case rel => exact ⟨i + 1, by go_num, by omega, by omega, rfl, hide (fun i' q'' k' x'' h1 h2 h3 h4 => by
       by_cases e2 : i' = i
       ·subst e2
        rw [unhide HQ] at h2
        cases h2
        refine unhide HK k' x'' ?_ h3
        have hm := unhide HM
        by_cases e3 : i' = p
        ·rw [if_pos e3] at hm
         have := h4 e3
         omega
        ·rw [if_neg e3] at hm
         have := (List.getElem?_eq_some_iff.1 h3).1
         omega
       ·exact unhide HN i' q'' k' x'' (by omega) h2 h3 h4)⟩
  ·obtain rfl : i = p + 1 := by omega
   have hnle : ¬ (p : Int) + 1 ≤ (p : Int) := by omega
   go_wp2_with fail
   go_ret
   have he := unhide HE p n q x (unhide HX).1 (unhide HX).2 (unhide HPE).symm (fun i' q' k' x' h1 h2 h3 => unhide HN i' q' k' x' (by omega) h2 h3 (fun h => by omega)) (fun k' x' h1 h2 => unhide HN p q k' x' (by omega) (unhide HX).1 h2 (fun _ => h1))
   rw [if_pos rfl] at he
   exact ⟨by rw [he]; rfl, Below.refl _ _⟩
end
section
open Go.RowKit Go.Maps
def sAA : ByteArray := ⟨#[97, 97]⟩
def sBB : ByteArray := ⟨#[98, 98]⟩
def sOne : ByteArray := ⟨#[49]⟩
def litC (n : ByteArray) (d : Value) : List Value := [.string n, .string sOne, .bool false, d, .slice none 0 0, .slice none 0 0, .slice none 0 0, .slice none 0 0, .string ⟨#[]⟩, .int .i64 0] ++ (List.replicate 32 (.int .u8 0) ++ [.string ⟨#[]⟩])
section
variable {ops : Array Oper} {rest : List Oper} {o : Oper} {a : Act} {w : World} {Q : Exit → Act → World → Prop}
theorem p_sl (L : List (List Value)) (hL : ∀ l ∈ L, l.length = 43) (h0 : 0 < L.length) (h1 : L.length ≤ 1000) (parts : Array (Nat × Operand)) (ho : o.op = .buildSlice 22 L.length parts) (hw : Region.wanted o (yielded ops a.tmps) = true)
 (hp : (parts.map fun (i, x) => (i, a.eval x)).toList = ((L.map fun l => Value.agg l.toArray).zipIdx 0).map fun x => (x.2, x.1))
 (h : ∀ w2, (∀ (i : Nat) (l : List Value), L[i]? = some l → w2.rangeAt w.heap.size (i * 43) l) → Below w.heap.size w w2 → w.heap.size < w2.heap.size → wpList Tryz.prog ops Q rest (a.put o.dst (.slice (some ⟨w.heap.size, 0, none⟩) L.length L.length)) w2) : wpList Tryz.prog ops Q (o :: rest) a w := by
 refine BigFrame.wpList_want hw fun K hK => ?_
 obtain ⟨zc, i1, i2, i3⟩ := infoP
 cases hie : Tryz.prog.info? 46 with
 | none => rw [hie] at i1; cases i1
 | some ie =>
   rw [hie] at i1
   simp only [Option.map_some, Option.some.injEq, Prod.mk.injEq] at i1
   obtain ⟨hz, hs⟩ := i1
   obtain ⟨r, hr, hsz, hk⟩ := Great.fill_dense (s := 43) (by decide) (L.map fun l => Value.agg l.toArray) 0 ((Array.range (L.length * 43)).map ((Value.agg zc.toArray).cells[· % (Value.agg zc.toArray).cells.size]!)) (fun v hv => by obtain ⟨l, hl, rfl⟩ := List.mem_map.1 hv; simp [Value.cells, hL l hl]) (by simp)
   refine wp_buildSlice 22 46 L.length parts ho r ie (.agg zc.toArray) Tryz.underlying22 hie hz (by rw [hs]; omega) (by rw [hs]; omega) (by rw [hp, hs]; exact hr) (hK _ _ ?_)
   refine h _ (fun i l hi => ?_) ((Below.refl _ _).alloc (Nat.le_refl _) _) (by simp)
   intro j v hj
   rw [World.cell?_alloc_new, hk]
   have hi2 := (List.getElem?_eq_some_iff.1 hi).1
   have hj2 := (List.getElem?_eq_some_iff.1 hj).1
   rw [hL l (List.mem_of_getElem? hi)] at hj2
   rw [if_pos ⟨by omega, by rw [List.length_map]; omega⟩, show (i * 43 + j) / 43 - 0 = i by omega, show (i * 43 + j) % 43 = j by omega, List.getElem?_map, hi]
   simpa [Value.cells] using hj
end
def pkL (n : ByteArray) (dp : List (List At)) : Pk := ⟨n, sOne, false, dp, [], [], [], [], ⟨#[]⟩, 0, List.replicate 32 (.int .u8 0), ⟨#[]⟩⟩
def atB : At := ⟨sBB, 0, ⟨#[]⟩⟩
end
section
open Go.RowKit Go.Maps
theorem meets_lit (n : ByteArray) : meetsA sBB 0 ⟨#[]⟩ n sOne [] = decide (n = sBB) := by
 unfold meetsA fitsA
 rw [if_pos rfl, Bool.and_true, show Lib.containsS [] sBB = false from (by rw [Bool.eq_false_iff]; intro h; have := (Lib.containsS_iff _ _).1 h; cases this), Bool.and_false, Bool.or_false]
 by_cases e : n = sBB
 ·rw [toList_eq.2 e, decide_eq_true e]
 ·rw [Bool.eq_false_iff.2 fun h => e (toList_eq.1 h), decide_eq_false e]
abbrev ps1 : List Pk := [pkL sAA [[atB]]]
abbrev ps2 : List Pk := [pkL sAA [[atB]], pkL sBB []]
theorem ab_ne : sAA ≠ sBB := by unfold sAA sBB; intro h; injection h with h; injection h with h; injection h with h; cases h
theorem mP_atB (ps : List Pk) (i : Nat) (n : ByteArray) (dp : List (List At)) (h : ps[i]? = some (pkL n dp)) : mP ps atB i = decide (n = sBB) := by
 rw [mP_at h]
 exact meets_lit n
theorem im1 : imP ps1 (fun _ => true) (-1) [atB] = false := imP_no fun i hi a ha => by
 obtain rfl : i = 0 := by simpa using hi
 obtain rfl : a = atB := by simpa using ha
 rw [mP_atB ps1 0 sAA [[atB]] rfl, decide_eq_false ab_ne]
 rfl
end
section
open Go.RowKit Go.Maps
section
variable {ops : Array Oper} {rest : List Oper} {o : Oper} {a : Act} {w : World} {Q : Exit → Act → World → Prop}
theorem p_sl1 (x : Operand) (ho : o.op = .buildSlice 22 1 #[(0, x)]) (hw : Region.wanted o (yielded ops a.tmps) = true) (c1 : List Value) (hx : a.eval x = .agg c1.toArray) (h1 : c1.length = 43)
 (h : ∀ w2, w2.rangeAt w.heap.size (0 + 0 * 43) c1 → Below w.heap.size w w2 → w.heap.size < w2.heap.size → wpList Tryz.prog ops Q rest (a.put o.dst (.slice (some ⟨w.heap.size, 0, none⟩) 1 1)) w2) : wpList Tryz.prog ops Q (o :: rest) a w :=
 p_sl [c1] (fun l hl => by simp at hl; subst hl; exact h1) (by simp) (by simp) _ ho hw (by simp [hx]) fun w2 hr hb hs => h w2 (by have := hr 0 c1 rfl; rwa [Nat.zero_mul, ← Nat.add_zero 0, ← Nat.zero_mul 43] at this) hb hs
end
def LitW (w : World) (g : Nat) : Prop := w.heap[g]? = some (.cells #[.string ⟨#[98, 98]⟩, .int .i64 0, .string ⟨#[]⟩] 48 (0, 0)) ∧ w.heap[g + 1]? = some (.cells #[.slice (some ⟨g, 0, none⟩) 1 1] 49 (0, 0))
theorem LitW.later {w w2 : World} {g : Nat} (h : LitW w g) (hb : Below w.heap.size w w2) : LitW w2 g := ⟨(hb.block _ (blk_lt h.1)).trans h.1, (hb.block _ (blk_lt h.2)).trans h.2⟩
theorem LitW.cls {w : World} {g : Nat} (h : LitW w g) : Cls w (.slice (some ⟨g + 1, 0, none⟩) 1 1) [[atB]] := by
 refine cls_one (cell_blk h.2 0).1 (blk_lt h.2) ⟨some ⟨g, 0, none⟩, 1, rfl, by simp, fun i hi => ?_⟩
 obtain rfl : i = 0 := by simpa using hi
 exact ⟨g, 0, rfl, blk_lt h.1, (cell_blk h.1 0).1, (cell_blk h.1 1).1, (cell_blk h.1 2).1⟩
abbrev cA (g : Nat) : List Value := litC sAA (.slice (some ⟨g + 1, 0, none⟩) 1 1)
end
end Go.Proofs.YtdkpglmdncjnbaaGreatDoor
