import Derived.Test.YtpakhjbaniapnaaKsH
namespace Go.Proofs.Ytpakhjbaniapnaa
open Go.RowKit

theorem neq26 (x y : Fl) (hx : isS x) (hy : isS y) (w : World) : (binOp .neq 26 (.agg x.cs.toArray) (.agg y.cs.toArray)).run Try.prog w = .ok (.bool (!eqF x y)) w := by
  obtain ⟨r, hr, hiff⟩ := run_equalIn_deep (P := Try.prog) (10000 - 5) 5 26 key26 w 6 6 (.agg x.cs.toArray) (.agg y.cs.toArray) x.ls y.ls (form26 hx) (form26 hy) (by simpa [Value.cells] using hx.2.1) (by simpa [Value.cells] using hy.2.1)
  have he : eqF x y = r := by
    have h := eqLits_iff x.ls y.ls hx.2.2 hy.2.2
    unfold eqF
    cases r
    · cases e : eqL eqLit x.ls y.ls
      · rfl
      · have := hiff.2 (h.1 e)
        cases this
    · exact h.2 (hiff.1 rfl)
  rw [run_neq_struct, he, show (10000 : Nat) = 10000 - 5 + 5 from rfl, hr]
  rfl
theorem eqP_ref (p q : Pk) : eqP p q = ((p.nm.toList == q.nm.toList) && (p.vr.toList == q.vr.toList) && (p.es == q.es) && (p.ar.toList == q.ar.toList) && (p.sz == q.sz) && eqF p.sm q.sm && (p.sy.toList == q.sy.toList) && eqL (eqL eqA) p.dp q.dp && eqL (eqL eqA) p.pr q.pr && eqL eqA p.cf q.cf && eqL eqS p.pv q.pv && eqL eqF p.fs q.fs) := by
  unfold eqP eqK eqR eqFs
  generalize (p.nm.toList == q.nm.toList) = a1
  generalize (p.vr.toList == q.vr.toList) = a2
  generalize (p.es == q.es) = a3
  generalize (p.ar.toList == q.ar.toList) = a4
  generalize (p.sz == q.sz) = a5
  generalize eqF p.sm q.sm = a6
  generalize (p.sy.toList == q.sy.toList) = a7
  generalize eqL (eqL eqA) p.dp q.dp = a8
  generalize eqL (eqL eqA) p.pr q.pr = a9
  generalize eqL eqA p.cf q.cf = a10
  generalize eqL eqS p.pv q.pv = a11
  generalize eqL eqF p.fs q.fs = a12
  cases a1 <;> cases a2 <;> cases a3 <;> cases a4 <;> cases a5 <;> cases a6 <;> cases a7 <;> simp

set_option maxRecDepth 100000 in
set_option maxHeartbeats 16000000 in
theorem rSame_any (p q : Pk) (cs ds : List Value) (d r c v f d' r' c' v' f' : Value) (w : World) (h1 : PkC cs p d r c v f) (h2 : PkC ds q d' r' c' v' f') (l1 : PkL w p d r c v f) (l2 : PkL w q d' r' c' v' f') :
    Calls Try.prog 6 #[.agg cs.toArray, .agg ds.toArray] w fun e w' => e = .returned (.bool (eqP p q)) ∧ Below w.heap.size w w' := by
  obtain ⟨W, hW, hc, hd, hlt, hB⟩ := two_new w cs ds 28
  have a0 := hc 0 _ h1.c0
  have a1 := hc 1 _ h1.c1
  have a2 := hc 2 _ h1.c2
  have a8 := hc 8 _ h1.c8
  have a9 := hc 9 _ h1.c9
  have a42 := hc 42 _ h1.c42
  have b0 := hd 0 _ h2.c0
  have b1 := hd 1 _ h2.c1
  have b2 := hd 2 _ h2.c2
  have b8 := hd 8 _ h2.c8
  have b9 := hd 9 _ h2.c9
  have b42 := hd 42 _ h2.c42
  have ra : W.rangeAt w.heap.size 10 p.sm.cs := fun j x hx => hc (10 + j) x (h1.cs0 j x hx)
  have rb : W.rangeAt (w.heap.size + 1) 10 q.sm.cs := fun j x hx => hd (10 + j) x (h2.cs0 j x hx)
  have hs0 : w.heap.size < W.heap.size := by omega
  have ce := neq26 p.sm q.sm l1.sl l2.sl
  have i1 : (Try.prog.info? 26).map (·.size) = some p.sm.cs.length := by rw [l1.sl.1]; exact info26
  have i2 : (Try.prog.info? 26).map (·.size) = some q.sm.cs.length := by rw [l2.sl.1]; exact info26
  have HP := hide (fun (w' : World) (hb : Below W.heap.size W w') => show w'.cell? ⟨w.heap.size, 3, none⟩ = some d ∧ w'.cell? ⟨w.heap.size, 4, none⟩ = some r ∧ w'.cell? ⟨w.heap.size, 5, none⟩ = some c ∧ w'.cell? ⟨w.heap.size, 6, none⟩ = some v ∧ w'.cell? ⟨w.heap.size, 7, none⟩ = some f ∧ w'.cell? ⟨w.heap.size + 1, 3, none⟩ = some d' ∧ w'.cell? ⟨w.heap.size + 1, 4, none⟩ = some r' ∧ w'.cell? ⟨w.heap.size + 1, 5, none⟩ = some c' ∧ w'.cell? ⟨w.heap.size + 1, 6, none⟩ = some v' ∧ w'.cell? ⟨w.heap.size + 1, 7, none⟩ = some f' from
    have k (i : Nat) (x : Value) (h : cs[i]? = some x) : w'.cell? ⟨w.heap.size, i, none⟩ = some x := (hb.cell (p := ⟨w.heap.size, i, none⟩) (by show w.heap.size < W.heap.size; omega)).trans (hc i x h)
    have k' (i : Nat) (x : Value) (h : ds[i]? = some x) : w'.cell? ⟨w.heap.size + 1, i, none⟩ = some x := (hb.cell (p := ⟨w.heap.size + 1, i, none⟩) (by show w.heap.size + 1 < W.heap.size; omega)).trans (hd i x h)
    ⟨k 3 d h1.c3, k 4 r h1.c4, k 5 c h1.c5, k 6 v h1.c6, k 7 f h1.c7, k' 3 d' h2.c3, k' 4 r' h2.c4, k' 5 c' h2.c5, k' 6 v' h2.c6, k' 7 f' h2.c7⟩)
  have p1 : PrC W d d' (eqL (eqL eqA) p.dp q.dp) := ⟨_, _, (l1.later hB).dl, (l2.later hB).dl, rfl⟩
  have p2 : PrC W r r' (eqL (eqL eqA) p.pr q.pr) := ⟨_, _, (l1.later hB).rl, (l2.later hB).rl, rfl⟩
  have c3 := hide (fun (w' : World) (hb : Below W.heap.size W w') => ratoms_any p.cf q.cf c c' w' ((l1.later hB).later hb).cl ((l2.later hB).later hb).cl)
  have V1 := hide (l1.later hB).vl
  have V2 := hide (l2.later hB).vl
  have F1 := hide (l1.later hB).fl
  have F2 := hide (l2.later hB).fl
  have HF := hide (eqP_ref p q)
  generalize eqL (eqL eqA) p.dp q.dp = e8 at *
  generalize eqL (eqL eqA) p.pr q.pr = e9 at *
  generalize eqL eqA p.cf q.cf = e10 at *
  generalize eqF p.sm q.sm = e6 at *
  generalize eqP p q = rr at *
  have HB := hide hB
  have RA := hide ra
  have RB := hide rb
  have I1 := hide i1
  have I2 := hide i2
  clear hc hd h1 h2 l1 l2 hB ra rb i1 i2
  generalize p.nm = n1 at *
  generalize q.nm = n2 at *
  generalize p.vr = r1 at *
  generalize q.vr = r2 at *
  generalize p.es = s1 at *
  generalize q.es = s2 at *
  generalize p.ar = ap at *
  generalize q.ar = aq at *
  generalize p.sz = sp at *
  generalize q.sz = sq at *
  generalize p.sy = y1 at *
  generalize q.sy = y2 at *
  generalize p.sm.cs = ps at *
  generalize q.sm.cs = qs at *
  generalize p.pv = pv at *
  generalize q.pv = qv at *
  generalize p.fs = pf at *
  generalize q.fs = qf at *
  obtain ⟨va, vc, rfl⟩ := (unhide V1).shape
  obtain ⟨ua, uc, rfl⟩ := (unhide V2).shape
  obtain ⟨fa, fc, rfl⟩ := (unhide F1).shape
  obtain ⟨ga, gc, rfl⟩ := (unhide F2).shape
  have bN := (unhide V1).bigL
  have bL := (unhide V2).bigL
  have bM := (unhide F1).bigL
  have bK := (unhide F2).bigL
  obtain ⟨N, hN⟩ : ∃ N, pv.length = N := ⟨_, rfl⟩
  obtain ⟨L, hL⟩ : ∃ N, qv.length = N := ⟨_, rfl⟩
  obtain ⟨M, hM⟩ : ∃ N, pf.length = N := ⟨_, rfl⟩
  obtain ⟨K, hK⟩ : ∃ N, qf.length = N := ⟨_, rfl⟩
  rw [hN] at V1 bN HP
  rw [hL] at V2 bL HP
  rw [hM] at F1 bM HP
  rw [hK] at F2 bK HP
  have HLen := hide (And.intro hN (And.intro hL (And.intro hM hK)))
  clear hN hL hM hK
  by_cases e1 : n1.toList = n2.toList
  case neg =>
    have e1b : (n1.toList == n2.toList) = false := by simpa using e1
    have e1c : (n1.toList != n2.toList) = true := by simp [bne, e1b]
    rw [e1b] at HF
    go_enter Try.func6, Try.ntmps6
    go_wp2_with fail
    go_ret
    exact ⟨ret_bool (by rw [unhide HF]; simp), unhide HB⟩
  have e1b : (n1.toList == n2.toList) = true := by simpa using e1
  have e1c : (n1.toList != n2.toList) = false := by simp [bne, e1b]
  rw [e1b] at HF
  by_cases e2 : r1.toList = r2.toList
  case neg =>
    have e2b : (r1.toList == r2.toList) = false := by simpa using e2
    have e2c : (r1.toList != r2.toList) = true := by simp [bne, e2b]
    rw [e2b] at HF
    go_enter Try.func6, Try.ntmps6
    go_wp2_with fail
    go_ret
    exact ⟨ret_bool (by rw [unhide HF]; simp), unhide HB⟩
  have e2b : (r1.toList == r2.toList) = true := by simpa using e2
  have e2c : (r1.toList != r2.toList) = false := by simp [bne, e2b]
  rw [e2b] at HF
  by_cases e3 : s1 = s2
  case neg =>
    have e3b : (s1 == s2) = false := by simpa using e3
    have e3c : (s1 != s2) = true := by simp [bne, e3b]
    rw [e3b] at HF
    go_enter Try.func6, Try.ntmps6
    go_wp2_with fail
    go_ret
    exact ⟨ret_bool (by rw [unhide HF]; simp), unhide HB⟩
  have e3b : (s1 == s2) = true := by simpa using e3
  have e3c : (s1 != s2) = false := by simp [bne, e3b]
  rw [e3b] at HF
  by_cases e4 : ap.toList = aq.toList
  case neg =>
    have e4b : (ap.toList == aq.toList) = false := by simpa using e4
    have e4c : (ap.toList != aq.toList) = true := by simp [bne, e4b]
    rw [e4b] at HF
    go_enter Try.func6, Try.ntmps6
    go_wp2_with fail
    go_ret
    exact ⟨ret_bool (by rw [unhide HF]; simp), unhide HB⟩
  have e4b : (ap.toList == aq.toList) = true := by simpa using e4
  have e4c : (ap.toList != aq.toList) = false := by simp [bne, e4b]
  rw [e4b] at HF
  by_cases e5 : sp = sq
  case neg =>
    have e5b : (sp == sq) = false := by simpa using e5
    have e5c : (sp != sq) = true := by simp [bne, e5b]
    rw [e5b] at HF
    go_enter Try.func6, Try.ntmps6
    go_wp2_with fail
    go_ret
    exact ⟨ret_bool (by rw [unhide HF]; simp), unhide HB⟩
  have e5b : (sp == sq) = true := by simpa using e5
  have e5c : (sp != sq) = false := by simp [bne, e5b]
  rw [e5b] at HF
  cases e6
  case false =>
    go_enter Try.func6, Try.ntmps6
    go_wp2_with (first | ((with_reducible refine wpList_load_want1 (op := { dst := some 42, op := Op.load 26 (Operand.tmp 41), type := 26, pos := "ref.go:513", after := #[{ on := 34, ground := Ground.data }, { on := 33, ground := Ground.guard }], guard := some (33, false) }) 26 (.tmp 41) ?h1a ?h1b w.heap.size 10 ?h1c ps _ (unhide RA) Try.underlying26 ?h1d (unhide I1) ?h1e); (case h1a => rfl); (case h1b => rfl); (case h1c => rfl); (case h1d => rfl)) | ((with_reducible refine wpList_load_want1 (op := { dst := some 44, op := Op.load 26 (Operand.tmp 43), type := 26, pos := "ref.go:513", after := #[{ on := 36, ground := Ground.data }, { on := 33, ground := Ground.guard }], guard := some (33, false) }) 26 (.tmp 43) ?h2a ?h2b (w.heap.size + 1) 10 ?h2c qs _ (unhide RB) Try.underlying26 ?h2d (unhide I2) ?h2e); (case h2a => rfl); (case h2b => rfl); (case h2c => rfl); (case h2d => rfl)))
    go_ret
    exact ⟨ret_bool (by rw [unhide HF]; simp), unhide HB⟩
  by_cases e7 : y1.toList = y2.toList
  case neg =>
    have e7b : (y1.toList == y2.toList) = false := by simpa using e7
    have e7c : (y1.toList != y2.toList) = true := by simp [bne, e7b]
    rw [e7b] at HF
    go_enter Try.func6, Try.ntmps6
    go_wp2_with (first | ((with_reducible refine wpList_load_want1 (op := { dst := some 42, op := Op.load 26 (Operand.tmp 41), type := 26, pos := "ref.go:513", after := #[{ on := 34, ground := Ground.data }, { on := 33, ground := Ground.guard }], guard := some (33, false) }) 26 (.tmp 41) ?h3a ?h3b w.heap.size 10 ?h3c ps _ (unhide RA) Try.underlying26 ?h3d (unhide I1) ?h3e); (case h3a => rfl); (case h3b => rfl); (case h3c => rfl); (case h3d => rfl)) | ((with_reducible refine wpList_load_want1 (op := { dst := some 44, op := Op.load 26 (Operand.tmp 43), type := 26, pos := "ref.go:513", after := #[{ on := 36, ground := Ground.data }, { on := 33, ground := Ground.guard }], guard := some (33, false) }) 26 (.tmp 43) ?h4a ?h4b (w.heap.size + 1) 10 ?h4c qs _ (unhide RB) Try.underlying26 ?h4d (unhide I2) ?h4e); (case h4a => rfl); (case h4b => rfl); (case h4c => rfl); (case h4d => rfl)))
    go_ret
    exact ⟨ret_bool (by rw [unhide HF]; simp), unhide HB⟩
  have e7b : (y1.toList == y2.toList) = true := by simpa using e7
  have e7c : (y1.toList != y2.toList) = false := by simp [bne, e7b]
  rw [e7b] at HF
  obtain ⟨g30, g40, g50, g60, g70, k30, k40, k50, k60, k70⟩ := unhide HP _ (Below.refl _ _)
  go_enter Try.func6, Try.ntmps6
  go_wp2_with (first | ((with_reducible refine wpList_load_want1 (op := { dst := some 42, op := Op.load 26 (Operand.tmp 41), type := 26, pos := "ref.go:513", after := #[{ on := 34, ground := Ground.data }, { on := 33, ground := Ground.guard }], guard := some (33, false) }) 26 (.tmp 41) ?h5a ?h5b w.heap.size 10 ?h5c ps _ (unhide RA) Try.underlying26 ?h5d (unhide I1) ?h5e); (case h5a => rfl); (case h5b => rfl); (case h5c => rfl); (case h5d => rfl)) | ((with_reducible refine wpList_load_want1 (op := { dst := some 44, op := Op.load 26 (Operand.tmp 43), type := 26, pos := "ref.go:513", after := #[{ on := 36, ground := Ground.data }, { on := 33, ground := Ground.guard }], guard := some (33, false) }) 26 (.tmp 43) ?h6a ?h6b (w.heap.size + 1) 10 ?h6c qs _ (unhide RB) Try.underlying26 ?h6d (unhide I2) ?h6e); (case h6a => rfl); (case h6b => rfl); (case h6c => rfl); (case h6d => rfl)))
  cases e8
  case false =>
    refine (rclauses_pr p1 _ (Below.refl _ _)).mono ?_
    rintro e w1 ⟨rfl, hb1⟩
    have HB1 := hide (hb1)
    clear hb1
    go_wp2_with fail
    go_ret
    exact ⟨ret_bool (by rw [unhide HF]; simp), bl_t (unhide HB) (unhide HB1)⟩
  refine (rclauses_pr p1 _ (Below.refl _ _)).mono ?_
  rintro e w1 ⟨rfl, hb1⟩
  have HB1 := hide (hb1)
  clear hb1
  obtain ⟨g31, g41, g51, g61, g71, k31, k41, k51, k61, k71⟩ := unhide HP _ (unhide HB1)
  have hs1 := Nat.lt_of_lt_of_le hlt (unhide HB1).size
  have ht1 : w.heap.size < w1.heap.size := by omega
  go_wp2_with fail
  cases e9
  case false =>
    refine (rclauses_pr p2 _ (unhide HB1)).mono ?_
    rintro e w2 ⟨rfl, hb2⟩
    have HB2 := hide (bl_t (unhide HB1) hb2)
    clear hb2
    go_wp2_with fail
    go_ret
    exact ⟨ret_bool (by rw [unhide HF]; simp), bl_t (unhide HB) (unhide HB2)⟩
  refine (rclauses_pr p2 _ (unhide HB1)).mono ?_
  rintro e w2 ⟨rfl, hb2⟩
  have HB2 := hide (bl_t (unhide HB1) hb2)
  clear hb2
  obtain ⟨g32, g42, g52, g62, g72, k32, k42, k52, k62, k72⟩ := unhide HP _ (unhide HB2)
  have hs2 := Nat.lt_of_lt_of_le hlt (unhide HB2).size
  have ht2 : w.heap.size < w2.heap.size := by omega
  go_wp2_with fail
  cases e10
  case false =>
    refine (unhide c3 _ (unhide HB2)).mono ?_
    rintro e w3 ⟨rfl, hb3⟩
    have HB3 := hide (bl_t (unhide HB2) hb3)
    clear hb3
    go_wp2_with fail
    go_ret
    exact ⟨ret_bool (by rw [unhide HF]; simp), bl_t (unhide HB) (unhide HB3)⟩
  refine (unhide c3 _ (unhide HB2)).mono ?_
  rintro e w3 ⟨rfl, hb3⟩
  have HB3 := hide (bl_t (unhide HB2) hb3)
  clear hb3
  obtain ⟨g33, g43, g53, g63, g73, k33, k43, k53, k63, k73⟩ := unhide HP _ (unhide HB3)
  have hs3 := Nat.lt_of_lt_of_le hlt (unhide HB3).size
  have ht3 : w.heap.size < w3.heap.size := by omega
  by_cases m1 : N = L
  case neg =>
    have HE := hide (eqL_len eqS pv qv (by have h := unhide HLen; omega))
    have m1' : ¬ ((N : Int) = (L : Int)) := by omega
    have m1b : ((N : Int) == (L : Int)) = false := beq_eq_false_iff_ne.2 m1'
    have m1c : ((N : Int) != (L : Int)) = true := by simp [bne, m1b]
    go_wp2_with fail
    go_ret
    exact ⟨ret_bool (by rw [unhide HF, unhide HE]; simp), bl_t (unhide HB) (unhide HB3)⟩
  subst m1
  by_cases m2 : M = K
  case neg =>
    have HE := hide (eqL_len eqF pf qf (by have h := unhide HLen; omega))
    have m2' : ¬ ((M : Int) = (K : Int)) := by omega
    have m2b : ((M : Int) == (K : Int)) = false := beq_eq_false_iff_ne.2 m2'
    have m2c : ((M : Int) != (K : Int)) = true := by simp [bne, m2b]
    go_wp2_with fail
    go_ret
    exact ⟨ret_bool (by rw [unhide HF, unhide HE]; simp), bl_t (unhide HB) (unhide HB3)⟩
  subst m2
  have HBad := hide (fun k h1 h2 => eqL_bad eqS pv qv k h1 h2)
  have HGood := hide (fun h => eqL_good eqS pv qv (by have h := unhide HLen; omega) h)
  have HBadF := hide (fun k h1 h2 => eqL_bad eqF pf qf k h1 h2)
  have HGoodF := hide (fun h => eqL_good eqF pf qf (by have h := unhide HLen; omega) h)
  generalize eqL eqS pv qv = e11 at *
  generalize eqL eqF pf qf = e12 at *
  have hsW := hlt
  clear g31 g41 g51 g61 g71 k31 k41 k51 k61 k71 g32 g42 g52 g62 g72 k32 k42 k52 k62 k72 g30 g40 g50 g60 g70 k30 k40 k50 k60 k70
  go_wp2_with fail
  go_loopw [5] (fun i wr => ∃ k : Nat, k ≤ N ∧ i = .int .i64 k ∧ Hid (Below W.heap.size W wr) ∧ Hid (∀ j (h1 : j < pv.length) (h2 : j < qv.length), j < k → eqS pv[j] qv[j] = true)) (fun i _ => N - (intOf i).toNat)
  case atStart => exact ⟨0, Nat.zero_le _, rfl, HB3, hide (fun j _ _ h => absurd h (Nat.not_lt_zero _))⟩
  case round =>
    obtain ⟨k, hk, rfl, HBr, HZ⟩ := hrel
    obtain ⟨_, _, _, g6, g7, _, _, _, k6, k7⟩ := unhide HP _ (unhide HBr)
    have hs4 := Nat.lt_of_lt_of_le hlt (unhide HBr).size
    have ht4 : w.heap.size < wr.heap.size := by omega
    by_cases hlt1 : k < N
    · have hka : k < pv.length := by have h := unhide HLen; omega
      have hkb : k < qv.length := by have h := unhide HLen; omega
      obtain ⟨g, o, rfl, hg, p0⟩ := ((unhide V1).later (unhide HBr)).elem k hka
      obtain ⟨g2, o2, rfl, hg2, q0⟩ := ((unhide V2).later (unhide HBr)).elem k hkb
      have HBad' := hide (unhide HBad k hka hkb)
      have HN := hide (fun (h : eqS pv[k] qv[k] = true) => upto_two (unhide HZ) hka hkb h)
      generalize pv[k] = x at *
      generalize qv[k] = y at *
      clear HBad HGood HZ
      by_cases hxy : x.toList = y.toList
      · have hxyb : (x.toList == y.toList) = true := by simpa using hxy
        have hxyc : (x.toList != y.toList) = false := by simp [bne, hxyb]
        have HZ' := hide (unhide HN hxyb)
        have HBd := hide (fun n => (unhide HBr).trans ((bl_drewN wr n).mono (unhide HBr).size))
        clear HBad' HN
        go_wp2_with fail
        go_quiet (fail)
        go_wp2
        go_roundw
        case rel => exact ⟨k + 1, by omega, by go_num, hide (unhide HBd _), HZ'⟩
        case measure => simp [intOf]; omega
      · have hxyb : (x.toList == y.toList) = false := by simpa using hxy
        have hxyc : (x.toList != y.toList) = true := by simp [bne, hxyb]
        have HE := hide (unhide HBad' hxyb)
        clear HBad' HN
        go_wp2_with fail
        go_quiet (fail)
        go_wp2
        go_ret
        exact ⟨ret_bool (by rw [unhide HF, unhide HE]; simp), bl_t (unhide HB) ((unhide HBr).trans ((bl_drewN wr _).mono (unhide HBr).size))⟩
    · have HE := hide (unhide HGood (fun j h1 h2 => unhide HZ j h1 h2 (by have h := unhide HLen; omega)))
      clear HZ HBad HGood
      go_wp2_with fail
      go_loopw [6] (fun i wr => ∃ k : Nat, k ≤ M ∧ i = .int .i64 k ∧ Hid (Below W.heap.size W wr) ∧ Hid (∀ j (h1 : j < pf.length) (h2 : j < qf.length), j < k → eqF pf[j] qf[j] = true)) (fun i _ => M - (intOf i).toNat)
      case atStart => exact ⟨0, Nat.zero_le _, rfl, HBr, hide (fun j _ _ h => absurd h (Nat.not_lt_zero _))⟩
      case round =>
        clear hs4 ht4 g6 g7 k6 k7
        obtain ⟨k, hk, rfl, HBs, HZ⟩ := hrel
        obtain ⟨_, _, _, g6, g7, _, _, _, k6, k7⟩ := unhide HP _ (unhide HBs)
        have hs4 := Nat.lt_of_lt_of_le hlt (unhide HBs).size
        have ht4 : w.heap.size < wr.heap.size := by omega
        by_cases hlt2 : k < M
        · have hka : k < pf.length := by have h := unhide HLen; omega
          have hkb : k < qf.length := by have h := unhide HLen; omega
          obtain ⟨f1, g, o, rfl, hg, p0⟩ := ((unhide F1).later (unhide HBs)).elem k hka
          obtain ⟨f2, g2, o2, rfl, hg2, q0⟩ := ((unhide F2).later (unhide HBs)).elem k hkb
          have HBad' := hide (unhide HBadF k hka hkb)
          have HN := hide (fun (h : eqF pf[k] qf[k] = true) => upto_two (unhide HZ) hka hkb h)
          have HQ := hide (fun (w' : World) (hb : Below wr.heap.size wr w') => And.intro ((hb.cell (p := ⟨w.heap.size, 7, none⟩) ht4).trans g7) (And.intro ((hb.cell (p := ⟨w.heap.size + 1, 7, none⟩) hs4).trans k7) (And.intro (rangeAt_later p0 hg hb) (rangeAt_later q0 hg2 hb))))
          have B0 := hide ((Below.refl wr.heap.size wr).drew)
          generalize pf[k] = x at *
          generalize qf[k] = y at *
          have ce := neqF x y f1 f2
          have l1 : (Try.prog.info? 35).map (·.size) = some x.cs.length := by rw [f1.1]; exact infoF
          have l2 : (Try.prog.info? 35).map (·.size) = some y.cs.length := by rw [f2.1]; exact infoF
          have HB9 := hide ((unhide HBs).trans ((unhide B0).mono (unhide HBs).size))
          clear HBadF HGoodF HZ p0 q0
          cases hxy : eqF x y
          · rw [hxy] at ce
            have HE2 := hide (unhide HBad' hxy)
            clear HBad' HN hxy
            go_wp2_with fail
            refine wp_region_held_drew (S := fun w' => w'.cell? ⟨w.heap.size, 7, none⟩ = some (.slice (some ⟨g, o, none⟩) M fc) ∧ w'.cell? ⟨w.heap.size + 1, 7, none⟩ = some (.slice (some ⟨g2, o2, none⟩) M gc) ∧ w'.rangeAt g (o + k * 34) x.cs ∧ w'.rangeAt g2 (o2 + k * 34) y.cs) (by kernel_rfl) ?_ (fun hHeld => ?_)
            · exact unhide HQ _ (unhide B0)
            refine wpAnyH_take (i := 0) (oi := { dst := some 119, op := Op.fieldAddr 28 (Operand.tmp 2) 7, type := 0, pos := "ref.go:525", after := #[], guard := none }) (v := ?_) rfl (by kernel_rfl) (by kernel_rfl) (by kernel_rfl) (fun _ _ _ h => h) (Or.inl ⟨by rfl, ?_⟩) (by assumption) ?_
            rotate_left
            · intro w hSw; (try dsimp only at hSw); go_simp; (try with_reducible rfl)
            try simp only [Act.put, List.setIfInBounds_toArray, List.set_cons_zero, List.set_cons_succ]
            refine wpAnyH_take (i := 1) (oi := { dst := some 120, op := Op.load 25 (Operand.tmp 119), type := 25, pos := "ref.go:525", after := #[{ on := 0, ground := Ground.data }], guard := none }) (v := ?_) rfl (by kernel_rfl) (by kernel_rfl) (by kernel_rfl) (fun _ _ _ h => h) (Or.inl ⟨by rfl, ?_⟩) (by assumption) ?_
            rotate_left
            · intro w hSw; (try dsimp only at hSw); go_simp; (try with_reducible rfl)
            try simp only [Act.put, List.setIfInBounds_toArray, List.set_cons_zero, List.set_cons_succ]
            refine wpAnyH_take (i := 2) (oi := { dst := some 121, op := Op.move (Operand.tmp 6), type := 3, pos := "ref.go:525", after := #[], guard := none }) (v := ?_) rfl (by kernel_rfl) (by kernel_rfl) (by kernel_rfl) (fun _ _ _ h => h) (Or.inl ⟨by rfl, ?_⟩) (by assumption) ?_
            rotate_left
            · intro w hSw; (try dsimp only at hSw); go_simp; (try with_reducible rfl)
            try simp only [Act.put, List.setIfInBounds_toArray, List.set_cons_zero, List.set_cons_succ]
            refine wpAnyH_take (i := 3) (oi := { dst := some 122, op := Op.indexAddr 25 (Operand.tmp 120) (Operand.tmp 121), type := 0, pos := "ref.go:525", after := #[{ on := 1, ground := Ground.data }, { on := 2, ground := Ground.data }], guard := none }) (v := ?_) rfl (by kernel_rfl) (by kernel_rfl) (by kernel_rfl) (fun _ _ _ h => h) (Or.inl ⟨by rfl, ?_⟩) (by assumption) ?_
            rotate_left
            · intro w hSw; (try dsimp only at hSw); go_simp; (try with_reducible rfl)
            try simp only [Act.put, List.setIfInBounds_toArray, List.set_cons_zero, List.set_cons_succ]
            refine wpAnyH_take (i := 4) (oi := { dst := some 123, op := Op.load 35 (Operand.tmp 122), type := 35, pos := "ref.go:525", after := #[{ on := 3, ground := Ground.data }], guard := none }) (v := .agg x.cs.toArray) rfl (by kernel_rfl) (by kernel_rfl) (by kernel_rfl) (fun _ _ _ h => h) (yieldsIf_load_mid (by rfl) 35 (.tmp 122) rfl g (o + k * 34) (by rfl) x.cs _ (fun _ h => h.2.2.1) Try.underlying35 rfl l1) (by assumption) ?_
            try simp only [Act.put, List.setIfInBounds_toArray, List.set_cons_zero, List.set_cons_succ]
            refine wpAnyH_take (i := 5) (oi := { dst := some 124, op := Op.fieldAddr 28 (Operand.tmp 3) 7, type := 0, pos := "ref.go:525", after := #[], guard := none }) (v := ?_) rfl (by kernel_rfl) (by kernel_rfl) (by kernel_rfl) (fun _ _ _ h => h) (Or.inl ⟨by rfl, ?_⟩) (by assumption) ?_
            rotate_left
            · intro w hSw; (try dsimp only at hSw); go_simp; (try with_reducible rfl)
            try simp only [Act.put, List.setIfInBounds_toArray, List.set_cons_zero, List.set_cons_succ]
            refine wpAnyH_take (i := 6) (oi := { dst := some 125, op := Op.load 25 (Operand.tmp 124), type := 25, pos := "ref.go:525", after := #[{ on := 5, ground := Ground.data }], guard := none }) (v := ?_) rfl (by kernel_rfl) (by kernel_rfl) (by kernel_rfl) (fun _ _ _ h => h) (Or.inl ⟨by rfl, ?_⟩) (by assumption) ?_
            rotate_left
            · intro w hSw; (try dsimp only at hSw); go_simp; (try with_reducible rfl)
            try simp only [Act.put, List.setIfInBounds_toArray, List.set_cons_zero, List.set_cons_succ]
            refine wpAnyH_take (i := 7) (oi := { dst := some 126, op := Op.move (Operand.tmp 6), type := 3, pos := "ref.go:525", after := #[], guard := none }) (v := ?_) rfl (by kernel_rfl) (by kernel_rfl) (by kernel_rfl) (fun _ _ _ h => h) (Or.inl ⟨by rfl, ?_⟩) (by assumption) ?_
            rotate_left
            · intro w hSw; (try dsimp only at hSw); go_simp; (try with_reducible rfl)
            try simp only [Act.put, List.setIfInBounds_toArray, List.set_cons_zero, List.set_cons_succ]
            refine wpAnyH_take (i := 8) (oi := { dst := some 127, op := Op.indexAddr 25 (Operand.tmp 125) (Operand.tmp 126), type := 0, pos := "ref.go:525", after := #[{ on := 6, ground := Ground.data }, { on := 7, ground := Ground.data }], guard := none }) (v := ?_) rfl (by kernel_rfl) (by kernel_rfl) (by kernel_rfl) (fun _ _ _ h => h) (Or.inl ⟨by rfl, ?_⟩) (by assumption) ?_
            rotate_left
            · intro w hSw; (try dsimp only at hSw); go_simp; (try with_reducible rfl)
            try simp only [Act.put, List.setIfInBounds_toArray, List.set_cons_zero, List.set_cons_succ]
            refine wpAnyH_take (i := 9) (oi := { dst := some 128, op := Op.load 35 (Operand.tmp 127), type := 35, pos := "ref.go:525", after := #[{ on := 8, ground := Ground.data }], guard := none }) (v := .agg y.cs.toArray) rfl (by kernel_rfl) (by kernel_rfl) (by kernel_rfl) (fun _ _ _ h => h) (yieldsIf_load_mid (by rfl) 35 (.tmp 127) rfl g2 (o2 + k * 34) (by rfl) y.cs _ (fun _ h => h.2.2.2) Try.underlying35 rfl l2) (by assumption) ?_
            try simp only [Act.put, List.setIfInBounds_toArray, List.set_cons_zero, List.set_cons_succ]
            refine wpAnyH_take (i := 10) (oi := { dst := some 129, op := Op.binOp BinOp.neq 35 (Operand.tmp 123) (Operand.tmp 128) 35, type := 4, pos := "ref.go:525", after := #[{ on := 4, ground := Ground.data }, { on := 9, ground := Ground.data }], guard := none }) (v := ?_) rfl (by kernel_rfl) (by kernel_rfl) (by kernel_rfl) (fun _ _ _ h => h) (Or.inl ⟨by rfl, ?_⟩) (by assumption) ?_
            rotate_left
            · intro w hSw; (try dsimp only at hSw); go_simp; (try with_reducible rfl)
            try simp only [Act.put, List.setIfInBounds_toArray, List.set_cons_zero, List.set_cons_succ]
            refine wpAnyH_done (by kernel_rfl) ?_ _
            go_wp2_with fail
            go_ret
            exact ⟨ret_bool (by rw [unhide HF, unhide HE2]; simp), bl_t (unhide HB) (unhide HB9)⟩
          · rw [hxy] at ce
            have HZ' := hide (unhide HN hxy)
            clear HBad' HN hxy
            go_wp2_with fail
            refine wp_region_held_drew (S := fun w' => w'.cell? ⟨w.heap.size, 7, none⟩ = some (.slice (some ⟨g, o, none⟩) M fc) ∧ w'.cell? ⟨w.heap.size + 1, 7, none⟩ = some (.slice (some ⟨g2, o2, none⟩) M gc) ∧ w'.rangeAt g (o + k * 34) x.cs ∧ w'.rangeAt g2 (o2 + k * 34) y.cs) (by kernel_rfl) ?_ (fun hHeld => ?_)
            · exact unhide HQ _ (unhide B0)
            refine wpAnyH_take (i := 0) (oi := { dst := some 119, op := Op.fieldAddr 28 (Operand.tmp 2) 7, type := 0, pos := "ref.go:525", after := #[], guard := none }) (v := ?_) rfl (by kernel_rfl) (by kernel_rfl) (by kernel_rfl) (fun _ _ _ h => h) (Or.inl ⟨by rfl, ?_⟩) (by assumption) ?_
            rotate_left
            · intro w hSw; (try dsimp only at hSw); go_simp; (try with_reducible rfl)
            try simp only [Act.put, List.setIfInBounds_toArray, List.set_cons_zero, List.set_cons_succ]
            refine wpAnyH_take (i := 1) (oi := { dst := some 120, op := Op.load 25 (Operand.tmp 119), type := 25, pos := "ref.go:525", after := #[{ on := 0, ground := Ground.data }], guard := none }) (v := ?_) rfl (by kernel_rfl) (by kernel_rfl) (by kernel_rfl) (fun _ _ _ h => h) (Or.inl ⟨by rfl, ?_⟩) (by assumption) ?_
            rotate_left
            · intro w hSw; (try dsimp only at hSw); go_simp; (try with_reducible rfl)
            try simp only [Act.put, List.setIfInBounds_toArray, List.set_cons_zero, List.set_cons_succ]
            refine wpAnyH_take (i := 2) (oi := { dst := some 121, op := Op.move (Operand.tmp 6), type := 3, pos := "ref.go:525", after := #[], guard := none }) (v := ?_) rfl (by kernel_rfl) (by kernel_rfl) (by kernel_rfl) (fun _ _ _ h => h) (Or.inl ⟨by rfl, ?_⟩) (by assumption) ?_
            rotate_left
            · intro w hSw; (try dsimp only at hSw); go_simp; (try with_reducible rfl)
            try simp only [Act.put, List.setIfInBounds_toArray, List.set_cons_zero, List.set_cons_succ]
            refine wpAnyH_take (i := 3) (oi := { dst := some 122, op := Op.indexAddr 25 (Operand.tmp 120) (Operand.tmp 121), type := 0, pos := "ref.go:525", after := #[{ on := 1, ground := Ground.data }, { on := 2, ground := Ground.data }], guard := none }) (v := ?_) rfl (by kernel_rfl) (by kernel_rfl) (by kernel_rfl) (fun _ _ _ h => h) (Or.inl ⟨by rfl, ?_⟩) (by assumption) ?_
            rotate_left
            · intro w hSw; (try dsimp only at hSw); go_simp; (try with_reducible rfl)
            try simp only [Act.put, List.setIfInBounds_toArray, List.set_cons_zero, List.set_cons_succ]
            refine wpAnyH_take (i := 4) (oi := { dst := some 123, op := Op.load 35 (Operand.tmp 122), type := 35, pos := "ref.go:525", after := #[{ on := 3, ground := Ground.data }], guard := none }) (v := .agg x.cs.toArray) rfl (by kernel_rfl) (by kernel_rfl) (by kernel_rfl) (fun _ _ _ h => h) (yieldsIf_load_mid (by rfl) 35 (.tmp 122) rfl g (o + k * 34) (by rfl) x.cs _ (fun _ h => h.2.2.1) Try.underlying35 rfl l1) (by assumption) ?_
            try simp only [Act.put, List.setIfInBounds_toArray, List.set_cons_zero, List.set_cons_succ]
            refine wpAnyH_take (i := 5) (oi := { dst := some 124, op := Op.fieldAddr 28 (Operand.tmp 3) 7, type := 0, pos := "ref.go:525", after := #[], guard := none }) (v := ?_) rfl (by kernel_rfl) (by kernel_rfl) (by kernel_rfl) (fun _ _ _ h => h) (Or.inl ⟨by rfl, ?_⟩) (by assumption) ?_
            rotate_left
            · intro w hSw; (try dsimp only at hSw); go_simp; (try with_reducible rfl)
            try simp only [Act.put, List.setIfInBounds_toArray, List.set_cons_zero, List.set_cons_succ]
            refine wpAnyH_take (i := 6) (oi := { dst := some 125, op := Op.load 25 (Operand.tmp 124), type := 25, pos := "ref.go:525", after := #[{ on := 5, ground := Ground.data }], guard := none }) (v := ?_) rfl (by kernel_rfl) (by kernel_rfl) (by kernel_rfl) (fun _ _ _ h => h) (Or.inl ⟨by rfl, ?_⟩) (by assumption) ?_
            rotate_left
            · intro w hSw; (try dsimp only at hSw); go_simp; (try with_reducible rfl)
            try simp only [Act.put, List.setIfInBounds_toArray, List.set_cons_zero, List.set_cons_succ]
            refine wpAnyH_take (i := 7) (oi := { dst := some 126, op := Op.move (Operand.tmp 6), type := 3, pos := "ref.go:525", after := #[], guard := none }) (v := ?_) rfl (by kernel_rfl) (by kernel_rfl) (by kernel_rfl) (fun _ _ _ h => h) (Or.inl ⟨by rfl, ?_⟩) (by assumption) ?_
            rotate_left
            · intro w hSw; (try dsimp only at hSw); go_simp; (try with_reducible rfl)
            try simp only [Act.put, List.setIfInBounds_toArray, List.set_cons_zero, List.set_cons_succ]
            refine wpAnyH_take (i := 8) (oi := { dst := some 127, op := Op.indexAddr 25 (Operand.tmp 125) (Operand.tmp 126), type := 0, pos := "ref.go:525", after := #[{ on := 6, ground := Ground.data }, { on := 7, ground := Ground.data }], guard := none }) (v := ?_) rfl (by kernel_rfl) (by kernel_rfl) (by kernel_rfl) (fun _ _ _ h => h) (Or.inl ⟨by rfl, ?_⟩) (by assumption) ?_
            rotate_left
            · intro w hSw; (try dsimp only at hSw); go_simp; (try with_reducible rfl)
            try simp only [Act.put, List.setIfInBounds_toArray, List.set_cons_zero, List.set_cons_succ]
            refine wpAnyH_take (i := 9) (oi := { dst := some 128, op := Op.load 35 (Operand.tmp 127), type := 35, pos := "ref.go:525", after := #[{ on := 8, ground := Ground.data }], guard := none }) (v := .agg y.cs.toArray) rfl (by kernel_rfl) (by kernel_rfl) (by kernel_rfl) (fun _ _ _ h => h) (yieldsIf_load_mid (by rfl) 35 (.tmp 127) rfl g2 (o2 + k * 34) (by rfl) y.cs _ (fun _ h => h.2.2.2) Try.underlying35 rfl l2) (by assumption) ?_
            try simp only [Act.put, List.setIfInBounds_toArray, List.set_cons_zero, List.set_cons_succ]
            refine wpAnyH_take (i := 10) (oi := { dst := some 129, op := Op.binOp BinOp.neq 35 (Operand.tmp 123) (Operand.tmp 128) 35, type := 4, pos := "ref.go:525", after := #[{ on := 4, ground := Ground.data }, { on := 9, ground := Ground.data }], guard := none }) (v := ?_) rfl (by kernel_rfl) (by kernel_rfl) (by kernel_rfl) (fun _ _ _ h => h) (Or.inl ⟨by rfl, ?_⟩) (by assumption) ?_
            rotate_left
            · intro w hSw; (try dsimp only at hSw); go_simp; (try with_reducible rfl)
            try simp only [Act.put, List.setIfInBounds_toArray, List.set_cons_zero, List.set_cons_succ]
            refine wpAnyH_done (by kernel_rfl) ?_ _
            go_wp2_with fail
            go_roundw
            case rel => exact ⟨k + 1, by omega, by go_num, HB9, HZ'⟩
            case measure => simp [intOf]; omega
        · have HE2 := hide (unhide HGoodF (fun j h1 h2 => unhide HZ j h1 h2 (by have h := unhide HLen; omega)))
          clear HZ HBadF HGoodF
          go_wp2_with fail
          go_ret
          exact ⟨ret_bool (by rw [unhide HF, unhide HE, unhide HE2]; simp), bl_t (unhide HB) (unhide HBs)⟩

end Go.Proofs.Ytpakhjbaniapnaa
