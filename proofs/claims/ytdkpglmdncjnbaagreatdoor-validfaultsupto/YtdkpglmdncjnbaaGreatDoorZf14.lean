import Derived.Test.YtdkpglmdncjnbaaGreatDoorZf13
namespace Go.Proofs.YtdkpglmdncjnbaaGreatDoor
section
open Go.RowKit Go.Maps Go.Shelf
attribute [local go_sem] Oper.semAt_some
attribute [local simp] wide_fn
attribute [local go_sem] wide_fn
theorem take_yes {P : List Nat} {j p : Nat} (h : P[j]? = some p) {m : Nat → Bool} (hm : m p = true) : (P.take (j + 1)).filter m = (P.take j).filter m ++ [p] := by
 rw [List.take_add_one, h, List.filter_append]
 simp [hm]
theorem take_no {P : List Nat} {j p : Nat} (h : P[j]? = some p) {m : Nat → Bool} (hm : m p = false) : (P.take (j + 1)).filter m = (P.take j).filter m := by
 rw [List.take_add_one, h, List.filter_append]
 simp [hm]
theorem pre_one (P Q : List Nat) (j : Nat) (m : Nat → Bool) : (P.take j).filter m <+: (P ++ Q).filter m := by
 rw [List.filter_append]
 refine List.IsPrefix.trans ?_ (List.prefix_append _ _)
 exact (List.take_prefix j P).filter m
theorem pre_two (P Q : List Nat) (j : Nat) (m : Nat → Bool) : P.filter m ++ (Q.take j).filter m <+: (P ++ Q).filter m := by
 rw [List.filter_append, List.prefix_append_right_inj]
 exact (List.take_prefix j Q).filter m
structure Sb (w0 w : World) (Bs Ba : Nat) (v : Value) (b1 b2 : Nat) (an : Nm) (op : Int) (bd : ByteArray) (ps : List Pd) (base : Nat) (H1 H2 : Nm → Option Hd) (F1 F2 : Nm → List Nat) (k1 k2 : Nat) : Prop where
 iw : Iw w0 Bs Ba (.cells #[v, .map (some b1), .map (some b2)] 62 (0, 0)) (.cells #[.string an, .int .i64 op, .string bd] 48 (0, 0)) w
 m1 : Mi w0 base (.map (some b1)) H1 F1 k1
 m2 : Mi w0 base (.map (some b2)) H2 F2 k2
 pk : Pks w0 v ps
 pl : ∀ p ∈ F1 an ++ F2 an, p < ps.length
 an : an.size ≤ maxLen
 bd : bd.size ≤ maxLen
set_option maxRecDepth 100000 in
set_option maxHeartbeats 8000000 in
theorem sat_b (n : Nat) {w0 w : World} {Bs Ba : Nat} {v : Value} {b1 b2 : Nat} {an : Nm} {op : Int} {bd : ByteArray} {ps : List Pd} {base : Nat} {H1 H2 : Nm → Option Hd} {F1 F2 : Nm → List Nat} {k1 k2 : Nat} (h : Sb w0 w Bs Ba v b1 b2 an op bd ps base H1 H2 F1 F2 k1 k2) (hl1 : (F1 an).length ≤ 1099511627776) (hl2 : (F2 an).length ≤ 1099511627776) :
 SeqB Fence.wide n Tryz.prog 102 #[.pointer (some ⟨Bs, 0, none⟩), .pointer (some ⟨Ba, 0, none⟩)] encI (Kb w0.heap.size Bs Ba) (fun xs => xs = satL ps an op bd (F1 an) (F2 an)) (fun pre => pre <+: satL ps an op bd (F1 an) (F2 an)) ((satL ps an op bd (F1 an) (F2 an)).length + 1) w := by
 intro l J Jx W hW hJd hY h0
 have iW := h.iw.later hW
 have hs := iW.s
 have ha := iW.a
 have m1 := h.m1.later iW.bel
 have m2 := h.m2.later iW.bel
 have pk := h.pk
 obtain ⟨va, vc, rfl⟩ : ∃ a c, v = .slice a ps.length c := let ⟨a, c, e, _⟩ := pk; ⟨a, c, e⟩
 have HAT := hide (show ∀ X : World, Iw w0 Bs Ba (.cells #[.slice va ps.length vc, .map (some b1), .map (some b2)] 62 (0, 0)) (.cells #[.string an, .int .i64 op, .string bd] 48 (0, 0)) X → ∀ (p : Nat) (q : Pd), ps[p]? = some q → ∃ (b o : Nat), X.cell? ⟨Ba, 0, none⟩ = some (.string an) ∧ X.cell? ⟨Ba, 1, none⟩ = some (.int .i64 op) ∧ X.cell? ⟨Ba, 2, none⟩ = some (.string bd) ∧ X.cell? ⟨Bs, 0, none⟩ = some (.slice (some ⟨b, o, none⟩) ps.length vc) ∧ (p : Int) < (ps.length : Int) ∧ (Instr.loadAt 46 (.pointer (some ⟨b, o + p * 43, none⟩))).run Tryz.prog X = .ok (.agg q.cs.toArray) X ∧ Calls Tryz.prog 76 #[.agg #[.string an, .int .i64 op, .string bd], .agg q.cs.toArray] X fun e w' => e = .returned (.bool (meetsA an op bd q.nm q.vr q.pl)) ∧ RowKit.Below X.heap.size X w' from fun X hX p q hq => by
  have hs2 := hX.s
  have ha2 := hX.a
  have hpl := (List.getElem?_eq_some_iff.1 hq).1
  obtain ⟨a, c, e, qq⟩ := pk.later hX.bel
  injection e with e _ _
  obtain ⟨b, o, q1, q2, q3⟩ := qq (by omega)
  obtain ⟨r1, r2, r3, r4⟩ := q3 p q hq
  refine ⟨b, o, (cell_blk ha2 0).1.trans rfl, (cell_blk ha2 1).1.trans rfl, (cell_blk ha2 2).1.trans rfl, ?_, by omega, ?_, ?_⟩
  ·rw [← q1, ← e]; exact (cell_blk hs2 0).1.trans rfl
  ·exact run_loadAt_mid X b (o + p * 43) 46 q.cs _ r1 Tryz.underlying46 rfl (by rw [r2.len]; exact info43)
  ·exact Meets_any an op bd q.nm q.vr q.pv q.pl q.cs h.bd r4 X r2 r3)
 have HPL := hide (show ∀ p ∈ F1 an ++ F2 an, ∃ q, ps[p]? = some q from fun p hp => ⟨_, List.getElem?_eq_getElem (h.pl p hp)⟩)
 have c0 := (cell_blk hs 0).1.trans (show #[Value.slice va ps.length vc, .map (some b1), .map (some b2)][0]? = some (.slice va ps.length vc) from rfl)
 have c1 := (cell_blk hs 1).1.trans (show #[Value.slice va ps.length vc, .map (some b1), .map (some b2)][1]? = some (.map (some b1)) from rfl)
 have c2 := (cell_blk hs 2).1.trans (show #[Value.slice va ps.length vc, .map (some b1), .map (some b2)][2]? = some (.map (some b2)) from rfl)
 have ca := (cell_blk ha 0).1.trans (show #[Value.string an, .int .i64 op, .string bd][0]? = some (.string an) from rfl)
 have lk1 := look1 m1.dm h.an
 have lk2 := look1 m2.dm h.an
 obtain ⟨a1, d1, e1⟩ : ∃ a c, hv0 (H1 an) = .slice a (F1 an).length c := by
  obtain ⟨f, e, en⟩ := slice_hd (m1.own an)
  exact ⟨f.a, f.c, by rw [e, ← en]; rfl⟩
 obtain ⟨a2, d2, e2⟩ : ∃ a c, hv0 (H2 an) = .slice a (F2 an).length c := by
  obtain ⟨f, e, en⟩ := slice_hd (m2.own an)
  exact ⟨f.a, f.c, by rw [e, ← en]; rfl⟩
 have o1 := h.m1.own an
 have o2 := h.m2.own an
 rw [e1] at lk1 o1
 rw [e2] at lk2 o2
 have HJ1 := hide (show J [] W ∧ Iw w0 Bs Ba (.cells #[.slice va ps.length vc, .map (some b1), .map (some b2)] 62 (0, 0)) (.cells #[.string an, .int .i64 op, .string bd] 48 (0, 0)) W from ⟨h0, iW⟩)
 have HJD := hide hJd
 have HY := hide (show ∀ (pre : List Nat) (x : Nat) (W1 : World), J pre W1 → (pre ++ [x]) <+: satL ps an op bd (F1 an) (F2 an) → Iw w0 Bs Ba (.cells #[.slice va ps.length vc, .map (some b1), .map (some b2)] 62 (0, 0)) (.cells #[.string an, .int .i64 op, .string bd] 48 (0, 0)) W1 → YieldAt Fence.wide (n - 1) Tryz.prog l #[.int .i64 (x : Int)] W1 fun e W3 => (e = .returned (.bool true) ∧ (J (pre ++ [x]) W3 ∧ Iw w0 Bs Ba (.cells #[.slice va ps.length vc, .map (some b1), .map (some b2)] 62 (0, 0)) (.cells #[.string an, .int .i64 op, .string bd] 48 (0, 0)) W3)) ∨ (e = .returned (.bool false) ∧ Jx (pre ++ [x]) W3) from fun pre x W1 hj hp hb => by
  have hle := hp.length_le
  rw [List.length_append, List.length_singleton] at hle
  refine (hY pre x W1 hj (by omega) hp).mono ?_
  rintro e W3 (⟨he, hj3, hk⟩ | ⟨he, hx⟩)
  ·exact .inl ⟨he, hj3, hb.kb hk⟩
  ·exact .inr ⟨he, hx⟩)
 clear e1 e2 m1 m2 pk hs ha h h0 hJd hY hW iW
 unfold satL at HY ⊢
 generalize F1 an = P1 at *
 generalize F2 an = P2 at *
 obtain ⟨n1, hn1⟩ : ∃ x, x = P1.length := ⟨_, rfl⟩
 obtain ⟨n2, hn2⟩ : ∃ x, x = P2.length := ⟨_, rfl⟩
 rw [← hn1] at lk1 o1 hl1
 rw [← hn2] at lk2 o2 hl2
 have HN1 := hide hn1
 have HN2 := hide hn2
 have HR1 := hide o1
 have HR2 := hide o2
 clear hn1 hn2 o1 o2
 obtain ⟨m, hm⟩ : ∃ m, m = mt ps an op bd := ⟨_, rfl⟩
 rw [← hm] at HY ⊢
 have HMT := hide hm
 clear hm
 refine callsIn_of_wp Tryz.func102 rfl trivial ?_ rfl
 simp only [Tryz.ntmps102, List.size_toArray, List.length_cons, List.length_nil, Nat.reduceAdd, Nat.reduceSub, Array.replicate_succ, Array.replicate_zero, List.push_toArray, List.append_toArray, List.nil_append, List.cons_append]
 gi_wp2
 have hx0 := fun X => ix0 X (.slice a1 n1 d1) (.slice a2 n2 d2)
 have hx1 := fun X => ix1 X (.slice a1 n1 d1) (.slice a2 n2 d2)
 refine wpIn_loop_rounds 3 ?_
 rw [roundsIn_succ]
 clear lk1 lk2 c0 c1 c2 ca
 gi_wp2
 gi_loopw [7, 24] (fun _ jv wr => ∃ j : Nat, jv = .int .i64 j ∧ j ≤ n1 ∧ Hid (J ((P1.take j).filter m) wr ∧ Iw w0 Bs Ba (.cells #[.slice va ps.length vc, .map (some b1), .map (some b2)] 62 (0, 0)) (.cells #[.string an, .int .i64 op, .string bd] 48 (0, 0)) wr)) (fun _ jv _ => n1 - (intOf jv).toNat)
 case atStart => exact ⟨0, rfl, Nat.zero_le _, HJ1⟩
 case round =>
  clear HJ1
  obtain ⟨j, rfl, hjle, HJ⟩ := hrel
  by_cases hlt : j < n1
  ·have hlt2 : (j : Int) < (n1 : Int) := by omega
   have hjp : j < P1.length := by have := unhide HN1; omega
   have iwr := (unhide HJ).2
   have bwr := iwr.bel
   obtain ⟨g, rfl, cg⟩ := row_at (unhide HR1) bwr hjp
   have hpm : P1[j]? = some P1[j] := List.getElem?_eq_getElem hjp
   generalize P1[j] = p at *
   obtain ⟨q, hq⟩ := unhide HPL p (by rw [List.mem_append]; exact .inl (List.mem_of_getElem? hpm))
   have bd2 : Iw w0 Bs Ba (.cells #[.slice va ps.length vc, .map (some b1), .map (some b2)] 62 (0, 0)) (.cells #[.string an, .int .i64 op, .string bd] 48 (0, 0)) wr.drew := iwr.later ((Below.refl _ wr).drew)
   obtain ⟨pb, po, ha0, ha1, ha2, hs0, hpn, hld, hM⟩ := unhide HAT wr.drew bd2 p q hq
   have HM := hide hM
   have hmt : m p = meetsA an op bd q.nm q.vr q.pl := by rw [unhide HMT]; unfold mt; rw [hq]
   rw [← hmt] at HM
   have HPM := hide hpm
   clear hM hmt
   cases hb : m p with
   | false =>
     rw [hb] at HM
     have HE := hide (take_no (unhide HPM) hb)
     clear hb
     gi_wp2
     refine wpIn_region_any (by kernel_rfl) ?_
     refine rg26f (fun c d v a w h => by cases d <;> exact h) ha0 ha1 ha2 hs0 hpn hld (unhide HM) ?_
     intro W3 hb3
     have HJ3 := hide (And.intro (unhide HJD _ _ _ (unhide HJ).1 (bl_t (Below.refl _ wr).drew hb3)) (bd2.later hb3))
     clear ha0 ha1 ha2 hs0 hpn hld HM hb3 cg
     gi_wp2
     go_roundw
     case rel => exact ⟨j + 1, by go_num, by omega, by rw [unhide HE]; exact HJ3⟩
     case measure => simp [intOf]; omega
   | true =>
     rw [hb] at HM
     have HE := hide (take_yes (unhide HPM) hb)
     have HP := hide (show ((P1.take j).filter m) ++ [p] <+: (P1 ++ P2).filter m from by have := pre_one P1 P2 (j + 1) m; rw [unhide HE] at this; exact this)
     clear hb
     gi_wp2
     refine wpIn_region_any (by kernel_rfl) ?_
     refine rg26y (fun c d v a w h => by cases d <;> exact h) ha0 ha1 ha2 hs0 hpn hld (unhide HM) (R := fun W3 => J (((P1.take j).filter m) ++ [p]) W3 ∧ Iw w0 Bs Ba (.cells #[.slice va ps.length vc, .map (some b1), .map (some b2)] 62 (0, 0)) (.cells #[.string an, .int .i64 op, .string bd] 48 (0, 0)) W3) (Rx := Jx (((P1.take j).filter m) ++ [p])) (fun W2 hb2 => unhide HY _ p W2 (unhide HJD _ _ _ (unhide HJ).1 (bl_t (Below.refl _ wr).drew hb2)) (unhide HP) (bd2.later hb2)) ?_ ?_
     ·intro W3 hx3
      have HJ3 := hide hx3
      clear ha0 ha1 ha2 hs0 hpn hld HM hx3 cg
      gi_wp2
      go_roundw
      case rel => exact ⟨j + 1, by go_num, by omega, by rw [unhide HE]; exact HJ3⟩
      case measure => simp [intOf]; omega
     ·intro W3 hx3
      have HX := hide hx3
      clear ha0 ha1 ha2 hs0 hpn hld HM hx3 cg
      gi_wp2
      refine bodyPost_ret (results_none rfl _ _ _) rfl ?_
      exact ⟨⟨_, rfl⟩, .inr ⟨_, unhide HP, unhide HX⟩⟩
  ·obtain rfl : j = n1 := by omega
   have HJ2 := hide (show J (P1.filter m) wr ∧ Iw w0 Bs Ba (.cells #[.slice va ps.length vc, .map (some b1), .map (some b2)] 62 (0, 0)) (.cells #[.string an, .int .i64 op, .string bd] 48 (0, 0)) wr from by have := unhide HJ; rw [unhide HN1, List.take_length] at this; exact this)
   clear HJ
   gi_wp2
   rw [roundsIn_succ]
   gi_wp2
   gi_loopw [7, 24] (fun _ jv wr => ∃ j : Nat, jv = .int .i64 j ∧ j ≤ n2 ∧ Hid (J (P1.filter m ++ (P2.take j).filter m) wr ∧ Iw w0 Bs Ba (.cells #[.slice va ps.length vc, .map (some b1), .map (some b2)] 62 (0, 0)) (.cells #[.string an, .int .i64 op, .string bd] 48 (0, 0)) wr)) (fun _ jv _ => n2 - (intOf jv).toNat)
   case atStart => exact ⟨0, rfl, Nat.zero_le _, hide (by rw [List.take_zero, List.filter_nil, List.append_nil]; exact unhide HJ2)⟩
   case round =>
    clear HJ2
    obtain ⟨j, rfl, hjle, HJ⟩ := hrel
    by_cases hlt : j < n2
    ·have hlt2 : (j : Int) < (n2 : Int) := by omega
     have hjp : j < P2.length := by have := unhide HN2; omega
     have iwr := (unhide HJ).2
     have bwr := iwr.bel
     obtain ⟨g, rfl, cg⟩ := row_at (unhide HR2) bwr hjp
     have hpm : P2[j]? = some P2[j] := List.getElem?_eq_getElem hjp
     generalize P2[j] = p at *
     obtain ⟨q, hq⟩ := unhide HPL p (by rw [List.mem_append]; exact .inr (List.mem_of_getElem? hpm))
     have bd2 : Iw w0 Bs Ba (.cells #[.slice va ps.length vc, .map (some b1), .map (some b2)] 62 (0, 0)) (.cells #[.string an, .int .i64 op, .string bd] 48 (0, 0)) wr.drew := iwr.later ((Below.refl _ wr).drew)
     obtain ⟨pb, po, ha0, ha1, ha2, hs0, hpn, hld, hM⟩ := unhide HAT wr.drew bd2 p q hq
     have HM := hide hM
     have hmt : m p = meetsA an op bd q.nm q.vr q.pl := by rw [unhide HMT]; unfold mt; rw [hq]
     rw [← hmt] at HM
     have HPM := hide hpm
     clear hM hmt
     cases hb : m p with
     | false =>
       rw [hb] at HM
       have HE := hide (take_no (unhide HPM) hb)
       clear hb
       gi_wp2
       refine wpIn_region_any (by kernel_rfl) ?_
       refine rg26f (fun c d v a w h => by cases d <;> exact h) ha0 ha1 ha2 hs0 hpn hld (unhide HM) ?_
       intro W3 hb3
       have HJ3 := hide (And.intro (unhide HJD _ _ _ (unhide HJ).1 (bl_t (Below.refl _ wr).drew hb3)) (bd2.later hb3))
       clear ha0 ha1 ha2 hs0 hpn hld HM hb3 cg
       gi_wp2
       go_roundw
       case rel => exact ⟨j + 1, by go_num, by omega, by rw [unhide HE]; exact HJ3⟩
       case measure => simp [intOf]; omega
     | true =>
       rw [hb] at HM
       have HE := hide (take_yes (unhide HPM) hb)
       have HP := hide (show (P1.filter m ++ (P2.take j).filter m) ++ [p] <+: (P1 ++ P2).filter m from by have := pre_two P1 P2 (j + 1) m; rw [unhide HE] at this; rw [List.append_assoc]; exact this)
       clear hb
       gi_wp2
       refine wpIn_region_any (by kernel_rfl) ?_
       refine rg26y (fun c d v a w h => by cases d <;> exact h) ha0 ha1 ha2 hs0 hpn hld (unhide HM) (R := fun W3 => J ((P1.filter m ++ (P2.take j).filter m) ++ [p]) W3 ∧ Iw w0 Bs Ba (.cells #[.slice va ps.length vc, .map (some b1), .map (some b2)] 62 (0, 0)) (.cells #[.string an, .int .i64 op, .string bd] 48 (0, 0)) W3) (Rx := Jx ((P1.filter m ++ (P2.take j).filter m) ++ [p])) (fun W2 hb2 => unhide HY _ p W2 (unhide HJD _ _ _ (unhide HJ).1 (bl_t (Below.refl _ wr).drew hb2)) (unhide HP) (bd2.later hb2)) ?_ ?_
       ·intro W3 hx3
        have HJ3 := hide hx3
        clear ha0 ha1 ha2 hs0 hpn hld HM hx3 cg
        gi_wp2
        go_roundw
        case rel => exact ⟨j + 1, by go_num, by omega, by rw [unhide HE]; rw [← List.append_assoc]; exact HJ3⟩
        case measure => simp [intOf]; omega
       ·intro W3 hx3
        have HX := hide hx3
        clear ha0 ha1 ha2 hs0 hpn hld HM hx3 cg
        gi_wp2
        refine bodyPost_ret (results_none rfl _ _ _) rfl ?_
        exact ⟨⟨_, rfl⟩, .inr ⟨_, unhide HP, unhide HX⟩⟩
    ·obtain rfl : j = n2 := by omega
     have HJ3 := hide (show J ((P1 ++ P2).filter m) wr ∧ Iw w0 Bs Ba (.cells #[.slice va ps.length vc, .map (some b1), .map (some b2)] 62 (0, 0)) (.cells #[.string an, .int .i64 op, .string bd] 48 (0, 0)) wr from by have := unhide HJ; rw [unhide HN2, List.take_length] at this; rw [List.filter_append]; exact this)
     clear HJ
     gi_wp2
     rw [roundsIn_succ]
     gi_wp2
     go_end0
     exact ⟨⟨_, rfl⟩, .inl ⟨_, rfl, (unhide HJ3).1⟩⟩
end
section
open Go.RowKit Go.Maps Go.Shelf
attribute [local go_sem] Oper.semAt_some
attribute [local simp] wide_fn
attribute [local go_sem] wide_fn
set_option maxHeartbeats 1000000 in
theorem rangeFunc_2h {α : Type} {F : Fence} {n : Nat} {P : Program} {g : Operand} {ps : Array Tmp} {assign body : Code} {Q : Exit → Act → World → Prop} {a : Act} {w : World}
 (hro : F.round = none) (h1 : 1 ≤ n) {gf : Nat} {lb : Array Value} (hg : a.eval g = .func (.func gf) #[] lb) (hFg : F.fn gf) (eg : ∀ args w, (callFunc gf args).run P w = .ok (.enter gf args) w)
 {encs : α → Array Value} {Kp : World → World → Prop} {S Sp : List α → Prop} {N : Nat} {w0 : World} (hseq : SeqB F (n - 1) P gf lb encs Kp S Sp N w0)
 (hKt : ∀ {A B C : World}, Kp A B → Kp B C → Kp A C) (hKb : ∀ (W : World) (l : Nat) (o o2 : Obj), w.heap.size ≤ l → W.heap[l]? = some o → o.isCells = false → o.isWalk = false → Kp W (W.putObj l o2)) (hKa : ∀ (W : World) (o : Obj), w.heap.size ≤ W.heap.size → Kp W (W.alloc o)) (hb0 : RowKit.Below w0.heap.size w0 w) (hps : ∀ x, (encs x).size = ps.size)
 (I : List α → World → Prop) (Ix : Code → List α → World → Prop) (hI : Abide w.heap.size I) (hIx : ∀ c, Abide w.heap.size (Ix c)) (h0 : I [] w) (ob : α → Obj) (a1 : α → Nat → Act)
 (hassign : ∀ (l : Nat) (x : α) (W : World) (K : Act → World → Prop), K (a1 x W.heap.size) (W.alloc (ob x)) →
  assign.wpIn (F.inRound l) (n - 1 - 1) P (Exit.then K (fun _ _ _ => False)) { tmps := (ps.zip (encs x)).foldl (fun t (p, v) => t.setIfInBounds p v) a.tmps, defers := [] } W)
 (hbody : ∀ (l : Nat) (pre : List α) (x : α) (g : Nat) (W : World), w.heap.size + 1 < g → W.heap[g]? = some (ob x) → W.heap[w.heap.size]? = some (.deferred (some [])) → (∃ r, W.heap[w.heap.size + 1]? = some (.loop r)) → I pre W → pre.length < N → Sp (pre ++ [x]) → body.wpIn (F.inRound l) (n - 1 - 1) P (post2 w.heap.size Kp I Ix (pre ++ [x]) W) (a1 x g) W)
 (hdone : ∀ (D : Nat) (xs : List α) (W : World), D = w.heap.size → S xs → I xs W → W.heap[D]? = some (.deferred (some [])) → Q .normal { a with defers := { target := .collected D, args := #[] } :: a.defers } W)
 (hstop : ∀ (D : Nat) (c : Code) (pre : List α) (W : World), D = w.heap.size → Sp pre → Ix c pre W → W.heap[D]? = some (.deferred (some [])) → c.wpIn F n P Q { a with defers := { target := .collected D, args := #[] } :: a.defers } W) :
 (Code.rangeFunc g ps assign body).wpIn F n P Q a w := by
 refine wpIn_rangeFunc ?_
 intro fn hfn
 rw [hro]
 obtain ⟨rc, hrc⟩ : ∃ rc : LoopState → Option Code → Loop, rc = fun st pe => { state := st, pending := pe, fn, tmps := a.tmps, params := ps, assign, body, defers := w.heap.size } := ⟨_, rfl⟩
 obtain ⟨W1, hW1, hL1, hK1, hI1, hb1⟩ : ∃ W1, (w.alloc (.deferred (some []))).alloc (.loop (rc .ready none)) = W1 ∧ W1.heap[w.heap.size + 1]? = some (.loop (rc .ready none)) ∧ W1.heap[w.heap.size]? = some (.deferred (some [])) ∧ I [] W1 ∧ RowKit.Below w0.heap.size w0 W1 := by
  refine ⟨_, rfl, ?_, ?_, hI.alloc _ (hI.alloc _ h0), ?_⟩
  ·have := World.alloc_heap_new (w.alloc (.deferred (some []))) (.loop (rc .ready none))
   rwa [World.size_alloc] at this
  ·exact (Below.heap_alloc _ _ _ (by simp)).trans (World.alloc_heap_new w _)
  ·exact hb0.trans ((((Below.refl _ w).alloc (Nat.le_refl _) _).alloc (by simp) _).mono hb0.size)
 have hz1 : W1.heap.size = w.heap.size + 1 + 1 := by rw [← hW1]; simp
 refine ⟨w.heap.size + 1, [{ target := .collected w.heap.size, args := #[] }], W1, { target := .fn (.func gf) lb, args := #[.func (.yield (w.heap.size + 1)) #[] #[]] }, W1, gf,
  #[.func (.yield (w.heap.size + 1)) #[] #[]] ++ lb, W1, ?_, ?_, ?_, ?_, fun _ => h1, ?_⟩
 ·rw [← hW1, hrc]; exact run_enterLoop_outer _ _ _ _ _
 ·simp only [resolve, hg]
  simp [go_sem]
 ·intro f2 hf2; simp [Target.leads] at hf2; subst hf2; exact hFg
 ·simp [invoke, go_sem, eg]
 ·refine (hseq (w.heap.size + 1)
   (fun pre W => I pre W ∧ W.heap[w.heap.size + 1]? = some (.loop (rc .ready none)) ∧ W.heap[w.heap.size]? = some (.deferred (some [])))
   (fun pre W => ∃ c, Ix c pre W ∧ W.heap[w.heap.size + 1]? = some (.loop (rc .done (some c))) ∧ W.heap[w.heap.size]? = some (.deferred (some [])))
   W1 hb1 ?_ ?_ ⟨hI1, hL1, hK1⟩).mono ?_
  ·rintro s X Y ⟨i1, i2, i3⟩ hb
   exact ⟨hI s X Y none i1 (grown_below hb) (fun r e => by cases e), (hb.block _ (blk_lt i2)).trans i2, (hb.block _ (blk_lt i3)).trans i3⟩
  ·-- A ROUND
   rintro pre x W ⟨hi, hl, hk⟩ hlen hpre
   have hlt : w.heap.size + 1 < W.heap.size := (Array.getElem?_eq_some_iff.1 hl).1
   have hy := run_yield (P := P) (args := encs x) hl (by rw [hrc]; exact hps x)
   rw [hrc] at hy
   obtain ⟨Wa, hWa⟩ : ∃ Wa, W.alloc (ob x) = Wa := ⟨_, rfl⟩
   have hla : Wa.heap[w.heap.size + 1]? = some (.loop (rc .ready none)) := by rw [← hWa]; exact (Below.heap_alloc _ _ _ hlt).trans hl
   have hka : Wa.heap[w.heap.size]? = some (.deferred (some [])) := by rw [← hWa]; exact (Below.heap_alloc _ _ _ (by omega)).trans hk
   have hga : Wa.heap[W.heap.size]? = some (ob x) := by rw [← hWa]; exact World.alloc_heap_new W _
   have hia : I pre Wa := by rw [← hWa]; exact hI.alloc _ hi
   have hwa : Kp W Wa := by rw [← hWa]; exact hKa W _ (by omega)
   have hlta : w.heap.size + 1 < Wa.heap.size := (Array.getElem?_eq_some_iff.1 hla).1
   refine ⟨fn, _, assign, body, hy, roundIn_of_wpIn hfn (hassign _ x W _ ?_)⟩
   rw [hWa]
   refine ⟨_, run_beginRound hla (by rw [hrc]), ?_⟩
   obtain ⟨Wb, hWb⟩ : ∃ Wb, Wa.putObj (w.heap.size + 1) (.loop { rc .ready none with state := .busy }) = Wb := ⟨_, rfl⟩
   have hl2 : Wb.heap[w.heap.size + 1]? = some (.loop { rc .ready none with state := .busy }) := by rw [← hWb]; exact World.putObj_heap_same hlta
   have hk2 : Wb.heap[w.heap.size]? = some (.deferred (some [])) := by rw [← hWb]; exact (World.putObj_heap_other (by omega)).trans hka
   have hg2 : Wb.heap[W.heap.size]? = some (ob x) := by rw [← hWb]; exact (World.putObj_heap_other (by omega)).trans hga
   have hw2 : Kp W Wb := by rw [← hWb]; exact hKt hwa (hKb _ _ _ _ (by omega) hla rfl rfl)
   have hi2 : I pre Wb := by rw [← hWb]; exact hI.put _ hia (by omega) hla rfl (fun _ _ e => by cases e)
   rw [hWb]
   refine wpIn_mono (hbody _ pre x W.heap.size Wb hlt hg2 hk2 ⟨_, hl2⟩ hi2 hlen hpre) ?_
   have fin : ∀ (jump : Option Code) (W3 : World), (W3.heap[w.heap.size]? = Wb.heap[w.heap.size]? ∧ W3.heap[w.heap.size + 1]? = Wb.heap[w.heap.size + 1]?) →
    (Instr.endRound (w.heap.size + 1) jump).run P W3 = .ok (.bool jump.isNone) (W3.putObj (w.heap.size + 1) (.loop (rc (if jump.isNone then .ready else .done) jump))) ∧
    W3.heap[w.heap.size + 1]? = some (.loop { rc .ready none with state := .busy }) ∧
    (W3.putObj (w.heap.size + 1) (.loop (rc (if jump.isNone then .ready else .done) jump))).heap[w.heap.size + 1]? = some (.loop (rc (if jump.isNone then .ready else .done) jump)) ∧
    (W3.putObj (w.heap.size + 1) (.loop (rc (if jump.isNone then .ready else .done) jump))).heap[w.heap.size]? = some (.deferred (some [])) := fun jump W3 hs => by
    have hl3 := hs.2.trans hl2
    have hr := run_endRound (P := P) jump hl3
    refine ⟨?_, hl3, World.putObj_heap_same (Array.getElem?_eq_some_iff.1 hl3).1, (World.putObj_heap_other (by omega)).trans (hs.1.trans hk2)⟩
    rw [hrc] at hr ⊢
    exact hr
   rintro e a3 W3 hp
   cases e with
   | normal =>
     obtain ⟨hs, hkp, hi3⟩ := hp
     obtain ⟨hr, hl3, hl4, hk4⟩ := fin none W3 hs
     exact ⟨_, _, hr, .inl ⟨rfl, ⟨hI.put _ hi3 (by omega) hl3 rfl (fun _ _ e => by cases e), hl4, hk4⟩, hKt (hKt hw2 hkp) (hKb _ _ _ _ (by omega) hl3 rfl rfl)⟩⟩
   | ret =>
     obtain ⟨hs, hi3⟩ := hp
     obtain ⟨hr, hl3, hl4, hk4⟩ := fin (some .ret) W3 hs
     exact ⟨_, _, hr, .inr ⟨rfl, .ret, (hIx _).put _ hi3 (by omega) hl3 rfl (fun _ _ e => by cases e), hl4, hk4⟩⟩
   | exit id =>
     obtain ⟨hs, hi3⟩ := hp
     obtain ⟨hr, hl3, hl4, hk4⟩ := fin (some (.exit id)) W3 hs
     exact ⟨_, _, hr, .inr ⟨rfl, .exit id, (hIx _).put _ hi3 (by omega) hl3 rfl (fun _ _ e => by cases e), hl4, hk4⟩⟩
   | goto t =>
     obtain ⟨hs, hi3⟩ := hp
     obtain ⟨hr, hl3, hl4, hk4⟩ := fin (some (.goto t)) W3 hs
     exact ⟨_, _, hr, .inr ⟨rfl, .goto t, (hIx _).put _ hi3 (by omega) hl3 rfl (fun _ _ e => by cases e), hl4, hk4⟩⟩
   | panic ch => exact hp.elim
   | outgrown => exact hp.elim
  ·-- BEHIND THE ITERATOR
   rintro e W2 ⟨⟨v, rfl⟩, (⟨xs, hS, hi, hl, hk⟩ | ⟨pre, hSp, c, hi, hl, hk⟩)⟩
   ·exact ⟨none, _, by have := run_endLoop (P := P) hl (by rw [hrc]; simp); rw [hrc] at this; exact this, hdone _ xs _ rfl hS (hI.put _ hi (by omega) hl rfl (fun _ _ e => by cases e)) ((World.putObj_heap_other (by omega)).trans hk)⟩
   ·exact ⟨some c, _, by have := run_endLoop (P := P) hl (by rw [hrc]; simp); rw [hrc] at this; exact this, hstop _ c pre _ rfl hSp ((hIx c).put _ hi (by omega) hl rfl (fun _ _ e => by cases e)) ((World.putObj_heap_other (by omega)).trans hk)⟩
theorem Iw.turn {w0 : World} {Bs Ba : Nat} {S A : Obj} {X Y : World} {C : Nat} {row : Option Nat} (h : Iw w0 Bs Ba S A X) (hg : X.grownBy Y row) (hr : ∀ k, row = some k → C ≤ k) (h0 : w0.heap.size ≤ C) (hs : Bs < C) (ha : Ba < C) : Iw w0 Bs Ba S A Y := by
 have ne : ∀ j, j < C → some j ≠ row := fun j hj e => by have := hr j e.symm; omega
 refine ⟨⟨hg.os.trans h.bel.os, hg.tape.trans h.bel.tape, hg.output.trans h.bel.output, Nat.le_trans h.bel.size hg.size, fun j hj => ?_⟩, (hg.block _ (blk_lt h.s) (ne _ hs)).trans h.s, (hg.block _ (blk_lt h.a) (ne _ ha)).trans h.a⟩
 have := h.bel.size
 exact (hg.block j (by omega) (ne j (by omega))).trans (h.bel.block j hj)
end
section
open Go.RowKit Go.Maps Go.Shelf
attribute [local go_sem] Oper.semAt_some
attribute [local simp] wide_fn
attribute [local go_sem] wide_fn
structure Cs (w Z : World) (s : Value) (l : List Nat) : Prop where
 b0 : Z.heap[w.heap.size]? = some (.cells #[s] 34 (0, 0))
 row : Z.ownsRow (w.heap.size + 1) 3 1 s l.length (ints l)
 bw : RowKit.Below w.heap.size w Z
theorem Cs.lt {w Z : World} {s : Value} {l : List Nat} (h : Cs w Z s l) : w.heap.size + 1 ≤ Z.heap.size := blk_lt h.b0
theorem Cs.turn {w X Y : World} {s : Value} {l : List Nat} {B : Nat} {row : Option Nat} (h : Cs w X s l) (hg : X.grownBy Y row) (hr : ∀ r, row = some r → B ≤ r ∧ ∃ o : Obj, X.heap[r]? = some o ∧ o.isCells = false) (hB : w.heap.size + 1 ≤ B) : Cs w Y s l := by
 have ne : ∀ j, j < B → some j ≠ row := fun j hj e => by have := (hr j e.symm).1; omega
 refine ⟨(hg.block _ (blk_lt h.b0) (ne _ (by omega))).trans h.b0, ⟨h.row.1, ?_⟩, hg.os.trans h.bw.os, hg.tape.trans h.bw.tape, hg.output.trans h.bw.output, Nat.le_trans h.bw.size hg.size, fun j hj => ?_⟩
 ·rcases h.row.2 with z | ⟨g, cap, cur, h1, h2, h3, h4⟩
  ·exact .inl z
  ·refine .inr ⟨g, cap, cur, h1, h2, (hg.block g (blk_lt h3) fun e => ?_).trans h3, h4⟩
   obtain ⟨_, o, ho, hc⟩ := hr g e.symm
   rw [h3] at ho
   cases ho
   cases hc
 ·have := h.bw.size
  exact (hg.block j (by omega) (ne j (by omega))).trans (h.bw.block j hj)
theorem Cs.grow {w X w9 : World} {s v' : Value} {l : List Nat} {x : Nat} {o : Obj} (h : Cs w X s l) (hown : w9.ownsRow (w.heap.size + 1) 3 1 v' (l.length + 1) (ints l ++ [.int .i64 (x : Int)])) (hg : (X.alloc o).grownBy w9 s.ownBlock) :
 w9.heap[w.heap.size]? = some (.cells #[s] 34 (0, 0)) ∧ Cs w (w9.setCell ⟨w.heap.size, 0, none⟩ v') v' (l ++ [x]) ∧ RowKit.Below w.heap.size X (w9.setCell ⟨w.heap.size, 0, none⟩ v') ∧ ∀ c, c < X.heap.size → c ≠ w.heap.size → s.ownBlock ≠ some c → (w9.setCell ⟨w.heap.size, 0, none⟩ v').heap[c]? = X.heap[c]? := by
 have hz := h.lt
 have ne : ∀ j, j < w.heap.size + 1 → some j ≠ s.ownBlock := fun j hj e => by have := (World.ownsRow.lt h.row j e.symm).1; omega
 have k9 : ∀ j, j < X.heap.size → some j ≠ s.ownBlock → w9.heap[j]? = X.heap[j]? := fun j hj e => (hg.block j (by rw [World.size_alloc]; omega) e).trans (Below.heap_alloc _ _ _ hj)
 have hb9 : RowKit.Below w.heap.size w w9 := (h.bw.alloc h.bw.size o).grown hg (by have := h.bw.size; rw [World.size_alloc]; omega) fun j e => by have := (World.ownsRow.lt h.row j e).1; omega
 have hX9 : RowKit.Below w.heap.size X w9 := ((Below.refl _ X).alloc h.bw.size o).grown hg (by rw [World.size_alloc]; have := h.bw.size; omega) fun j e => by have := (World.ownsRow.lt h.row j e).1; omega
 have hbx := (k9 w.heap.size (by omega) (ne _ (by omega))).trans h.b0
 have hob : ∀ b, v'.ownBlock = some b → b ≠ w.heap.size := fun b e => by have := (World.ownsRow.lt hown b e).1; omega
 refine ⟨hbx, ⟨set_blk hbx 0 v', ?_, hb9.setCell (p := ⟨w.heap.size, 0, none⟩) (Nat.le_refl _) _⟩, hX9.setCell (p := ⟨w.heap.size, 0, none⟩) (Nat.le_refl _) _, fun c hc hn hs => ?_⟩
 ·rw [List.length_append, show ints (l ++ [x]) = ints l ++ [.int .i64 (x : Int)] from by simp [ints]]
  exact own_same hown fun b e => set_other w9 _ 0 v' b (hob b e)
 ·exact (set_other w9 _ 0 v' c hn).trans (k9 c hc (fun e => hs e.symm))
theorem row_lo9 {w : World} {lo lo2 e size n : Nat} {v : Value} {xs : List Value} (h : w.ownsRow lo e size v n xs) (hl : lo2 ≤ lo) : w.ownsRow lo2 e size v n xs := by
 refine ⟨h.1, ?_⟩
 rcases h.2 with h | ⟨g, cap, cur, e, h1, h2, h3⟩
 ·exact .inl h
 ·exact .inr ⟨g, cap, cur, e, Nat.le_trans hl h1, h2, h3⟩
theorem row_not2 {w : World} {base e size n : Nat} {v : Value} {xs : List Value} (h : w.ownsRow base e size v n xs) {c : Nat} (hc : c < base) : v.ownBlock ≠ some c := fun q => by have := (World.ownsRow.lt h c q).1; omega
theorem row_not3 {w : World} {base e size n : Nat} {v : Value} {xs : List Value} (h : w.ownsRow base e size v n xs) {c : Nat} {o : Obj} (ho : w.heap[c]? = some o) (hn : ∀ cs, o ≠ .cells cs e (0, 0)) : v.ownBlock ≠ some c := fun q => by
 rcases h.2 with ⟨h1, _⟩ | ⟨g, cap, cur, h1, _, h3, _⟩
 ·rw [h1] at q; cases q
 ·rw [h1] at q
  cases q
  rw [ho] at h3
  cases h3
  exact hn _ rfl
set_option maxRecDepth 100000 in
set_option maxHeartbeats 8000000 in
theorem appendSeq_any {w0 w : World} {Bs Ba : Nat} {v : Value} {b1 b2 : Nat} {an : Nm} {op : Int} {bd : ByteArray} {ps : List Pd} {base : Nat} {H1 H2 : Nm → Option Hd} {F1 F2 : Nm → List Nat} {k1 k2 : Nat} (h : Sb w0 w Bs Ba v b1 b2 an op bd ps base H1 H2 F1 F2 k1 k2) (hl1 : (F1 an).length ≤ 1048576) (hl2 : (F2 an).length ≤ 1048576) :
 Calls Tryz.prog 121 #[.slice none 0 0, .func (.func 102) #[] #[.pointer (some ⟨Bs, 0, none⟩), .pointer (some ⟨Ba, 0, none⟩)]] w fun e w' => ∃ r, e = .returned r ∧ w'.ownsRow w.heap.size 3 1 r (satL ps an op bd (F1 an) (F2 an)).length (ints (satL ps an op bd (F1 an) (F2 an))) ∧ RowKit.Below w.heap.size w w' := by
 obtain ⟨i0, hi, hz0, hz1, hz2⟩ := info_parts2 infoI
 have hll : (satL ps an op bd (F1 an) (F2 an)).length ≤ 2097152 := by
  unfold satL
  refine Nat.le_trans (List.length_filter_le _ _) ?_
  rw [List.length_append]
  omega
 obtain ⟨W1, hW1⟩ : ∃ W, W = w.alloc (.cells #[.slice none 0 0] 34) := ⟨_, rfl⟩
 have hb1 : RowKit.Below w.heap.size w W1 := by rw [hW1]; exact (Below.refl _ w).alloc (Nat.le_refl _) _
 have cs1 : Cs w W1 (.slice none 0 0) [] := ⟨by rw [hW1]; exact World.alloc_heap_new w _, ⟨rfl, .inl ⟨rfl, rfl⟩⟩, hb1⟩
 have iw1 := h.iw.later hb1
 have hsq := sat_b 8 (w := W1) ⟨iw1, h.m1, h.m2, h.pk, h.pl, h.an, h.bd⟩ (by omega) (by omega)
 have hw0 := h.iw.bel.size
 have hBs := blk_lt h.iw.s
 have hBa := blk_lt h.iw.a
 generalize satL ps an op bd (F1 an) (F2 an) = L at *
 have HLL := hide hll
 have hlt1 := cs1.lt
 clear h hl1 hl2 hll hb1
 refine (callsIn_wide (n := 9)).1 ?_
 refine callsIn_of_wp_marks Tryz.func121 rfl trivial ?_ rfl
 simp only [Tryz.ntmps121, List.size_toArray, List.length_cons, List.length_nil, Nat.reduceAdd, Nat.reduceSub, Array.replicate_succ, Array.replicate_zero, List.push_toArray, List.append_toArray, List.nil_append, List.cons_append]
 gi_wp2_with fail
 rw [← hW1]
 clear hW1
 refine rangeFunc_2b rfl (by decide) (gf := 102) (lb := #[.pointer (some ⟨Bs, 0, none⟩), .pointer (some ⟨Ba, 0, none⟩)]) rfl trivial (enters_of Tryz.func102 (by kernel_rfl) rfl)
  hsq Kb.trans (Kb.put (by omega) (by omega) (by omega)) (Below.refl _ _) (fun _ => rfl) (fun pre Z => (∃ sa sc, Cs w Z (.slice sa pre.length sc) pre) ∧ Iw w0 Bs Ba (.cells #[v, .map (some b1), .map (some b2)] 62 (0, 0)) (.cells #[.string an, .int .i64 op, .string bd] 48 (0, 0)) Z) (fun _ _ _ => False) (fun s X Y row ⟨⟨sa, sc, h⟩, hi⟩ hg hr => ⟨⟨sa, sc, h.turn hg (fun r e => ⟨(hr r e).1, let ⟨o, h1, h2, _⟩ := (hr r e).2; ⟨o, h1, h2⟩⟩) hlt1⟩, hi.turn hg (fun r e => (hr r e).1) (by omega) (by omega) (by omega)⟩) (fun c s X Y row h hg hr => h) ⟨⟨none, 0, cs1⟩, iw1⟩ ?a10 ?as0 ?bo0 ?do0 ?st0
 case as0 =>
  intro l x W K hK
  gi_wp2
  exact hK
 case st0 =>
  intro D c pre Z hD hS hI hK
  exact hI.elim
 case do0 =>
  intro D L2 Z hD hS hI hK
  obtain ⟨⟨sa, sc, cz⟩, _⟩ := hI
  rw [hS] at cz
  have c0 : Z.cell? ⟨w.heap.size, 0, none⟩ = some (.slice sa L.length sc) := (cell_blk cz.b0 0).1
  have HU := hide cz
  have HK := hide (And.intro hD hK)
  clear hS hK hD cz hsq cs1 iw1
  gi_wp2
  obtain ⟨hD, hK⟩ := unhide HK
  have cz := unhide HU
  have hsh := sh_put (W := Z) (lo := w.heap.size + 1) (D := D) (.deferred none) (by omega) hK rfl rfl
  refine ⟨by simp, .inl ⟨_, _, rfl, run_takeDeferred hK, ?_⟩⟩
  exact ⟨_, results_tmp (show Tryz.f121.results = #[.tmp 4] from Tryz.results121) _ _ _, _, rfl, row_lo9 (lo := w.heap.size + 1) (lo2 := w.heap.size) (hsh.row cz.row) (by omega), cz.bw.trans (hsh.bel.mono (show w.heap.size ≤ w.heap.size + 1 by omega))⟩
 case bo0 =>
  intro l pre x W hD hLp hI hlen hpre
  obtain ⟨⟨sa, sc, cz⟩, iw⟩ := hI
  obtain ⟨lr, hLr⟩ := hLp
  have hpl : pre.length ≤ 2097152 := by
   have h2 := hpre.length_le
   rw [List.length_append] at h2
   have := unhide HLL
   omega
  have c0 : W.cell? ⟨w.heap.size, 0, none⟩ = some (.slice sa pre.length sc) := (cell_blk cz.b0 0).1
  have hzc := cz.lt
  have hzw : w.heap.size < W.heap.size := by omega
  have HC := hide cz
  have HR := hide (And.intro iw (And.intro hD hLr))
  clear hD hLr hlen hpre cz iw hsq cs1 iw1
  gi_wp2_with (gi_at_builtin; refine wpListIn_append_own _ rfl _ _ 34 rfl (w.heap.size + 1) 3 i0 (.int .i64 0) 1 8 Tryz.underlying34 hi hz0 hz1 hz2 rfl (by decide) _ _ _ rfl ((unhide HC).row.alloc _) ⟨W.heap.size, 0, none⟩ 1 1 [.int .i64 (x : Int)] rfl rfl (cell_one_new _ _ _) (by simp [Value.oneCell']) (by unfold maxLen; omega) (by omega) (by simp; omega) ?_; intro v' w9 hown hgrow _; obtain ⟨g9, c9, rfl⟩ := ownsRow_succ hown; obtain ⟨hbx, hc9, hB9, hk9⟩ := (unhide HC).grow hown hgrow; have e0 : w9.cell? ⟨w.heap.size, 0, none⟩ = some (.slice sa pre.length sc) := (cell_blk hbx 0).1; have f0 := (cell_blk hbx 0).2; have H9 := hide (And.intro hc9 (And.intro hB9 hk9)); clear hbx hc9 hB9 hk9 hown hgrow)
  obtain ⟨hc9, hB9, hk9⟩ := unhide H9
  obtain ⟨iw, hD, hLr⟩ := unhide HR
  have cz := unhide HC
  have hw9 : ∀ c, c < w.heap.size → (w9.setCell ⟨w.heap.size, 0, none⟩ (.slice (some ⟨g9, 0, none⟩) (pre.length + 1) c9)).heap[c]? = W.heap[c]? := fun c hc => hk9 c (by omega) (by omega) (row_not2 cz.row (by omega))
  refine ⟨⟨hk9 _ (blk_lt hD) (by omega) (row_not3 cz.row hD (fun cs e => by cases e)), hk9 _ (blk_lt hLr) (by omega) (row_not3 cz.row hLr (fun cs e => by cases e))⟩, ⟨hB9.mono hw0, hw9 _ hBs, hw9 _ hBa⟩, ⟨some ⟨g9, 0, none⟩, c9, ?_⟩, iw.kb ⟨hB9.mono hw0, hw9 _ hBs, hw9 _ hBa⟩⟩
  rw [List.length_append, List.length_singleton]
  exact hc9
theorem collect_any {w : World} {f : Value} {R : Ending → World → Prop} (h : Calls Tryz.prog 121 #[.slice none 0 0, f] w R) (hR : ∀ e w2, R e w2 → ∃ r, e = .returned r) : Calls Tryz.prog 101 #[f] w R := by
 have C := hide h
 have HR := hide hR
 clear h hR
 go_enter Tryz.func101, Tryz.ntmps101
 go_wp2_with (go_at_call 121; refine (unhide C).mono ?_; intro e w2 hr; obtain ⟨r, rfl⟩ := unhide HR e w2 hr; have H2 := hide hr; clear hr)
 exact unhide H2
end
end Go.Proofs.YtdkpglmdncjnbaaGreatDoor
