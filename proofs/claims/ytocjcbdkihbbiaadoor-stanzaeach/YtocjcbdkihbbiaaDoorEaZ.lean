import Derived.Test.YtocjcbdkihbbiaaDoorEaN
namespace Go.Proofs.YtocjcbdkihbbiaaDoor
open Go.RowKit Go.Shelf
attribute [local go_sem] Oper.semAt_some
attribute [local simp] wide_fn
attribute [local go_sem] wide_fn

set_option maxRecDepth 100000 in
set_option maxHeartbeats 8000000 in
theorem each_walk (t : Bs) (pa : Option Addr) (c : Nat) (sp : Int) (w : World) (ht : t.length ≤ 16777216) (hc : t.length ≤ c) (hG : Glob w) (hR : Rb w pa t) :
    Calls Tryd.prog 8 #[.slice pa t.length c, .int .i64 sp] w fun e w' => e = .returned (.bool true) ∧ Below w.heap.size w w' := by
  have cL := hide (show ∀ W, Below w.heap.size w W → Calls Tryd.prog 27 #[.slice pa t.length c] W fun e w' => ∃ g qc, e = .returned (.slice (some ⟨g, 0, none⟩) t.length qc) ∧ t.length + 70 ≤ qc ∧ w'.ownsRow W.heap.size 5 1 (.slice (some ⟨g, 0, none⟩) (t.length + 70) qc) (t.length + 70) (encB (pad t 70)) ∧ Below W.heap.size W w' from fun W hb => by
    refine (lent_any t pa c W (by omega) (hR.later hb)).mono ?_
    rintro e w' ⟨qa, qc, rfl, ho, hb⟩
    have h1 := cap_le ho (by omega)
    obtain ⟨g, cap, e⟩ := ownsRow_succ ho
    cases e
    exact ⟨g, qc, rfl, h1, ho, hb⟩)
  have cR := hide (fun (W : World) (hb : Below w.heap.size w W) => rEach_any t pa c W hc (hR.later hb))
  have HR := hide hR
  obtain ⟨L, hL⟩ : ∃ L, t.length = L := ⟨_, rfl⟩
  rw [hL] at cL cR ⊢
  have HL := hide hL
  have HT := hide (show L ≤ 16777216 by omega)
  obtain ⟨N, hN⟩ : ∃ N, (gx t).length = N := ⟨_, rfl⟩
  have HN := hide hN
  have hNl : N ≤ 16777216 := by rw [← hN]; exact (gx_le t).2.1
  rw [hN] at cR
  have HG := hide hG
  clear hL hR hc ht hN hG
  refine (callsIn_wide (n := 9)).1 ?_
  refine callsIn_of_wp_marks Tryd.func8 rfl trivial ?_ rfl
  simp only [Tryd.ntmps8, List.size_toArray, List.length_cons, List.length_nil, Nat.reduceAdd, Nat.reduceSub, Array.replicate_succ, Array.replicate_zero, List.push_toArray, List.append_toArray, List.nil_append, List.cons_append]
  have hnil := seq_nil 42
  gi_wp2_with (first
    | (gi_at_call 27; refine (callsIn_wide.2 (unhide cL _ (((Below.refl w.heap.size w).alloc (Nat.le_refl _) _).alloc (by simp) _))).mono ?_; rintro e w1 ⟨g, qc, rfl, hq, ho, hb⟩; have HQ := hide hq; have HO := hide ho; have HS1 := hide hb; have HB1 := hide ((((Below.refl w.heap.size w).alloc (Nat.le_refl _) _).alloc (by simp) _).trans (hb.mono (by simp; omega))); clear hq ho hb)
    | (gi_at_call 17; refine (callsIn_wide.2 (Each_S t L (unhide HL) _ _ w1 (unhide HT) (rb_pre2 (Rb.of_owns (t := pad t 70) (by rw [pad_len, unhide HL]; exact unhide HO)).2))).mono ?_; rintro e w2 ⟨rfl, hw⟩; have HS2 := hide (show Below w1.heap.size w1 w2 by rw [hw]; exact (Below.refl _ w1).alloc (Nat.le_refl _) _); have HX2 := hide (show w2.heap[w1.heap.size]? = some (.cells #[.string (ba t)] 9 (0, 0)) ∧ w2.heap.size = w1.heap.size + 1 by rw [hw]; exact ⟨World.alloc_heap_new w1 _, by simp⟩); clear hw)
    | (gi_at_call 28; refine (callsIn_wide.2 (unhide cR w2 (bl_t (unhide HB1) (unhide HS2)))).mono ?_; rintro e w3 ⟨wa, wc, vsw, rfl, hb, hd⟩; have HS3 := hide hb; have HD := hide hd; clear hb hd)
    | (gi_at_call 29; refine (callsIn_wide.2 (still_L t L (unhide HL) g 0 pa qc c (w3.alloc (.cells #[.slice wa N wc] 24)) (by have := unhide HT; omega) (unhide HQ) ((Rb.of_owns (t := pad t 70) (by rw [pad_len, unhide HL]; exact unhide HO)).2.later (bl_t (bl_t (unhide HS2) (unhide HS3)) ((Below.refl _ w3).alloc (Nat.le_refl _) _))) ((unhide HR).later (bl_t (bl_t (bl_t (unhide HB1) (unhide HS2)) (unhide HS3)) ((Below.refl _ w3).alloc (Nat.le_refl _) _))))).mono ?_; rintro e w5 ⟨rfl, hb⟩; have HS5 := hide hb; clear hb))
  have HEV := hide (show Ev w t sp g w1.heap.size w2.heap.size w3.heap.size wa wc N vsw w5 from by
    have z1 := (unhide HS1).size
    have z2 := (unhide HX2).2
    have z3 := (unhide HS3).size
    have z5 := (unhide HS5).size
    have hg := (ownsRow_blk (unhide HO) (g := g) rfl).choose_spec.2
    simp only [World.size_alloc] at z1 z5 hg
    have k5 := unhide HS5
    have k4 : Below w3.heap.size w3 (w3.alloc (.cells #[.slice wa N wc] 24)) := (Below.refl _ w3).alloc (Nat.le_refl _) _
    have k3 := bl_t k4 k5
    have k2 := bl_t (unhide HS3) k3
    have k1 := bl_t (unhide HS2) k2
    have b1 : w1.heap[w.heap.size]? = some (.cells #[.int .i64 sp] 3 (0, 0)) := ((unhide HS1).block _ (by simp; omega)).trans ((Below.heap_alloc _ _ _ (by simp)).trans (World.alloc_heap_new w _))
    have b2 : w1.heap[w.heap.size + 1]? = some (.cells #[.bool false] 4 (0, 0)) := by
      refine ((unhide HS1).block _ (by simp)).trans ?_
      have := World.alloc_heap_new (w.alloc (.cells #[.int .i64 sp] 3)) (.cells #[.bool false] 4)
      rwa [World.size_alloc] at this
    refine ⟨bl_t (unhide HB1) k1, (k1.block _ (by omega)).trans b1, (k1.block _ (by omega)).trans b2, fun _ => (k2.block _ (by omega)).trans (unhide HX2).1, (k5.block _ (by simp)).trans (World.alloc_heap_new w3 _), (unhide HD).st k3, by omega⟩)
  have HGR := hide (show w5.ownsRow (w.heap.size + 2) 5 1 (.slice (some ⟨g, 0, none⟩) (L + 70) qc) (L + 70) (encB (pad t 70)) from by
    have h := ownsRow_below (ownsRow_below (ownsRow_below (ownsRow_below (unhide HO) (unhide HS2)) (unhide HS3)) ((Below.refl _ w3).alloc (Nat.le_refl _) (.cells #[.slice wa N wc] 24))) (unhide HS5)
    exact ownsRow_lower h (by simp))
  have HP0 := hide (show (pad t 70).length = L + 70 by rw [pad_len, unhide HL])
  clear HO HS1 HB1 HS2 HX2 HS3 HD HS5 cL cR hnil
  generalize pad t 70 = gt0 at *
  generalize w1.heap.size = Bk at *
  generalize w2.heap.size = nw at *
  generalize w3.heap.size = Bw at *
  gi_loopw [8] (fun iv wr => ∃ (k : Nat) (gt : Bs), k ≤ L ∧ iv = .int .i64 k ∧ Hid (gt.length = L + 70) ∧ Hid (wr.ownsRow (w.heap.size + 2) 5 1 (.slice (some ⟨g, 0, none⟩) (L + 70) qc) (L + 70) (encB gt)) ∧ Hid (Ev w t sp g Bk nw Bw wa wc N vsw wr)) (fun iv _ => L - (intOf iv).toNat)
  case atStart => exact ⟨0, gt0, Nat.zero_le _, rfl, HP0, HGR, HEV⟩
  case round =>
    clear HP0 HGR HEV
    obtain ⟨k, gt, hk, rfl, HLg, HO, HE⟩ := hrel
    have hLT := unhide HT
    by_cases hlt : k < L
    · obtain ⟨⟨y, ck⟩, fk, gt2, hg2, ho2⟩ := put_one (unhide HLg) (unhide HO) k hlt 122
      have HLg2 := hide hg2
      have HO2 := hide ho2
      have HE2 := hide ((unhide HE).set k (.int .u8 ((122 : UInt8).toNat : Int)))
      clear hg2 ho2 HLg HO HE
      have knz : (k : Int) < (L : Int) := by omega
      by_cases hk1 : k = 1
      · subst hk1
        obtain ⟨⟨y2, ck2⟩, fk2, gt3, hg3, ho3⟩ := put_one (unhide HLg2) (unhide HO2) 1 hlt 58
        have HLg3 := hide hg3
        have HO3 := hide ho3
        have HE3 := hide ((unhide HE2).set 1 (.int .u8 ((58 : UInt8).toNat : Int)))
        clear hg3 ho3 HLg2 HO2 HE2
        rw [show ((122 : UInt8).toNat : Int) = 122 from rfl] at *
        rw [show ((58 : UInt8).toNat : Int) = 58 from rfl] at *
        have knz1 : (1 : Int) < (L : Int) := by omega
        rw [show ((1 : Nat) : Int) = 1 from rfl]
        gi_wp2_with fail
        go_roundw
        case rel => exact ⟨2, gt3, by omega, rfl, HLg3, HO3, HE3⟩
        case measure => simp [intOf]; omega
      · have e1 : ((k : Int) == 1) = false := by simp; omega
        rw [show ((122 : UInt8).toNat : Int) = 122 from rfl] at *
        gi_wp2_with fail
        go_roundw
        case rel => exact ⟨k + 1, gt2, by omega, by go_num, HLg2, HO2, HE2⟩
        case measure => simp [intOf]; omega
    · obtain rfl : k = L := by omega
      gi_wp2_with fail
      obtain ⟨X0, hW0⟩ : ∃ W0, (wr.alloc (.cells #[.slice none 0 0] 24)).alloc (.cells #[.int .i64 0] 3) = W0 := ⟨_, rfl⟩
      rw [hW0]
      have hb0 : Below wr.heap.size wr X0 := by rw [← hW0]; exact ((Below.refl _ wr).alloc (Nat.le_refl _) _).alloc (by simp) _
      have hz0 : wr.heap.size + 2 ≤ X0.heap.size := by rw [← hW0]; simp
      have HL0 := hide (show X0.heap[wr.heap.size]? = some (.cells #[.slice none 0 0] 24 (0, 0)) by rw [← hW0]; exact (Below.heap_alloc _ _ _ (by simp)).trans (World.alloc_heap_new wr _))
      have HT0 := hide (show X0.heap[wr.heap.size + 1]? = some (.cells #[.int .i64 0] 3 (0, 0)) by
        rw [← hW0]
        have := World.alloc_heap_new (wr.alloc (.cells #[.slice none 0 0] 24)) (.cells #[.int .i64 0] 3)
        rwa [World.size_alloc] at this)
      have hBw : Bw < wr.heap.size := (unhide HE).o.2.2.2.2
      have hBwg : w.heap.size < Bw := by have := (unhide HE).o; omega
      have HPK0 := hide (show Pk w t sp g Bk nw Bw wa wc N vsw qc k gt wr.heap.size [] X0.heap.size X0 from ⟨(unhide HE).later hb0, ownsRow_below (unhide HO) hb0, fun d hd => (by cases hd), hBw, by omega, Nat.le_refl _⟩)
      have HGX := hide (show gx t = gw t by unfold gx; rw [if_neg (by rw [unhide HL]; omega)])
      have hlt0 : wr.heap.size < wr.heap.size + 1 := by omega
      have hTX0 : wr.heap.size + 1 < X0.heap.size := by omega
      clear hW0 hb0 HE HO hz0
      generalize wr.heap.size + 1 = T0 at *
      generalize wr.heap.size = Bl at *
      refine wpIn_loop_rounds 4 ?_
      rw [roundsIn_succ]
      have ct := (cell_blk (unhide HT0) 0).1
      gi_wp2_with fail
      clear ct
      obtain ⟨Y0, hY⟩ : ∃ Y, X0.alloc (.cells #[.int .i64 0] 3) = Y := ⟨_, rfl⟩
      rw [hY]
      have hbY : Below X0.heap.size X0 Y0 := by rw [← hY]; exact (Below.refl _ X0).alloc (Nat.le_refl _) _
      have hBY0 : X0.heap.size < Y0.heap.size := by rw [← hY]; simp
      have hnY : Y0.heap[X0.heap.size]? = some (.cells #[.int .i64 0] 3 (0, 0)) := by rw [← hY]; exact World.alloc_heap_new X0 _
      have HPY0 := hide ((unhide HPK0).next (Env.bel hbY) hbY.size (fun k hk _ => hbY.block k hk) X0.heap.size (Nat.le_refl _) hbY.size)
      have HTY0 := hide ((hbY.block _ hTX0).trans (unhide HT0))
      have HLY0 := hide ((hbY.block _ (by omega)).trans (unhide HL0))
      have hBB0 : Bl < X0.heap.size := by omega
      clear hY hbY HPK0 HT0 HL0
      generalize X0.heap.size = N0 at *
      refine rangeFunc_eb t (by rw [unhide HL]; exact unhide HT) (Bk := Bk) (by decide) 4 rfl ((unhide HPY0).ev.glob (unhide HG)) (cell_blk ((unhide HPY0).ev.sq (by rw [unhide HL]; exact unhide HT)) 0).1 rfl (Fr0 Y0 N0) (Fr0.clo Y0 N0 hBY0) ⟨Env.refl _, Nat.le_refl _, fun _ _ _ => rfl, hnY⟩ ?hq0 ?a10 ?as0 ?bo0 ?fi0
      case hq0 =>
        intro a W h
        exact h
      case as0 =>
        intro l x W K hK
        gi_wp2
        exact hK
      case bo0 =>
        intro l x W hD hLp hp
        have hi := hp.i
        have hlo := hp.lo
        have hhi := hp.hi
        have hEo := (unhide HPY0).ev.o
        have hEW := (unhide HPY0).ev.next hi.env (by omega) (fun k hk _ => hi.fr k (by omega) (by omega))
        have hat := now_at hp.pre
        rw [← unhide HGX] at hat
        obtain ⟨b, pg, pc, ag, ac, hwa, q1, q2, q3, q4⟩ := want_at hEW.wt.now hat.1 hp.ns
        subst hwa
        have hbd := ((gx_le t).2.2 _ (List.mem_of_getElem? hat.1)).2
        have hlen : x.ps.length < N := by rw [← unhide HN]; exact hat.2
        have hlz : (x.ps.length : Int) < (N : Int) := by omega
        have hge : ¬ ((N : Int) ≤ (x.ps.length : Int)) := by omega
        have k1 : (0 : Int) < (x.p.length : Int) + 1 := by omega
        have k2 : (0 : Int) < (x.nr.length : Int) + 1 := by omega
        have k3 : (0 : Int) ≤ (x.ps.length : Int) := by omega
        have bA : Below W.heap.size W (W.alloc (.cells #[x.v] 39)) := (Below.refl _ W).alloc (Nat.le_refl _) _
        have bB : Below W.heap.size W ((W.alloc (.cells #[x.v] 39)).alloc (.cells #[.slice (some ⟨pg, 0, none⟩) (x.p.length + 1) pc] 39)) := bA.alloc (by simp) _
        have cA := hide (alike_one (W := (W.alloc (.cells #[x.v] 39)).alloc (.cells #[.slice (some ⟨pg, 0, none⟩) (x.p.length + 1) pc] 39)) (b1 := W.heap.size) (b2 := W.heap.size + 1) (c1 := 1) (c2 := 1) hbd
          (two_rows W x.v _).1 (two_rows W x.v _).2
          (hp.wh.parC.later bB) (q2.later bB))
        have cn := (cell_blk hi.n 0).1
        have cw := (cell_blk hEW.wb 0).1
        have ctn := (cell_blk ((hi.fr T0 (by omega) (by omega)).trans (unhide HTY0)) 0).1
        have cst := (cell_blk hEW.st 0).1
        have cnA := cell_later cn bA
        have cwA := cell_later cw bA
        have qA := cell_later q1 bA
        have HX := hide hp
        have HBD := hide hbd
        have HQW := hide (And.intro q1 (And.intro q3 q4))
        have HCC := hide (And.intro cn (And.intro cw (And.intro ctn cst)))
        have HBB := hide bB
        have HLO := hide (show N0 < x.base ∧ T0 < x.base ∧ w.heap.size < x.base ∧ x.base ≤ W.heap.size ∧ T0 ≠ N0 ∧ w.heap.size ≠ N0 by omega)
        clear hi hlo hhi hEo hEW hat hbd hp q2 q3 q4 bA bB q1 ctn cst
        by_cases hsp : sp = (x.ps.length : Int) + 1
        · subst hsp
          gi_wp2_with (first
            | (gi_at_call 26; refine (CallsIn.inRound l (callsIn_wide.2 (unhide cA))).mono ?_; rintro e W6 ⟨rfl, hb⟩; have HB6 := hide ((unhide HBB).trans (hb.mono (unhide HBB).size)); have cn6 := cell_later (unhide HCC).1 (unhide HB6); have cw6 := cell_later (unhide HCC).2.1 (unhide HB6); have ct6 := cell_later (unhide HCC).2.2.1 (unhide HB6); have s6 := cell_later (unhide HQW).1 (unhide HB6); have s7 := cell_later (unhide HQW).2.1 (unhide HB6); have s8 := cell_later (unhide HQW).2.2 (unhide HB6); clear hb)
            | (gi_at_call 30; refine (CallsIn.inRound l (callsIn_wide.2 (spoil_one (W := W6.alloc (.cells #[x.v] 39)) (base := x.base) (hi := W.heap.size) (p := x.f :: x.p) (by simp) (unhide HBD) ((unhide HX).wh.bel (Nat.le_refl _) ((unhide HB6).alloc (unhide HB6).size _)) (by have := (unhide HB6).size; have := (unhide HLO).2.2.2.1; simp; omega) (one_row W6 x.v x.base (by have := (unhide HB6).size; have := (unhide HLO).2.2.2.1; omega))))).mono ?_; rintro e W8 ⟨rfl, e1, e2, e3⟩; have HK8 := hide (show Env W W8 ∧ W.heap.size ≤ W8.heap.size ∧ ∀ q, q < x.base → W8.heap[q]? = W.heap[q]? from ⟨(Env.bel (unhide HB6)).trans ((Env.al _ _).trans e1), by have := (unhide HB6).size; simp at e2; omega, fun q hq => (e3 q (by have := (unhide HB6).size; have := (unhide HLO).2.2.2.1; simp; omega) (.inl hq)).trans ((Below.heap_alloc _ _ _ (by have := (unhide HB6).size; have := (unhide HLO).2.2.2.1; omega)).trans ((unhide HB6).block q (by have := (unhide HLO).2.2.2.1; omega)))⟩); have HN8 := hide (((unhide HK8).2.2 N0 (unhide HLO).1).trans (unhide HX).i.n); have cn8 := (cell_blk (unhide HN8) 0).1; have fn8 := (cell_blk (unhide HN8) 0).2; have HN9 := hide (set_blk (unhide HN8) 0 (.int .i64 ((x.ps.length : Int) + 1))); have cn9 := (cell_blk (unhide HN9) 0).1; have ct9 : (W8.setCell ⟨N0, 0, none⟩ (.int .i64 ((x.ps.length : Int) + 1))).cell? ⟨T0, 0, none⟩ = some (.int .i64 0) := (World.cell?_of_block (w := W) (a := ⟨T0, 0, none⟩) ((set_other _ _ _ _ _ (unhide HLO).2.2.2.2.1).trans ((unhide HK8).2.2 _ (unhide HLO).2.1))).trans (unhide HCC).2.2.1; have cs9 : (W8.setCell ⟨N0, 0, none⟩ (.int .i64 ((x.ps.length : Int) + 1))).cell? ⟨w.heap.size, 0, none⟩ = some (.int .i64 ((x.ps.length : Int) + 1)) := (World.cell?_of_block (w := W) (a := ⟨w.heap.size, 0, none⟩) ((set_other _ _ _ _ _ (unhide HLO).2.2.2.2.2).trans ((unhide HK8).2.2 _ (unhide HLO).2.2.1))).trans (unhide HCC).2.2.2; clear e1 e2 e3))
          have hfin := fr0_post (W9 := W8.setCell ⟨N0, 0, none⟩ (.int .i64 ((x.ps.length : Int) + 1))) (unhide HX) hBY0 (by omega) ((unhide HK8).1.trans (Env.set _ _ _)) (by rw [set_size]; exact (unhide HK8).2.1) (fun k h1 h2 => (set_other _ _ _ _ _ h2).trans ((unhide HK8).2.2 k h1)) (by rw [now_len]; exact unhide HN9)
          exact ⟨hfin.1, hfin.2.1, rfl, hfin.2.2⟩
        · have hsq : ((x.ps.length : Int) + 1 == sp) = false := by simp; omega
          clear hsp
          gi_wp2_with (first
            | (gi_at_call 26; refine (CallsIn.inRound l (callsIn_wide.2 (unhide cA))).mono ?_; rintro e W6 ⟨rfl, hb⟩; have HB6 := hide ((unhide HBB).trans (hb.mono (unhide HBB).size)); have cn6 := cell_later (unhide HCC).1 (unhide HB6); have cw6 := cell_later (unhide HCC).2.1 (unhide HB6); have ct6 := cell_later (unhide HCC).2.2.1 (unhide HB6); have s6 := cell_later (unhide HQW).1 (unhide HB6); have s7 := cell_later (unhide HQW).2.1 (unhide HB6); have s8 := cell_later (unhide HQW).2.2 (unhide HB6); clear hb)
            | (gi_at_call 30; refine (CallsIn.inRound l (callsIn_wide.2 (spoil_one (W := W6.alloc (.cells #[x.v] 39)) (base := x.base) (hi := W.heap.size) (p := x.f :: x.p) (by simp) (unhide HBD) ((unhide HX).wh.bel (Nat.le_refl _) ((unhide HB6).alloc (unhide HB6).size _)) (by have := (unhide HB6).size; have := (unhide HLO).2.2.2.1; simp; omega) (one_row W6 x.v x.base (by have := (unhide HB6).size; have := (unhide HLO).2.2.2.1; omega))))).mono ?_; rintro e W8 ⟨rfl, e1, e2, e3⟩; have HK8 := hide (show Env W W8 ∧ W.heap.size ≤ W8.heap.size ∧ ∀ q, q < x.base → W8.heap[q]? = W.heap[q]? from ⟨(Env.bel (unhide HB6)).trans ((Env.al _ _).trans e1), by have := (unhide HB6).size; simp at e2; omega, fun q hq => (e3 q (by have := (unhide HB6).size; have := (unhide HLO).2.2.2.1; simp; omega) (.inl hq)).trans ((Below.heap_alloc _ _ _ (by have := (unhide HB6).size; have := (unhide HLO).2.2.2.1; omega)).trans ((unhide HB6).block q (by have := (unhide HLO).2.2.2.1; omega)))⟩); have HN8 := hide (((unhide HK8).2.2 N0 (unhide HLO).1).trans (unhide HX).i.n); have cn8 := (cell_blk (unhide HN8) 0).1; have fn8 := (cell_blk (unhide HN8) 0).2; have HN9 := hide (set_blk (unhide HN8) 0 (.int .i64 ((x.ps.length : Int) + 1))); have cn9 := (cell_blk (unhide HN9) 0).1; have ct9 : (W8.setCell ⟨N0, 0, none⟩ (.int .i64 ((x.ps.length : Int) + 1))).cell? ⟨T0, 0, none⟩ = some (.int .i64 0) := (World.cell?_of_block (w := W) (a := ⟨T0, 0, none⟩) ((set_other _ _ _ _ _ (unhide HLO).2.2.2.2.1).trans ((unhide HK8).2.2 _ (unhide HLO).2.1))).trans (unhide HCC).2.2.1; have cs9 : (W8.setCell ⟨N0, 0, none⟩ (.int .i64 ((x.ps.length : Int) + 1))).cell? ⟨w.heap.size, 0, none⟩ = some (.int .i64 sp) := (World.cell?_of_block (w := W) (a := ⟨w.heap.size, 0, none⟩) ((set_other _ _ _ _ _ (unhide HLO).2.2.2.2.2).trans ((unhide HK8).2.2 _ (unhide HLO).2.2.1))).trans (unhide HCC).2.2.2; clear e1 e2 e3))
          have hfin := fr0_post (W9 := W8.setCell ⟨N0, 0, none⟩ (.int .i64 ((x.ps.length : Int) + 1))) (unhide HX) hBY0 (by omega) ((unhide HK8).1.trans (Env.set _ _ _)) (by rw [set_size]; exact (unhide HK8).2.1) (fun k h1 h2 => (set_other _ _ _ _ _ h2).trans ((unhide HK8).2.2 k h1)) (by rw [now_len]; exact unhide HN9)
          exact hfin
      case' fi0 => intro qs W0 heW hgW hzW hi hDf
      have HPW := hide (((unhide HPY0).next heW (by omega) (fun k hk hkl => hi.fr k (by omega) (by omega)) W0.heap.size (by omega) (Nat.le_refl _)).add Y0.heap.size hDf (by omega) (by omega) (by have := (unhide HPY0).ev.bel.size; omega))
      have HTW := hide ((hi.fr T0 (by omega) (by omega)).trans (unhide HTY0))
      have ct := (cell_blk (unhide HTW) 0).1
      have cn := (cell_blk hi.n 0).1
      have cw := (cell_blk (unhide HPW).ev.wb 0).1
      have HLW := hide ((hi.fr Bl (by omega) (by omega)).trans (unhide HLY0))

      have hDfl : Y0.heap.size < W0.heap.size := by omega
      clear hi hDf HPY0 HTY0 HLY0 heW hgW
      gi_wp2_with fail
      clear ct cn cw
      obtain ⟨X1, hX⟩ : ∃ X, W0.alloc (.cells #[.int .i64 1] 3) = X := ⟨_, rfl⟩
      rw [hX]
      have hbX : Below W0.heap.size W0 X1 := by rw [← hX]; exact (Below.refl _ W0).alloc (Nat.le_refl _) _
      have hTX1 : W0.heap.size < X1.heap.size := by rw [← hX]; simp
      have HT1 := hide (show X1.heap[W0.heap.size]? = some (.cells #[.int .i64 1] 3 (0, 0)) by rw [← hX]; exact World.alloc_heap_new W0 _)
      have HPK1 := hide ((unhide HPW).later hbX)
      have HL1 := hide ((hbX.block Bl (by omega)).trans (unhide HLW))
      have hbT1 : Bl < W0.heap.size := by omega
      clear hX hbX HPW HTW HLW
      generalize W0.heap.size = T1 at *
      rw [roundsIn_succ]
      have ct := (cell_blk (unhide HT1) 0).1
      gi_wp2_with fail
      clear ct
      obtain ⟨Y1, hY⟩ : ∃ Y, X1.alloc (.cells #[.int .i64 0] 3) = Y := ⟨_, rfl⟩
      rw [hY]
      have hbY : Below X1.heap.size X1 Y1 := by rw [← hY]; exact (Below.refl _ X1).alloc (Nat.le_refl _) _
      have hBY1 : X1.heap.size < Y1.heap.size := by rw [← hY]; simp
      have hnY : Y1.heap[X1.heap.size]? = some (.cells #[.int .i64 0] 3 (0, 0)) := by rw [← hY]; exact World.alloc_heap_new X1 _
      have HPY1 := hide ((unhide HPK1).next (Env.bel hbY) hbY.size (fun k hk _ => hbY.block k hk) X1.heap.size (Nat.le_refl _) hbY.size)
      have HTY1 := hide ((hbY.block _ hTX1).trans (unhide HT1))
      have HLY1 := hide ((hbY.block _ (by omega)).trans (unhide HL1))
      have hBB1 : Bl < X1.heap.size := by omega
      clear hY hbY HPK1 HT1 HL1
      generalize X1.heap.size = N1 at *
      refine rangeFunc_ea t (by rw [unhide HL]; exact unhide HT) (Bk := Bk) (by decide) rfl ((unhide HPY1).ev.glob (unhide HG)) (cell_blk ((unhide HPY1).ev.sq (by rw [unhide HL]; exact unhide HT)) 0).1 rfl (Fr1 Y1 N1 Bl) (fun _ _ _ _ => False) (Fr1.clo Y1 N1 Bl hBY1 (by omega)) (fun _ _ _ _ _ _ h _ _ _ _ _ => h) ⟨Env.refl _, Nat.le_refl _, fun _ _ _ _ => rfl, hnY, .inl ⟨rfl, unhide HLY1⟩⟩ ?a11 ?as1 ?bo1 ?fi1 ?st1
      case st1 => exact fun _ _ _ _ _ _ h _ => h.elim
      case as1 =>
        intro l x W K hK
        gi_wp2
        exact hK
      case bo1 =>
        intro l x W hD hLp hp
        have hi := hp.i
        have hlo := hp.lo
        have hhi := hp.hi
        have hEo := (unhide HPY1).ev.o
        have hEW := (unhide HPY1).ev.next hi.env (by omega) (fun k hk _ => hi.fr k (by omega) (by omega) (by omega))
        have hat := now_at hp.pre
        rw [← unhide HGX] at hat
        obtain ⟨b, pg, pc, ag, ac, hwa, q1, q2, q3, q4⟩ := want_at hEW.wt.now hat.1 hp.ns
        subst hwa
        have hbd := ((gx_le t).2.2 _ (List.mem_of_getElem? hat.1)).2
        have hlen : x.ps.length < N := by rw [← unhide HN]; exact hat.2
        have hlz : (x.ps.length : Int) < (N : Int) := by omega
        have hge : ¬ ((N : Int) ≤ (x.ps.length : Int)) := by omega
        have k1 : (0 : Int) < (x.p.length : Int) + 1 := by omega
        have k2 : (0 : Int) < (x.nr.length : Int) + 1 := by omega
        have k3 : (0 : Int) ≤ (x.ps.length : Int) := by omega
        have bA : Below W.heap.size W (W.alloc (.cells #[x.v] 39)) := (Below.refl _ W).alloc (Nat.le_refl _) _
        have bB : Below W.heap.size W ((W.alloc (.cells #[x.v] 39)).alloc (.cells #[.slice (some ⟨pg, 0, none⟩) (x.p.length + 1) pc] 39)) := bA.alloc (by simp) _
        have cA := hide (alike_one (W := (W.alloc (.cells #[x.v] 39)).alloc (.cells #[.slice (some ⟨pg, 0, none⟩) (x.p.length + 1) pc] 39)) (b1 := W.heap.size) (b2 := W.heap.size + 1) (c1 := 1) (c2 := 1) hbd
          (two_rows W x.v _).1 (two_rows W x.v _).2
          (hp.wh.parC.later bB) (q2.later bB))
        have cn := (cell_blk hi.n 0).1
        have cw := (cell_blk hEW.wb 0).1
        have ctn := (cell_blk ((hi.fr T1 (by omega) (by omega) (by omega)).trans (unhide HTY1)) 0).1
        have cst := (cell_blk hEW.st 0).1
        have cnA := cell_later cn bA
        have cwA := cell_later cw bA
        have qA := cell_later q1 bA
        have HX := hide hp
        have HBD := hide hbd
        have HQW := hide (And.intro q1 (And.intro q3 q4))
        have HCC := hide (And.intro cn (And.intro cw (And.intro ctn cst)))
        have HBB := hide bB
        have HLO := hide (show N1 < x.base ∧ T1 < x.base ∧ w.heap.size < x.base ∧ x.base ≤ W.heap.size ∧ T1 ≠ N1 ∧ w.heap.size ≠ N1 by omega)
        obtain ⟨lv, vs, hd⟩ := hi.dn (by omega) hlo
        obtain ⟨i0, hi0, hz0, hz1, hz2⟩ := info_parts info39
        have cl := (cell_blk hd.bx 0).1
        have HDn := hide hd
        have hvl : vs.length ≤ 16777216 := by rw [hd.len]; omega
        have HCL := hide cl
        have HOB := hide (show ∀ q, lv.ownBlock = some q → Y1.heap.size + 9 ≤ q from fun q hq => (ownsRow_blk hd.row hq).choose_spec.2.1)
        have HYx := hide (show Y1.heap.size + 9 ≤ x.base from hlo)
        clear hd cl
        clear hi hlo hhi hEo hEW hat hbd hp q2 q3 q4 bA bB q1 ctn cst
        gi_wp2_with (first
          | (gi_at_call 26; refine (CallsIn.inRound l (callsIn_wide.2 (unhide cA))).mono ?_; rintro e W6 ⟨rfl, hb⟩; have HB6 := hide ((unhide HBB).trans (hb.mono (unhide HBB).size)); have cn6 := cell_later (unhide HCC).1 (unhide HB6); have cw6 := cell_later (unhide HCC).2.1 (unhide HB6); have ct6 := cell_later (unhide HCC).2.2.1 (unhide HB6); have s6 := cell_later (unhide HQW).1 (unhide HB6); have s7 := cell_later (unhide HQW).2.1 (unhide HB6); have s8 := cell_later (unhide HQW).2.2 (unhide HB6); have cl6 := cell_later (unhide HCL) (unhide HB6); have HR6 := hide (ownsRow_below (unhide HDn).row (unhide HB6)); clear hb)
          | (gi_at_builtin; go_must (refine wpListIn_append_own _ rfl _ _ 24 rfl (Y1.heap.size + 9) 39 i0 (.slice none 0 0) 1 24 Tryd.underlying24 hi0 hz0 hz1 hz2 rfl (by decide) lv vs.length vs rfl (ownsRow_al (unhide HR6) _) ⟨W6.heap.size, 0, none⟩ 1 1 [x.v] rfl rfl (cell_one_new _ _ _) (by simp [Value.oneCell']) (by unfold maxLen; omega) (by omega) (by have := (unhide HB6).size; have := (unhide HLO).2.2.2.1; have := unhide HYx; simp; omega) ?_); intro v2 w7 hown2 hgrow2 _; have hq6 := (unhide HB6).size; have hq7 := (unhide HLO).2.2.2.1; have hq8 := unhide HYx; have hkp : ∀ k, k < Y1.heap.size → w7.heap[k]? = W.heap[k]? := (fun k hk => (hgrow2.block k (by simp; omega) (fun e => by have := unhide HOB k e.symm; omega)).trans ((Below.heap_alloc W6 _ k (by omega)).trans ((unhide HB6).block k (by omega)))); have HX7 := hide ((hkp Bl (by omega)).trans (unhide HDn).bx); have HN7 := hide ((hkp N1 (by omega)).trans (unhide HX).i.n); have e2 := (cell_blk (unhide HX7) 0).1; have f2 := (cell_blk (unhide HX7) 0).2; have HO7 := hide hown2; have HW7 := hide hgrow2; obtain ⟨g2, cap2, cur2, rfl, -⟩ := slice_of hown2; have HN8 := hide ((set_other w7 Bl 0 (.slice (some ⟨g2, 0, none⟩) (vs.length + 1) cap2) N1 (by omega)).trans (unhide HN7)); have cn8 := (cell_blk (unhide HN8) 0).1; have fn8 := (cell_blk (unhide HN8) 0).2; have ct8 : ((w7.setCell ⟨Bl, 0, none⟩ (.slice (some ⟨g2, 0, none⟩) (vs.length + 1) cap2)).setCell ⟨N1, 0, none⟩ (.int .i64 ((x.ps.length : Int) + 1))).cell? ⟨T1, 0, none⟩ = some (.int .i64 1) := (World.cell?_of_block (w := W) (a := ⟨T1, 0, none⟩) ((set_other _ N1 0 _ T1 (by omega)).trans ((set_other _ Bl 0 _ T1 (by omega)).trans (hkp T1 (by omega))))).trans (unhide HCC).2.2.1; clear hown2 hgrow2 hkp hq6 hq7 hq8))
        exact fr1_post (unhide HX) hBY1 (by omega) (by omega) (by omega) (by omega) (unhide HDn) (unhide HB6) (unhide HW7) (unhide HO7) (unhide HX7) (unhide HN7)
      case' fi1 => intro W1 heW hgW hzW hi hDf
      have HPW := hide (((unhide HPY1).next heW (by omega) (fun k hk hkl => hi.fr k (by omega) (by omega) (by omega)) W1.heap.size (by omega) (Nat.le_refl _)).add Y1.heap.size hDf (by omega) (by omega) (by have := (unhide HPY1).ev.bel.size; omega))
      have HTW := hide ((hi.fr T1 (by omega) (by omega) (by omega)).trans (unhide HTY1))
      have ct := (cell_blk (unhide HTW) 0).1
      have cn := (cell_blk hi.n 0).1
      have cw := (cell_blk (unhide HPW).ev.wb 0).1
      obtain ⟨bl, lv, vsl, hbl1, hbl2, hdn⟩ := hi.fin (by omega) hzW
      have HLW := hide hdn
      clear hdn
      have hNN : ((gw t).length : Int) = (N : Int) := by rw [← unhide HGX, unhide HN]
      rw [hNN] at cn
      clear hNN
      have hDfl : Y1.heap.size < W1.heap.size := by omega
      clear hi hDf HPY1 HTY1 HLY1 heW hgW
      gi_wp2_with fail
      clear ct cn cw
      obtain ⟨X2, hX⟩ : ∃ X, W1.alloc (.cells #[.int .i64 2] 3) = X := ⟨_, rfl⟩
      rw [hX]
      have hbX : Below W1.heap.size W1 X2 := by rw [← hX]; exact (Below.refl _ W1).alloc (Nat.le_refl _) _
      have hTX2 : W1.heap.size < X2.heap.size := by rw [← hX]; simp
      have HT2 := hide (show X2.heap[W1.heap.size]? = some (.cells #[.int .i64 2] 3 (0, 0)) by rw [← hX]; exact World.alloc_heap_new W1 _)
      have HPK2 := hide ((unhide HPW).later hbX)
      obtain ⟨hl, hhl0⟩ : ∃ hl, W1.heap.size = hl := ⟨_, rfl⟩
      have hhl : hl ≤ X2.heap.size := by omega
      have hhb : bl ≤ hl := by omega
      have HL2 := hide (show Dn bl Bl hl X2 lv vsl (gw t) from by rw [← hhl0]; exact (unhide HLW).keep fun k _ _ _ _ h2 _ => hbX.block k h2)
      clear hhl0 hbl2
      have hbT2 : Bl < W1.heap.size := by omega
      clear hX hbX HPW HTW HLW
      generalize W1.heap.size = T2 at *
      rw [roundsIn_succ]
      have ct := (cell_blk (unhide HT2) 0).1
      gi_wp2_with fail
      clear ct
      obtain ⟨Y2, hY⟩ : ∃ Y, X2.alloc (.cells #[.int .i64 0] 3) = Y := ⟨_, rfl⟩
      rw [hY]
      have hbY : Below X2.heap.size X2 Y2 := by rw [← hY]; exact (Below.refl _ X2).alloc (Nat.le_refl _) _
      have hBY2 : X2.heap.size < Y2.heap.size := by rw [← hY]; simp
      have hnY : Y2.heap[X2.heap.size]? = some (.cells #[.int .i64 0] 3 (0, 0)) := by rw [← hY]; exact World.alloc_heap_new X2 _
      have HPY2 := hide ((unhide HPK2).next (Env.bel hbY) hbY.size (fun k hk _ => hbY.block k hk) X2.heap.size (Nat.le_refl _) hbY.size)
      have HTY2 := hide ((hbY.block _ hTX2).trans (unhide HT2))
      have HLY2 := hide (show Dn bl Bl hl Y2 lv vsl (gw t) from (unhide HL2).keep fun k _ _ _ _ h2 _ => hbY.block k (by omega))
      have hhl2 : hl ≤ X2.heap.size := hhl
      have hBB2 : Bl < X2.heap.size := by omega
      clear hY hbY HPK2 HT2 HL2
      generalize X2.heap.size = N2 at *
      refine rangeFunc_ea t (by rw [unhide HL]; exact unhide HT) (Bk := Bk) (by decide) rfl ((unhide HPY2).ev.glob (unhide HG)) (cell_blk ((unhide HPY2).ev.sq (by rw [unhide HL]; exact unhide HT)) 0).1 rfl (Fr0 Y2 N2) (fun _ _ _ _ => False) (Fr0.clo Y2 N2 hBY2) (fun _ _ _ _ _ _ h _ _ _ _ _ => h) ⟨Env.refl _, Nat.le_refl _, fun _ _ _ => rfl, hnY⟩ ?a12 ?as2 ?bo2 ?fi2 ?st2
      case st2 => exact fun _ _ _ _ _ _ h _ => h.elim
      case as2 =>
        intro l x W K hK
        gi_wp2
        exact hK
      case bo2 =>
        intro l x W hD hLp hp
        have hi := hp.i
        have hlo := hp.lo
        have hhi := hp.hi
        have hEo := (unhide HPY2).ev.o
        have hEW := (unhide HPY2).ev.next hi.env (by omega) (fun k hk _ => hi.fr k (by omega) (by omega))
        have hat := now_at hp.pre
        rw [← unhide HGX] at hat
        obtain ⟨b, pg, pc, ag, ac, hwa, q1, q2, q3, q4⟩ := want_at hEW.wt.now hat.1 hp.ns
        subst hwa
        have hbd := ((gx_le t).2.2 _ (List.mem_of_getElem? hat.1)).2
        have hlen : x.ps.length < N := by rw [← unhide HN]; exact hat.2
        have hlz : (x.ps.length : Int) < (N : Int) := by omega
        have hge : ¬ ((N : Int) ≤ (x.ps.length : Int)) := by omega
        have k1 : (0 : Int) < (x.p.length : Int) + 1 := by omega
        have k2 : (0 : Int) < (x.nr.length : Int) + 1 := by omega
        have k3 : (0 : Int) ≤ (x.ps.length : Int) := by omega
        have bA : Below W.heap.size W (W.alloc (.cells #[x.v] 39)) := (Below.refl _ W).alloc (Nat.le_refl _) _
        have bB : Below W.heap.size W ((W.alloc (.cells #[x.v] 39)).alloc (.cells #[.slice (some ⟨pg, 0, none⟩) (x.p.length + 1) pc] 39)) := bA.alloc (by simp) _
        have cA := hide (alike_one (W := (W.alloc (.cells #[x.v] 39)).alloc (.cells #[.slice (some ⟨pg, 0, none⟩) (x.p.length + 1) pc] 39)) (b1 := W.heap.size) (b2 := W.heap.size + 1) (c1 := 1) (c2 := 1) hbd
          (two_rows W x.v _).1 (two_rows W x.v _).2
          (hp.wh.parC.later bB) (q2.later bB))
        have cn := (cell_blk hi.n 0).1
        have cw := (cell_blk hEW.wb 0).1
        have ctn := (cell_blk ((hi.fr T2 (by omega) (by omega)).trans (unhide HTY2)) 0).1
        have cst := (cell_blk hEW.st 0).1
        have cnA := cell_later cn bA
        have cwA := cell_later cw bA
        have qA := cell_later q1 bA
        have HX := hide hp
        have HBD := hide hbd
        have HQW := hide (And.intro q1 (And.intro q3 q4))
        have HCC := hide (And.intro cn (And.intro cw (And.intro ctn cst)))
        have HBB := hide bB
        have HLO := hide (show N2 < x.base ∧ T2 < x.base ∧ w.heap.size < x.base ∧ x.base ≤ W.heap.size ∧ T2 ≠ N2 ∧ w.heap.size ≠ N2 by omega)
        clear hi hlo hhi hEo hEW hat hbd hp q2 q3 q4 bA bB q1 ctn cst
        gi_wp2_with (first
          | (gi_at_call 26; refine (CallsIn.inRound l (callsIn_wide.2 (unhide cA))).mono ?_; rintro e W6 ⟨rfl, hb⟩; have HB6 := hide ((unhide HBB).trans (hb.mono (unhide HBB).size)); have cn6 := cell_later (unhide HCC).1 (unhide HB6); have cw6 := cell_later (unhide HCC).2.1 (unhide HB6); have ct6 := cell_later (unhide HCC).2.2.1 (unhide HB6); have s6 := cell_later (unhide HQW).1 (unhide HB6); have s7 := cell_later (unhide HQW).2.1 (unhide HB6); have s8 := cell_later (unhide HQW).2.2 (unhide HB6); clear hb)
          | (gi_at_call 30; refine (CallsIn.inRound l (callsIn_wide.2 (spoil_one (W := W6.alloc (.cells #[x.v] 39)) (base := x.base) (hi := W.heap.size) (p := x.f :: x.p) (by simp) (unhide HBD) ((unhide HX).wh.bel (Nat.le_refl _) ((unhide HB6).alloc (unhide HB6).size _)) (by have := (unhide HB6).size; have := (unhide HLO).2.2.2.1; simp; omega) (one_row W6 x.v x.base (by have := (unhide HB6).size; have := (unhide HLO).2.2.2.1; omega))))).mono ?_; rintro e W8 ⟨rfl, e1, e2, e3⟩; have HK8 := hide (show Env W W8 ∧ W.heap.size ≤ W8.heap.size ∧ ∀ q, q < x.base → W8.heap[q]? = W.heap[q]? from ⟨(Env.bel (unhide HB6)).trans ((Env.al _ _).trans e1), by have := (unhide HB6).size; simp at e2; omega, fun q hq => (e3 q (by have := (unhide HB6).size; have := (unhide HLO).2.2.2.1; simp; omega) (.inl hq)).trans ((Below.heap_alloc _ _ _ (by have := (unhide HB6).size; have := (unhide HLO).2.2.2.1; omega)).trans ((unhide HB6).block q (by have := (unhide HLO).2.2.2.1; omega)))⟩); have HN8 := hide (((unhide HK8).2.2 N2 (unhide HLO).1).trans (unhide HX).i.n); have cn8 := (cell_blk (unhide HN8) 0).1; have fn8 := (cell_blk (unhide HN8) 0).2; have HN9 := hide (set_blk (unhide HN8) 0 (.int .i64 ((x.ps.length : Int) + 1))); have cn9 := (cell_blk (unhide HN9) 0).1; have ct9 : (W8.setCell ⟨N2, 0, none⟩ (.int .i64 ((x.ps.length : Int) + 1))).cell? ⟨T2, 0, none⟩ = some (.int .i64 2) := (World.cell?_of_block (w := W) (a := ⟨T2, 0, none⟩) ((set_other _ _ _ _ _ (unhide HLO).2.2.2.2.1).trans ((unhide HK8).2.2 _ (unhide HLO).2.1))).trans (unhide HCC).2.2.1; have cs9 : (W8.setCell ⟨N2, 0, none⟩ (.int .i64 ((x.ps.length : Int) + 1))).cell? ⟨w.heap.size, 0, none⟩ = some (.int .i64 sp) := (World.cell?_of_block (w := W) (a := ⟨w.heap.size, 0, none⟩) ((set_other _ _ _ _ _ (unhide HLO).2.2.2.2.2).trans ((unhide HK8).2.2 _ (unhide HLO).2.2.1))).trans (unhide HCC).2.2.2; clear e1 e2 e3))
        have hfin := fr0_post (W9 := W8.setCell ⟨N2, 0, none⟩ (.int .i64 ((x.ps.length : Int) + 1))) (unhide HX) hBY2 (by omega) ((unhide HK8).1.trans (Env.set _ _ _)) (by rw [set_size]; exact (unhide HK8).2.1) (fun k h1 h2 => (set_other _ _ _ _ _ h2).trans ((unhide HK8).2.2 k h1)) (by rw [now_len]; exact unhide HN9)
        exact hfin
      case' fi2 => intro W2 heW hgW hzW hi hDf
      have HPW := hide (((unhide HPY2).next heW (by omega) (fun k hk hkl => hi.fr k (by omega) (by omega)) W2.heap.size (by omega) (Nat.le_refl _)).add Y2.heap.size hDf (by omega) (by omega) (by have := (unhide HPY2).ev.bel.size; omega))
      have HTW := hide ((hi.fr T2 (by omega) (by omega)).trans (unhide HTY2))
      have ct := (cell_blk (unhide HTW) 0).1
      have cn := (cell_blk hi.n 0).1
      have cw := (cell_blk (unhide HPW).ev.wb 0).1
      have HLW := hide (show Dn bl Bl hl W2 lv vsl (gw t) from (unhide HLY2).keep fun k _ _ _ h1 h2 _ => hi.fr k (by omega) (by omega))
      have hNN : ((gw t).length : Int) = (N : Int) := by rw [← unhide HGX, unhide HN]
      rw [hNN] at cn
      clear hNN
      have hDfl : Y2.heap.size < W2.heap.size := by omega
      clear hi hDf HPY2 HTY2 HLY2 heW hgW
      gi_wp2_with fail
      clear ct cn cw
      obtain ⟨X3, hX⟩ : ∃ X, W2.alloc (.cells #[.int .i64 3] 3) = X := ⟨_, rfl⟩
      rw [hX]
      have hbX : Below W2.heap.size W2 X3 := by rw [← hX]; exact (Below.refl _ W2).alloc (Nat.le_refl _) _
      have hTX3 : W2.heap.size < X3.heap.size := by rw [← hX]; simp
      have HT3 := hide (show X3.heap[W2.heap.size]? = some (.cells #[.int .i64 3] 3 (0, 0)) by rw [← hX]; exact World.alloc_heap_new W2 _)
      have HPK3 := hide ((unhide HPW).later hbX)
      have HL3 := hide (show Dn bl Bl hl X3 lv vsl (gw t) from (unhide HLW).keep fun k _ _ _ _ h2 _ => hbX.block k (by omega))
      have hbT3 : Bl < W2.heap.size := by omega
      clear hX hbX HPW HTW HLW
      generalize W2.heap.size = T3 at *
      rw [roundsIn_succ]
      have hN2 : (gw t).length = N := by rw [← unhide HGX, unhide HN]
      obtain ⟨la, lc, hlv⟩ := (unhide HL3).rd.shape
      rw [hN2] at hlv
      subst hlv
      clear hN2
      have HL3 := hide (show Dn bl Bl hl X3 (.slice la N lc) vsl (gx t) by rw [unhide HGX]; exact unhide HL3)
      have ct := (cell_blk (unhide HT3) 0).1
      have cl := (cell_blk (unhide HL3).bx 0).1
      have cw := (cell_blk (unhide HPK3).ev.wb 0).1
      have hu : (gt.take k).length = k := by rw [List.length_take, unhide HLg]; omega
      have cC := hide (fun (W : World) (h : W.ownsRow (w.heap.size + 2) 5 1 (.slice (some ⟨g, 0, none⟩) (k + 70) qc) (k + 70) (encB gt)) => turned_rb2 (unhide HLg) h)
      generalize gt.take k = u at *
      have HU := hide hu
      obtain ⟨M, hM⟩ : ∃ M, (gx u).length = M := ⟨_, rfl⟩
      have HM := hide hM
      have hMl : M ≤ 16777216 := by rw [← hM]; exact (gx_le u).2.1
      have cD := hide (fun (W : World) (qa : Option Addr) (qd : Nat) (h1 : k ≤ qd) (h2 : Rb W qa u) => (show Calls Tryd.prog 28 #[.slice qa k qd] W fun e w' => ∃ va vc vs, e = .returned (.slice va M vc) ∧ Below W.heap.size W w' ∧ RD W.heap.size w' (.slice va M vc) (gx u) vs from by
        have h := rEach_any u qa qd W (by rw [hu]; exact h1) h2
        rw [hu, hM] at h
        exact h))
      have cE := hide (fun (W : World) (h : Rb W (some ⟨g, 0, none⟩) u) => (show Calls Tryd.prog 12 #[.slice (some ⟨g, 0, none⟩) k qc] W fun e w' => ∃ va vc, e = .returned (.slice va k vc) ∧ k ≤ vc ∧ Rb w' va u ∧ Below W.heap.size W w' from by
        have h5 := copied_wide u (some ⟨g, 0, none⟩) qc W (by rw [hu]; omega) h
        rw [hu] at h5
        refine h5.mono ?_
        rintro e w' ⟨va, vc, h1, h2, h3⟩
        refine ⟨va, vc, h1, ?_, (Rb.of_owns (t := u) (by rw [hu]; exact h2)).2, h3⟩
        rcases Nat.eq_zero_or_pos k with h0 | h0
        · omega
        · exact cap_le h2 h0))
      clear hu hM
      gi_wp2_with (first
        | (gi_at_call 26; refine (callsIn_wide.2 (alike_g t (unhide HL3).rd (unhide HPK3).ev.wt.now)).mono ?_; rintro e W4 ⟨rfl, hb⟩; have HPK4 := hide ((unhide HPK3).later hb); have HL4 := hide (show Dn bl Bl hl W4 (.slice la N lc) vsl (gx t) from (unhide HL3).keep fun q _ _ _ _ h2 _ => hb.block q (by omega)); have hz4 := hb.size; have cl4 := (cell_blk (unhide HL4).bx 0).1; clear hb)
        | (gi_at_call 30; refine (callsIn_wide.2 (spoil_dn (unhide HL4) (by omega) (gx_le t).2.2 (gx_le t).1)).mono ?_; rintro e W5 ⟨rfl, e1, e2, e3⟩; have HPK5 := hide ((unhide HPK4).next2 e1 e2 (fun q hq => e3 q (by omega) (.inl (by omega))) (fun d hd => by simp at hd; rcases hd with rfl | rfl | rfl; exact e3 _ (by omega) (.inr (by omega)); exact e3 _ (by omega) (.inl (by omega)); exact e3 _ (by omega) (.inl (by omega)))); clear e1 e2 e3)
        | (gi_at_call 12; refine (callsIn_wide.2 (unhide cE W5 (unhide cC W5 (unhide HPK5).gr))).mono ?_; rintro e W6 ⟨qa, qd, rfl, h1, h2, hb⟩; have HQD := hide h1; have HTU := hide h2; have HPK6 := hide ((unhide HPK5).later hb); clear h1 h2 hb)
        | (gi_at_call 28; refine (callsIn_wide.2 (unhide cD W6 qa qd (unhide HQD) (unhide HTU))).mono ?_; rintro e W7 ⟨na, nc, vsu, rfl, hb, hd⟩; have HPK7 := hide ((unhide HPK6).later hb); have HDU := hide hd; clear hb hd)
        | (gi_at_call 17; refine (callsIn_wide.2 (Each_S u k (unhide HU) _ _ ((W7.alloc (.cells #[.slice na M nc] 24)).alloc (.cells #[.int .i64 0] 3)) (unhide HT) (unhide cC _ ((unhide HPK7).later (((Below.refl _ W7).alloc (Nat.le_refl _) _).alloc (by simp) _)).gr))).mono ?_; rintro e W8 ⟨rfl, hw⟩; have HW8 := hide hw; clear hw))
      have b8 : Below W7.heap.size W7 W8 := by rw [unhide HW8]; exact (((Below.refl _ W7).alloc (Nat.le_refl _) _).alloc (by simp) _).alloc (by simp; omega) _
      have x1 : W8.heap[W7.heap.size]? = some (.cells #[.slice na M nc] 24 (0, 0)) := by rw [unhide HW8]; exact (Below.heap_alloc _ _ _ (by simp; omega)).trans ((Below.heap_alloc _ _ _ (by simp)).trans (World.alloc_heap_new W7 _))
      have x2 : W8.heap[W7.heap.size + 1]? = some (.cells #[.int .i64 0] 3 (0, 0)) := by
        rw [unhide HW8]
        refine (Below.heap_alloc _ _ _ (by simp)).trans ?_
        have := World.alloc_heap_new (W7.alloc (.cells #[.slice na M nc] 24)) (.cells #[.int .i64 0] 3)
        rwa [World.size_alloc] at this
      have x3 : W8.heap[W7.heap.size + 1 + 1]? = some (.cells #[.string (ba u)] 9 (0, 0)) := by
        rw [unhide HW8]
        have := World.alloc_heap_new ((W7.alloc (.cells #[.slice na M nc] 24)).alloc (.cells #[.int .i64 0] 3)) (.cells #[.string (ba u)] 9)
        rwa [World.size_alloc, World.size_alloc] at this
      have h8 : W7.heap.size + 1 + 1 < W8.heap.size := (Array.getElem?_eq_some_iff.1 x3).1
      have HWT := hide ((unhide HDU).st b8)
      have HP8 := hide ((unhide HPK7).next (Env.bel b8) b8.size (fun q hq _ => b8.block q hq) W7.heap.size (Nat.le_refl _) b8.size)
      have HX1 := hide x1
      have h67 : Bw < W7.heap.size := by have := (unhide HPK7).o; omega
      have hBl7 : Bl < W7.heap.size := by have := (unhide HPK7).o; omega
      have HGU := hide (show gx u = gw u by unfold gx; rw [if_neg (by rw [unhide HU]; omega)])
      clear HW8 b8 HDU HPK7 HPK6 HPK5 HPK4 HPK3 x1
      generalize W7.heap.size = B7 at *
      generalize W6.heap.size = B6 at *
      refine rangeFunc_ea u (by rw [unhide HU]; exact unhide HT) (Bk := B7 + 1 + 1) (by decide) rfl ((unhide HP8).ev.glob (unhide HG)) (cell_blk x3 0).1 rfl (Fr0 W8 (B7 + 1)) (fun _ _ _ _ => False) (Fr0.clo W8 (B7 + 1) (by omega)) (fun _ _ _ _ _ _ h _ _ _ _ _ => h) ⟨Env.refl _, Nat.le_refl _, fun _ _ _ => rfl, x2⟩ ?a13 ?as3 ?bo3 ?fi3 ?st3
      case st3 => exact fun _ _ _ _ _ _ h _ => h.elim
      case as3 =>
        intro l x W K hK
        gi_wp2
        exact hK
      case bo3 =>
        intro l x W hD hLp hp
        have hi := hp.i
        have hlo := hp.lo
        have hhi := hp.hi
        have hwt := ((unhide HWT).next (fun q _ h2 => hi.fr q (by omega) (by omega))).now
        have hat := now_at hp.pre
        rw [← unhide HGU] at hat
        obtain ⟨b, pg, pc, ag, ac, hwa, q1, q2, q3, q4⟩ := want_at hwt hat.1 hp.ns
        subst hwa
        have hbd := ((gx_le u).2.2 _ (List.mem_of_getElem? hat.1)).2
        have hlen : x.ps.length < M := by rw [← unhide HM]; exact hat.2
        have hlz : (x.ps.length : Int) < (M : Int) := by omega
        have hge : ¬ ((M : Int) ≤ (x.ps.length : Int)) := by omega
        have k3 : (0 : Int) ≤ (x.ps.length : Int) := by omega
        have bA : Below W.heap.size W (W.alloc (.cells #[x.v] 39)) := (Below.refl _ W).alloc (Nat.le_refl _) _
        have bB : Below W.heap.size W ((W.alloc (.cells #[x.v] 39)).alloc (.cells #[.slice (some ⟨pg, 0, none⟩) (x.p.length + 1) pc] 39)) := bA.alloc (by simp) _
        have cA := hide (alike_one (W := (W.alloc (.cells #[x.v] 39)).alloc (.cells #[.slice (some ⟨pg, 0, none⟩) (x.p.length + 1) pc] 39)) (b1 := W.heap.size) (b2 := W.heap.size + 1) (c1 := 1) (c2 := 1) hbd
          (two_rows W x.v _).1 (two_rows W x.v _).2
          (hp.wh.parC.later bB) (q2.later bB))
        have cn := (cell_blk hi.n 0).1
        have cw := (cell_blk ((hi.fr B7 (by omega) (by omega)).trans (unhide HX1)) 0).1
        have cnA := cell_later cn bA
        have cwA := cell_later cw bA
        have qA := cell_later q1 bA
        have HX := hide hp
        have HBB := hide bB
        have HLO := hide (show B7 + 1 < x.base ∧ x.base ≤ W.heap.size by omega)
        have HNi := hide hi.n
        clear hi hlo hhi hat hbd hp q2 q3 q4 bA bB q1 hwt
        gi_wp2_with (first
          | (gi_at_call 26; refine (CallsIn.inRound l (callsIn_wide.2 (unhide cA))).mono ?_; rintro e V6 ⟨rfl, hb⟩; have HB6 := hide ((unhide HBB).trans (hb.mono (unhide HBB).size)); have HN6 := hide (((unhide HB6).block (B7 + 1) (by have := unhide HLO; omega)).trans (unhide HNi)); have cn6 := (cell_blk (unhide HN6) 0).1; have fn6 := (cell_blk (unhide HN6) 0).2; clear hb))
        exact fr0_post (W9 := V6.setCell ⟨B7 + 1, 0, none⟩ (.int .i64 ((x.ps.length : Int) + 1))) (unhide HX) (by omega) (by omega) ((Env.bel (unhide HB6)).trans (Env.set _ _ _)) (by rw [set_size]; exact (unhide HB6).size) (fun q h1 h2 => (set_other _ _ _ _ _ h2).trans ((unhide HB6).block q (by have := unhide HLO; omega))) (by rw [now_len]; exact set_blk (unhide HN6) 0 _)
      case' fi3 => intro W9 heW hgW hzW hi hDf
      have HPW := hide (((unhide HP8).next heW (by omega) (fun q hq _ => hi.fr q (by omega) (by omega)) W9.heap.size (by omega) (Nat.le_refl _)).add W8.heap.size hDf (by omega) (by omega) (by have := (unhide HP8).ev.bel.size; omega))
      have cn := (cell_blk hi.n 0).1
      have hNN : ((gw u).length : Int) = (M : Int) := by rw [← unhide HGU, unhide HM]
      rw [hNN] at cn
      have cw := (cell_blk ((hi.fr B7 (by omega) (by omega)).trans (unhide HX1)) 0).1
      have cr := (cell_blk (unhide HPW).ev.rs 0).1
      have fr := (cell_blk (unhide HPW).ev.rs 0).2
      have hmm : ((M : Int) == (M : Int)) = true := by simp
      have hd2 : Y2.heap.size < B7 := ((unhide HP8).ds _ (by simp)).1
      clear hNN hi hDf HP8 heW hgW HWT HX1
      gi_wp2_with fail
      have hrs := set_blk (unhide HPW).ev.rs 0 (.bool true)
      have hbl0 : Below w.heap.size w (W9.setCell ⟨w.heap.size + 1, 0, none⟩ (.bool true)) := (unhide HPW).ev.bel.setCell (by show w.heap.size ≤ w.heap.size + 1; omega) _
      have e3 := ((unhide HPW).ds W8.heap.size (by simp)).2.2.2
      have e2 := ((unhide HPW).ds Y2.heap.size (by simp)).2.2.2
      have e1 := ((unhide HPW).ds Y1.heap.size (by simp)).2.2.2
      have e0 := ((unhide HPW).ds Y0.heap.size (by simp)).2.2.2
      have o3 : ∀ q, q ≠ w.heap.size + 1 → (W9.setCell ⟨w.heap.size + 1, 0, none⟩ (.bool true)).heap[q]? = W9.heap[q]? := fun q hq => set_other _ _ _ _ _ hq
      clear cn cw cr fr
      generalize W9.setCell ⟨w.heap.size + 1, 0, none⟩ (.bool true) = Z0 at *
      have p1 : ∀ (Z : World) (D q : Nat) (o : Obj), q ≠ D → (Z.putObj D o).heap[q]? = Z.heap[q]? := fun Z D q o hq => World.putObj_heap_other hq
      have hbz := (unhide HPW).ev.o
      refine ⟨by simp, .inl ⟨_, Z0.putObj W8.heap.size (.deferred none), rfl, run_takeDeferred ((o3 _ (by omega)).trans e3), ?_⟩⟩
      refine ⟨by simp, .inl ⟨_, (Z0.putObj W8.heap.size (.deferred none)).putObj Y2.heap.size (.deferred none), rfl, run_takeDeferred ((p1 _ _ _ _ (by omega)).trans ((o3 _ (by omega)).trans e2)), ?_⟩⟩
      refine ⟨by simp, .inl ⟨_, ((Z0.putObj W8.heap.size (.deferred none)).putObj Y2.heap.size (.deferred none)).putObj Y1.heap.size (.deferred none), rfl, run_takeDeferred ((p1 _ _ _ _ (by omega)).trans ((p1 _ _ _ _ (by omega)).trans ((o3 _ (by omega)).trans e1))), ?_⟩⟩
      refine ⟨by simp, .inl ⟨_, (((Z0.putObj W8.heap.size (.deferred none)).putObj Y2.heap.size (.deferred none)).putObj Y1.heap.size (.deferred none)).putObj Y0.heap.size (.deferred none), rfl, run_takeDeferred ((p1 _ _ _ _ (by omega)).trans ((p1 _ _ _ _ (by omega)).trans ((p1 _ _ _ _ (by omega)).trans ((o3 _ (by omega)).trans e0)))), ?_⟩⟩
      have hr4 := (p1 _ Y0.heap.size (w.heap.size + 1) (.deferred none) (by omega)).trans ((p1 _ Y1.heap.size (w.heap.size + 1) (.deferred none) (by omega)).trans ((p1 _ Y2.heap.size (w.heap.size + 1) (.deferred none) (by omega)).trans ((p1 Z0 W8.heap.size (w.heap.size + 1) (.deferred none) (by omega)).trans hrs)))
      have hb4 := below_put2 (below_put2 (below_put2 (below_put2 hbl0 (D := W8.heap.size) (by omega) (.deferred none)) (D := Y2.heap.size) (by omega) (.deferred none)) (D := Y1.heap.size) (by omega) (.deferred none)) (D := Y0.heap.size) (by omega) (.deferred none)
      generalize (((Z0.putObj W8.heap.size (.deferred none)).putObj Y2.heap.size (.deferred none)).putObj Y1.heap.size (.deferred none)).putObj Y0.heap.size (.deferred none) = Z4 at *
      have l1 := (cell_blk hr4 0).1
      have hl1 : (loadVar 4 ⟨w.heap.size + 1, 0, none⟩).run Tryd.prog Z4 = .ok (.bool true) Z4 := by go_simp
      exact ⟨_, results_cell1 (show Tryd.f8.results = #[.cell 4 4] from Tryd.results8) _ _ _ _ _ rfl hl1, rfl, hb4⟩
end Go.Proofs.YtocjcbdkihbbiaaDoor

namespace Go.Proofs.YtocjcbdkihbbiaaDoor
open Go.RowKit Go.Shelf
attribute [local go_sem] Oper.semAt_some
attribute [local simp] wide_fn
attribute [local go_sem] wide_fn

set_option maxRecDepth 100000 in
set_option maxHeartbeats 8000000 in
theorem each_long (t : Bs) (pa : Option Addr) (c : Nat) (sp : Int) (w : World) (hll : 16777216 < t.length) (ht : t.length ≤ 140737488351232) (hc : t.length ≤ c) (hG : Glob w) (hR : Rb w pa t) :
    Calls Tryd.prog 8 #[.slice pa t.length c, .int .i64 sp] w fun e w' => e = .returned (.bool true) ∧ Below w.heap.size w w' := by
  have cL := hide (show ∀ W, Below w.heap.size w W → Calls Tryd.prog 27 #[.slice pa t.length c] W fun e w' => ∃ g qc, e = .returned (.slice (some ⟨g, 0, none⟩) t.length qc) ∧ t.length + 70 ≤ qc ∧ w'.ownsRow W.heap.size 5 1 (.slice (some ⟨g, 0, none⟩) (t.length + 70) qc) (t.length + 70) (encB (pad t 70)) ∧ Below W.heap.size W w' from fun W hb => by
    refine (lent_any t pa c W (by omega) (hR.later hb)).mono ?_
    rintro e w' ⟨qa, qc, rfl, ho, hb⟩
    have h1 := cap_le ho (by omega)
    obtain ⟨g, cap, e⟩ := ownsRow_succ ho
    cases e
    exact ⟨g, qc, rfl, h1, ho, hb⟩)
  have cR := hide (fun (W : World) (hb : Below w.heap.size w W) => rEach_any t pa c W hc (hR.later hb))
  have HR := hide hR
  obtain ⟨L, hL⟩ : ∃ L, t.length = L := ⟨_, rfl⟩
  rw [hL] at cL cR ⊢
  have HL := hide hL
  have HT := hide (show L ≤ 140737488351232 by omega)
  have HT1 := hide (show 16777216 < L by omega)
  have hN : (gx t).length = 0 := by unfold gx; rw [if_pos hll]; rfl
  rw [hN] at cR
  have HG := hide hG
  clear hL hR hc ht hN hG hll
  refine (callsIn_wide (n := 9)).1 ?_
  refine callsIn_of_wp_marks Tryd.func8 rfl trivial ?_ rfl
  simp only [Tryd.ntmps8, List.size_toArray, List.length_cons, List.length_nil, Nat.reduceAdd, Nat.reduceSub, Array.replicate_succ, Array.replicate_zero, List.push_toArray, List.append_toArray, List.nil_append, List.cons_append]
  have hnil := seq_nil 41
  gi_wp2_with (first
    | (gi_at_call 27; refine (callsIn_wide.2 (unhide cL _ (((Below.refl w.heap.size w).alloc (Nat.le_refl _) _).alloc (by simp) _))).mono ?_; rintro e w1 ⟨g, qc, rfl, hq, ho, hb⟩; have HQ := hide hq; have HO := hide ho; have HS1 := hide hb; have HB1 := hide ((((Below.refl w.heap.size w).alloc (Nat.le_refl _) _).alloc (by simp) _).trans (hb.mono (by simp; omega))); clear hq ho hb)
    | (gi_at_call 17; refine (callsIn_wide.2 (Each_L L _ _ w1 (unhide HT1))).mono ?_; rintro e w2 ⟨rfl, hw⟩; have HS2 := hide (show Below w1.heap.size w1 w2 by rw [hw]; exact Below.refl _ _); have HX2 := hide (show w2.heap.size = w1.heap.size by rw [hw]); clear hw)
    | (gi_at_call 28; refine (callsIn_wide.2 (unhide cR w2 (bl_t (unhide HB1) (unhide HS2)))).mono ?_; rintro e w3 ⟨wa, wc, vsw, rfl, hb, hd⟩; have HS3 := hide hb; have HD := hide hd; clear hb hd)
    | (gi_at_call 29; refine (callsIn_wide.2 (still_L t L (unhide HL) g 0 pa qc c (w3.alloc (.cells #[.slice wa 0 wc] 24)) (unhide HT) (unhide HQ) ((Rb.of_owns (t := pad t 70) (by rw [pad_len, unhide HL]; exact unhide HO)).2.later (bl_t (bl_t (unhide HS2) (unhide HS3)) ((Below.refl _ w3).alloc (Nat.le_refl _) _))) ((unhide HR).later (bl_t (bl_t (bl_t (unhide HB1) (unhide HS2)) (unhide HS3)) ((Below.refl _ w3).alloc (Nat.le_refl _) _))))).mono ?_; rintro e w5 ⟨rfl, hb⟩; have HS5 := hide hb; clear hb))
  have HEV := hide (show Ev w t sp g w1.heap.size w2.heap.size w3.heap.size wa wc 0 vsw w5 from by
    have z1 := (unhide HS1).size
    have z2 := unhide HX2
    have z3 := (unhide HS3).size
    have z5 := (unhide HS5).size
    have hg := (ownsRow_blk (unhide HO) (g := g) rfl).choose_spec.2
    simp only [World.size_alloc] at z1 z5 hg
    have k5 := unhide HS5
    have k4 : Below w3.heap.size w3 (w3.alloc (.cells #[.slice wa 0 wc] 24)) := (Below.refl _ w3).alloc (Nat.le_refl _) _
    have k3 := bl_t k4 k5
    have k2 := bl_t (unhide HS3) k3
    have k1 := bl_t (unhide HS2) k2
    have b1 : w1.heap[w.heap.size]? = some (.cells #[.int .i64 sp] 3 (0, 0)) := ((unhide HS1).block _ (by simp; omega)).trans ((Below.heap_alloc _ _ _ (by simp)).trans (World.alloc_heap_new w _))
    have b2 : w1.heap[w.heap.size + 1]? = some (.cells #[.bool false] 4 (0, 0)) := by
      refine ((unhide HS1).block _ (by simp)).trans ?_
      have := World.alloc_heap_new (w.alloc (.cells #[.int .i64 sp] 3)) (.cells #[.bool false] 4)
      rwa [World.size_alloc] at this
    refine ⟨bl_t (unhide HB1) k1, (k1.block _ (by omega)).trans b1, (k1.block _ (by omega)).trans b2, fun h => absurd h (by rw [unhide HL]; have := unhide HT1; omega), (k5.block _ (by simp)).trans (World.alloc_heap_new w3 _), (unhide HD).st k3, by omega⟩)
  have HGR := hide (show w5.ownsRow (w.heap.size + 2) 5 1 (.slice (some ⟨g, 0, none⟩) (L + 70) qc) (L + 70) (encB (pad t 70)) from by
    have h := ownsRow_below (ownsRow_below (ownsRow_below (ownsRow_below (unhide HO) (unhide HS2)) (unhide HS3)) ((Below.refl _ w3).alloc (Nat.le_refl _) (.cells #[.slice wa 0 wc] 24))) (unhide HS5)
    exact ownsRow_lower h (by simp))
  have HP0 := hide (show (pad t 70).length = L + 70 by rw [pad_len, unhide HL])
  clear HO HS1 HB1 HS2 HX2 HS3 HD HS5 cL cR hnil
  generalize pad t 70 = gt0 at *
  generalize w1.heap.size = Bk at *
  generalize w2.heap.size = nw at *
  generalize w3.heap.size = Bw at *
  gi_loopw [8] (fun iv wr => ∃ (k : Nat) (gt : Bs), k ≤ L ∧ iv = .int .i64 k ∧ Hid (gt.length = L + 70) ∧ Hid (wr.ownsRow (w.heap.size + 2) 5 1 (.slice (some ⟨g, 0, none⟩) (L + 70) qc) (L + 70) (encB gt)) ∧ Hid (Ev w t sp g Bk nw Bw wa wc 0 vsw wr)) (fun iv _ => L - (intOf iv).toNat)
  case atStart => exact ⟨0, gt0, Nat.zero_le _, rfl, HP0, HGR, HEV⟩
  case round =>
    clear HP0 HGR HEV
    obtain ⟨k, gt, hk, rfl, HLg, HO, HE⟩ := hrel
    have hLT := unhide HT
    by_cases hlt : k < L
    · obtain ⟨⟨y, ck⟩, fk, gt2, hg2, ho2⟩ := put_one (unhide HLg) (unhide HO) k hlt 122
      have HLg2 := hide hg2
      have HO2 := hide ho2
      have HE2 := hide ((unhide HE).set k (.int .u8 ((122 : UInt8).toNat : Int)))
      clear hg2 ho2 HLg HO HE
      have knz : (k : Int) < (L : Int) := by omega
      by_cases hk1 : k = 1
      · subst hk1
        obtain ⟨⟨y2, ck2⟩, fk2, gt3, hg3, ho3⟩ := put_one (unhide HLg2) (unhide HO2) 1 hlt 58
        have HLg3 := hide hg3
        have HO3 := hide ho3
        have HE3 := hide ((unhide HE2).set 1 (.int .u8 ((58 : UInt8).toNat : Int)))
        clear hg3 ho3 HLg2 HO2 HE2
        rw [show ((122 : UInt8).toNat : Int) = 122 from rfl] at *
        rw [show ((58 : UInt8).toNat : Int) = 58 from rfl] at *
        have knz1 : (1 : Int) < (L : Int) := by omega
        rw [show ((1 : Nat) : Int) = 1 from rfl]
        gi_wp2_with fail
        go_roundw
        case rel => exact ⟨2, gt3, by omega, rfl, HLg3, HO3, HE3⟩
        case measure => simp [intOf]; omega
      · have e1 : ((k : Int) == 1) = false := by simp; omega
        rw [show ((122 : UInt8).toNat : Int) = 122 from rfl] at *
        gi_wp2_with fail
        go_roundw
        case rel => exact ⟨k + 1, gt2, by omega, by go_num, HLg2, HO2, HE2⟩
        case measure => simp [intOf]; omega
    · obtain rfl : k = L := by omega
      gi_wp2_with fail
      obtain ⟨X0, hW0⟩ : ∃ W0, (wr.alloc (.cells #[.slice none 0 0] 24)).alloc (.cells #[.int .i64 0] 3) = W0 := ⟨_, rfl⟩
      rw [hW0]
      have hb0 : Below wr.heap.size wr X0 := by rw [← hW0]; exact ((Below.refl _ wr).alloc (Nat.le_refl _) _).alloc (by simp) _
      have hz0 : wr.heap.size + 2 ≤ X0.heap.size := by rw [← hW0]; simp
      have HL0 := hide (show X0.heap[wr.heap.size]? = some (.cells #[.slice none 0 0] 24 (0, 0)) by rw [← hW0]; exact (Below.heap_alloc _ _ _ (by simp)).trans (World.alloc_heap_new wr _))
      have HT0 := hide (show X0.heap[wr.heap.size + 1]? = some (.cells #[.int .i64 0] 3 (0, 0)) by
        rw [← hW0]
        have := World.alloc_heap_new (wr.alloc (.cells #[.slice none 0 0] 24)) (.cells #[.int .i64 0] 3)
        rwa [World.size_alloc] at this)
      have hBw : Bw < wr.heap.size := (unhide HE).o.2.2.2.2
      have hBwg : w.heap.size < Bw := by have := (unhide HE).o; omega
      have HPK0 := hide (show Pk w t sp g Bk nw Bw wa wc 0 vsw qc k gt wr.heap.size [] X0.heap.size X0 from ⟨(unhide HE).later hb0, ownsRow_below (unhide HO) hb0, fun d hd => (by cases hd), hBw, by omega, Nat.le_refl _⟩)
      have hlt0 : wr.heap.size < wr.heap.size + 1 := by omega
      have hTX0 : wr.heap.size + 1 < X0.heap.size := by omega
      clear hW0 hb0 HE HO hz0
      generalize wr.heap.size + 1 = T0 at *
      generalize wr.heap.size = Bl at *
      refine wpIn_loop_rounds 4 ?_
      rw [roundsIn_succ]
      have ct := (cell_blk (unhide HT0) 0).1
      gi_wp2_with fail
      clear ct
      obtain ⟨Y0, hY⟩ : ∃ Y, X0.alloc (.cells #[.int .i64 0] 3) = Y := ⟨_, rfl⟩
      rw [hY]
      have hbY : Below X0.heap.size X0 Y0 := by rw [← hY]; exact (Below.refl _ X0).alloc (Nat.le_refl _) _
      have hBY0 : X0.heap.size < Y0.heap.size := by rw [← hY]; simp
      have hnY : Y0.heap[X0.heap.size]? = some (.cells #[.int .i64 0] 3 (0, 0)) := by rw [← hY]; exact World.alloc_heap_new X0 _
      have HPY0 := hide ((unhide HPK0).next (Env.bel hbY) hbY.size (fun k hk _ => hbY.block k hk) X0.heap.size (Nat.le_refl _) hbY.size)
      have HTY0 := hide ((hbY.block _ hTX0).trans (unhide HT0))
      have HLY0 := hide ((hbY.block _ (by omega)).trans (unhide HL0))
      have hBB0 : Bl < X0.heap.size := by omega
      clear hY hbY HPK0 HT0 HL0
      generalize X0.heap.size = N0 at *
      refine rangeFunc_e1 (by decide) rfl ?fi0
      case' fi0 => intro W0 heW hzW hfr hDf
      have HPW := hide (((unhide HPY0).next heW (by omega) (fun k hk _ => hfr k (by omega)) W0.heap.size (by omega) (Nat.le_refl _)).add Y0.heap.size hDf (by omega) (by omega) (by have := (unhide HPY0).ev.bel.size; omega))
      have HTW := hide ((hfr T0 (by omega)).trans (unhide HTY0))
      have HLW := hide ((hfr Bl (by omega)).trans (unhide HLY0))
      have ct := (cell_blk (unhide HTW) 0).1
      have cn := (cell_blk ((hfr N0 (by omega)).trans hnY) 0).1
      have cw := (cell_blk (unhide HPW).ev.wb 0).1
      have hDfl : Y0.heap.size < W0.heap.size := by omega
      clear hfr hDf HPY0 HTY0 HLY0 heW hnY
      gi_wp2_with fail
      clear ct cn cw
      obtain ⟨X1, hX⟩ : ∃ X, W0.alloc (.cells #[.int .i64 1] 3) = X := ⟨_, rfl⟩
      rw [hX]
      have hbX : Below W0.heap.size W0 X1 := by rw [← hX]; exact (Below.refl _ W0).alloc (Nat.le_refl _) _
      have hTX1 : W0.heap.size < X1.heap.size := by rw [← hX]; simp
      have HT1 := hide (show X1.heap[W0.heap.size]? = some (.cells #[.int .i64 1] 3 (0, 0)) by rw [← hX]; exact World.alloc_heap_new W0 _)
      have HPK1 := hide ((unhide HPW).later hbX)
      have HL1 := hide ((hbX.block Bl (by omega)).trans (unhide HLW))
      have hbT1 : Bl < W0.heap.size := by omega
      clear hX hbX HPW HTW HLW
      generalize W0.heap.size = T1 at *
      rw [roundsIn_succ]
      have ct := (cell_blk (unhide HT1) 0).1
      gi_wp2_with fail
      clear ct
      obtain ⟨Y1, hY⟩ : ∃ Y, X1.alloc (.cells #[.int .i64 0] 3) = Y := ⟨_, rfl⟩
      rw [hY]
      have hbY : Below X1.heap.size X1 Y1 := by rw [← hY]; exact (Below.refl _ X1).alloc (Nat.le_refl _) _
      have hBY1 : X1.heap.size < Y1.heap.size := by rw [← hY]; simp
      have hnY : Y1.heap[X1.heap.size]? = some (.cells #[.int .i64 0] 3 (0, 0)) := by rw [← hY]; exact World.alloc_heap_new X1 _
      have HPY1 := hide ((unhide HPK1).next (Env.bel hbY) hbY.size (fun k hk _ => hbY.block k hk) X1.heap.size (Nat.le_refl _) hbY.size)
      have HTY1 := hide ((hbY.block _ hTX1).trans (unhide HT1))
      have HLY1 := hide ((hbY.block _ (by omega)).trans (unhide HL1))
      have hBB1 : Bl < X1.heap.size := by omega
      clear hY hbY HPK1 HT1 HL1
      generalize X1.heap.size = N1 at *
      refine rangeFunc_e1 (by decide) rfl ?fi1
      case' fi1 => intro W1 heW hzW hfr hDf
      have HPW := hide (((unhide HPY1).next heW (by omega) (fun k hk _ => hfr k (by omega)) W1.heap.size (by omega) (Nat.le_refl _)).add Y1.heap.size hDf (by omega) (by omega) (by have := (unhide HPY1).ev.bel.size; omega))
      have HTW := hide ((hfr T1 (by omega)).trans (unhide HTY1))
      have HLW := hide ((hfr Bl (by omega)).trans (unhide HLY1))
      have ct := (cell_blk (unhide HTW) 0).1
      have cn := (cell_blk ((hfr N1 (by omega)).trans hnY) 0).1
      have cw := (cell_blk (unhide HPW).ev.wb 0).1
      have hDfl : Y1.heap.size < W1.heap.size := by omega
      clear hfr hDf HPY1 HTY1 HLY1 heW hnY
      gi_wp2_with fail
      clear ct cn cw
      obtain ⟨X2, hX⟩ : ∃ X, W1.alloc (.cells #[.int .i64 2] 3) = X := ⟨_, rfl⟩
      rw [hX]
      have hbX : Below W1.heap.size W1 X2 := by rw [← hX]; exact (Below.refl _ W1).alloc (Nat.le_refl _) _
      have hTX2 : W1.heap.size < X2.heap.size := by rw [← hX]; simp
      have HT2 := hide (show X2.heap[W1.heap.size]? = some (.cells #[.int .i64 2] 3 (0, 0)) by rw [← hX]; exact World.alloc_heap_new W1 _)
      have HPK2 := hide ((unhide HPW).later hbX)
      have HL2 := hide ((hbX.block Bl (by omega)).trans (unhide HLW))
      have hbT2 : Bl < W1.heap.size := by omega
      clear hX hbX HPW HTW HLW
      generalize W1.heap.size = T2 at *
      rw [roundsIn_succ]
      have ct := (cell_blk (unhide HT2) 0).1
      gi_wp2_with fail
      clear ct
      obtain ⟨Y2, hY⟩ : ∃ Y, X2.alloc (.cells #[.int .i64 0] 3) = Y := ⟨_, rfl⟩
      rw [hY]
      have hbY : Below X2.heap.size X2 Y2 := by rw [← hY]; exact (Below.refl _ X2).alloc (Nat.le_refl _) _
      have hBY2 : X2.heap.size < Y2.heap.size := by rw [← hY]; simp
      have hnY : Y2.heap[X2.heap.size]? = some (.cells #[.int .i64 0] 3 (0, 0)) := by rw [← hY]; exact World.alloc_heap_new X2 _
      have HPY2 := hide ((unhide HPK2).next (Env.bel hbY) hbY.size (fun k hk _ => hbY.block k hk) X2.heap.size (Nat.le_refl _) hbY.size)
      have HTY2 := hide ((hbY.block _ hTX2).trans (unhide HT2))
      have HLY2 := hide ((hbY.block _ (by omega)).trans (unhide HL2))
      have hBB2 : Bl < X2.heap.size := by omega
      clear hY hbY HPK2 HT2 HL2
      generalize X2.heap.size = N2 at *
      refine rangeFunc_e1 (by decide) rfl ?fi2
      case' fi2 => intro W2 heW hzW hfr hDf
      have HPW := hide (((unhide HPY2).next heW (by omega) (fun k hk _ => hfr k (by omega)) W2.heap.size (by omega) (Nat.le_refl _)).add Y2.heap.size hDf (by omega) (by omega) (by have := (unhide HPY2).ev.bel.size; omega))
      have HTW := hide ((hfr T2 (by omega)).trans (unhide HTY2))
      have HLW := hide ((hfr Bl (by omega)).trans (unhide HLY2))
      have ct := (cell_blk (unhide HTW) 0).1
      have cn := (cell_blk ((hfr N2 (by omega)).trans hnY) 0).1
      have cw := (cell_blk (unhide HPW).ev.wb 0).1
      have hDfl : Y2.heap.size < W2.heap.size := by omega
      clear hfr hDf HPY2 HTY2 HLY2 heW hnY
      gi_wp2_with fail
      clear ct cn cw
      obtain ⟨X3, hX⟩ : ∃ X, W2.alloc (.cells #[.int .i64 3] 3) = X := ⟨_, rfl⟩
      rw [hX]
      have hbX : Below W2.heap.size W2 X3 := by rw [← hX]; exact (Below.refl _ W2).alloc (Nat.le_refl _) _
      have hTX3 : W2.heap.size < X3.heap.size := by rw [← hX]; simp
      have HT3 := hide (show X3.heap[W2.heap.size]? = some (.cells #[.int .i64 3] 3 (0, 0)) by rw [← hX]; exact World.alloc_heap_new W2 _)
      have HPK3 := hide ((unhide HPW).later hbX)
      have HL3 := hide ((hbX.block Bl (by omega)).trans (unhide HLW))
      have hbT3 : Bl < W2.heap.size := by omega
      clear hX hbX HPW HTW HLW
      generalize W2.heap.size = T3 at *
      rw [roundsIn_succ]
      have ct := (cell_blk (unhide HT3) 0).1
      have cl := (cell_blk (unhide HL3) 0).1
      have cw := (cell_blk (unhide HPK3).ev.wb 0).1
      have hu : (gt.take k).length = k := by rw [List.length_take, unhide HLg]; omega
      have cC := hide (fun (W : World) (h : W.ownsRow (w.heap.size + 2) 5 1 (.slice (some ⟨g, 0, none⟩) (k + 70) qc) (k + 70) (encB gt)) => turned_rb2 (unhide HLg) h)
      generalize gt.take k = u at *
      have HU := hide hu
      have hM : (gx u).length = 0 := by unfold gx; rw [if_pos (by rw [hu]; exact unhide HT1)]; rfl
      have cD := hide (fun (W : World) (qa : Option Addr) (qd : Nat) (h1 : k ≤ qd) (h2 : Rb W qa u) => (show Calls Tryd.prog 28 #[.slice qa k qd] W fun e w' => ∃ va vc vs, e = .returned (.slice va 0 vc) ∧ Below W.heap.size W w' ∧ RD W.heap.size w' (.slice va 0 vc) (gx u) vs from by
        have h := rEach_any u qa qd W (by rw [hu]; exact h1) h2
        rw [hu, hM] at h
        exact h))
      have cE := hide (fun (W : World) (h : Rb W (some ⟨g, 0, none⟩) u) => (show Calls Tryd.prog 12 #[.slice (some ⟨g, 0, none⟩) k qc] W fun e w' => ∃ va vc, e = .returned (.slice va k vc) ∧ k ≤ vc ∧ Rb w' va u ∧ Below W.heap.size W w' from by
        have h5 := copied_wide u (some ⟨g, 0, none⟩) qc W (by rw [hu]; exact unhide HT) h
        rw [hu] at h5
        refine h5.mono ?_
        rintro e w' ⟨va, vc, h1, h2, h3⟩
        refine ⟨va, vc, h1, ?_, (Rb.of_owns (t := u) (by rw [hu]; exact h2)).2, h3⟩
        rcases Nat.eq_zero_or_pos k with h0 | h0
        · omega
        · exact cap_le h2 h0))
      clear hu hM
      gi_wp2_with (first
        | (gi_at_call 26; refine (callsIn_wide.2 (alike_0 _ _ _ _ X3)).mono ?_; rintro e W4 ⟨rfl, hb⟩; have HPK4 := hide ((unhide HPK3).later hb); have HL4 := hide ((hb.block Bl (by omega)).trans (unhide HL3)); have cl4 := (cell_blk (unhide HL4) 0).1; clear hb)
        | (gi_at_call 30; refine (callsIn_wide.2 (spoil_nil 0 none W4)).mono ?_; rintro e W5 ⟨rfl, hw5⟩; have HPK5 := hide (show Pk w t sp g Bk nw Bw wa wc 0 vsw qc k gt Bl [Y2.heap.size, Y1.heap.size, Y0.heap.size] W5.heap.size W5 by rw [hw5]; exact unhide HPK4); clear hw5)
        | (gi_at_call 12; refine (callsIn_wide.2 (unhide cE W5 (unhide cC W5 (unhide HPK5).gr))).mono ?_; rintro e W6 ⟨qa, qd, rfl, h1, h2, hb⟩; have HQD := hide h1; have HTU := hide h2; have HPK6 := hide ((unhide HPK5).later hb); clear h1 h2 hb)
        | (gi_at_call 28; refine (callsIn_wide.2 (unhide cD W6 qa qd (unhide HQD) (unhide HTU))).mono ?_; rintro e W7 ⟨na, nc, vsu, rfl, hb, hd⟩; have HPK7 := hide ((unhide HPK6).later hb); have HDU := hide hd; clear hb hd)
        | (gi_at_call 17; refine (callsIn_wide.2 (Each_L k _ _ ((W7.alloc (.cells #[.slice na 0 nc] 24)).alloc (.cells #[.int .i64 0] 3)) (unhide HT1))).mono ?_; rintro e W8 ⟨rfl, hw⟩; have HW8 := hide hw; clear hw))
      have b8 : Below W7.heap.size W7 W8 := by rw [unhide HW8]; exact ((Below.refl _ W7).alloc (Nat.le_refl _) _).alloc (by simp) _
      have x1 : W8.heap[W7.heap.size]? = some (.cells #[.slice na 0 nc] 24 (0, 0)) := by rw [unhide HW8]; exact (Below.heap_alloc _ _ _ (by simp)).trans (World.alloc_heap_new W7 _)
      have x2 : W8.heap[W7.heap.size + 1]? = some (.cells #[.int .i64 0] 3 (0, 0)) := by
        rw [unhide HW8]
        have := World.alloc_heap_new (W7.alloc (.cells #[.slice na 0 nc] 24)) (.cells #[.int .i64 0] 3)
        rwa [World.size_alloc] at this
      have h8 : W7.heap.size + 1 < W8.heap.size := (Array.getElem?_eq_some_iff.1 x2).1
      have HP8 := hide ((unhide HPK7).next (Env.bel b8) b8.size (fun q hq _ => b8.block q hq) W7.heap.size (Nat.le_refl _) b8.size)
      have HX1 := hide x1
      have h67 : Bw < W7.heap.size := by have := (unhide HPK7).o; omega
      have hBl7 : Bl < W7.heap.size := by have := (unhide HPK7).o; omega
      clear HW8 b8 HDU HPK7 HPK6 HPK5 HPK4 HPK3 x1
      generalize W7.heap.size = B7 at *
      refine rangeFunc_e1 (by decide) rfl ?fi3
      case' fi3 => intro W9 heW hzW hfr hDf
      have HPW := hide (((unhide HP8).next heW (by omega) (fun q hq _ => hfr q (by omega)) W9.heap.size (by omega) (Nat.le_refl _)).add W8.heap.size hDf (by omega) (by omega) (by have := (unhide HP8).ev.bel.size; omega))
      have cn := (cell_blk ((hfr (B7 + 1) (by omega)).trans x2) 0).1
      have cw := (cell_blk ((hfr B7 (by omega)).trans (unhide HX1)) 0).1
      have cr := (cell_blk (unhide HPW).ev.rs 0).1
      have fr := (cell_blk (unhide HPW).ev.rs 0).2
      have hd2 : Y2.heap.size < B7 := ((unhide HP8).ds _ (by simp)).1
      clear hfr hDf HP8 heW HX1 x2
      gi_wp2_with fail
      have hrs := set_blk (unhide HPW).ev.rs 0 (.bool true)
      have hbl0 : Below w.heap.size w (W9.setCell ⟨w.heap.size + 1, 0, none⟩ (.bool true)) := (unhide HPW).ev.bel.setCell (by show w.heap.size ≤ w.heap.size + 1; omega) _
      have e3 := ((unhide HPW).ds W8.heap.size (by simp)).2.2.2
      have e2 := ((unhide HPW).ds Y2.heap.size (by simp)).2.2.2
      have e1 := ((unhide HPW).ds Y1.heap.size (by simp)).2.2.2
      have e0 := ((unhide HPW).ds Y0.heap.size (by simp)).2.2.2
      have o3 : ∀ q, q ≠ w.heap.size + 1 → (W9.setCell ⟨w.heap.size + 1, 0, none⟩ (.bool true)).heap[q]? = W9.heap[q]? := fun q hq => set_other _ _ _ _ _ hq
      clear cn cw cr fr
      generalize W9.setCell ⟨w.heap.size + 1, 0, none⟩ (.bool true) = Z0 at *
      have p1 : ∀ (Z : World) (D q : Nat) (o : Obj), q ≠ D → (Z.putObj D o).heap[q]? = Z.heap[q]? := fun Z D q o hq => World.putObj_heap_other hq
      have hbz := (unhide HPW).ev.o
      refine ⟨by simp, .inl ⟨_, Z0.putObj W8.heap.size (.deferred none), rfl, run_takeDeferred ((o3 _ (by omega)).trans e3), ?_⟩⟩
      refine ⟨by simp, .inl ⟨_, (Z0.putObj W8.heap.size (.deferred none)).putObj Y2.heap.size (.deferred none), rfl, run_takeDeferred ((p1 _ _ _ _ (by omega)).trans ((o3 _ (by omega)).trans e2)), ?_⟩⟩
      refine ⟨by simp, .inl ⟨_, ((Z0.putObj W8.heap.size (.deferred none)).putObj Y2.heap.size (.deferred none)).putObj Y1.heap.size (.deferred none), rfl, run_takeDeferred ((p1 _ _ _ _ (by omega)).trans ((p1 _ _ _ _ (by omega)).trans ((o3 _ (by omega)).trans e1))), ?_⟩⟩
      refine ⟨by simp, .inl ⟨_, (((Z0.putObj W8.heap.size (.deferred none)).putObj Y2.heap.size (.deferred none)).putObj Y1.heap.size (.deferred none)).putObj Y0.heap.size (.deferred none), rfl, run_takeDeferred ((p1 _ _ _ _ (by omega)).trans ((p1 _ _ _ _ (by omega)).trans ((p1 _ _ _ _ (by omega)).trans ((o3 _ (by omega)).trans e0)))), ?_⟩⟩
      have hr4 := (p1 _ Y0.heap.size (w.heap.size + 1) (.deferred none) (by omega)).trans ((p1 _ Y1.heap.size (w.heap.size + 1) (.deferred none) (by omega)).trans ((p1 _ Y2.heap.size (w.heap.size + 1) (.deferred none) (by omega)).trans ((p1 Z0 W8.heap.size (w.heap.size + 1) (.deferred none) (by omega)).trans hrs)))
      have hb4 := below_put2 (below_put2 (below_put2 (below_put2 hbl0 (D := W8.heap.size) (by omega) (.deferred none)) (D := Y2.heap.size) (by omega) (.deferred none)) (D := Y1.heap.size) (by omega) (.deferred none)) (D := Y0.heap.size) (by omega) (.deferred none)
      generalize (((Z0.putObj W8.heap.size (.deferred none)).putObj Y2.heap.size (.deferred none)).putObj Y1.heap.size (.deferred none)).putObj Y0.heap.size (.deferred none) = Z4 at *
      have l1 := (cell_blk hr4 0).1
      have hl1 : (loadVar 4 ⟨w.heap.size + 1, 0, none⟩).run Tryd.prog Z4 = .ok (.bool true) Z4 := by go_simp
      exact ⟨_, results_cell1 (show Tryd.f8.results = #[.cell 4 4] from Tryd.results8) _ _ _ _ _ rfl hl1, rfl, hb4⟩
theorem each_all (t : Bs) (pa : Option Addr) (c : Nat) (sp : Int) (w : World) (ht : t.length ≤ 140737488351232) (hc : t.length ≤ c) (hG : Glob w) (hR : Rb w pa t) :
    Calls Tryd.prog 8 #[.slice pa t.length c, .int .i64 sp] w fun e w' => e = .returned (.bool true) ∧ Below w.heap.size w w' := by
  by_cases h : t.length ≤ 16777216
  · exact each_walk t pa c sp w h hc hG hR
  · exact each_long t pa c sp w (by omega) ht hc hG hR
end Go.Proofs.YtocjcbdkihbbiaaDoor

