import Derived.Test.YtpakhjbaniapnaaKsW
namespace Go.Proofs.Ytpakhjbaniapnaa
open Go.RowKit

theorem PkC.five {cs : List Value} {p : Pk} {d r c v f : Value} (h : PkC cs p d r c v f) (d2 r2 c2 v2 f2 : Value) : PkC (((((cs.set 3 d2).set 4 r2).set 5 c2).set 6 v2).set 7 f2) p d2 r2 c2 v2 f2 := by
  have hl := h.len
  have g : ∀ (i : Nat) x, cs[i]? = some x → i ≠ 3 → i ≠ 4 → i ≠ 5 → i ≠ 6 → i ≠ 7 → (((((cs.set 3 d2).set 4 r2).set 5 c2).set 6 v2).set 7 f2)[i]? = some x := fun i x hx h3 h4 h5 h6 h7 => by
    rw [List.getElem?_set_ne (Ne.symm h7), List.getElem?_set_ne (Ne.symm h6), List.getElem?_set_ne (Ne.symm h5), List.getElem?_set_ne (Ne.symm h4), List.getElem?_set_ne (Ne.symm h3)]
    exact hx
  constructor
  · simp [hl]
  · exact g 0 _ h.c0 (by decide) (by decide) (by decide) (by decide) (by decide)
  · exact g 1 _ h.c1 (by decide) (by decide) (by decide) (by decide) (by decide)
  · exact g 2 _ h.c2 (by decide) (by decide) (by decide) (by decide) (by decide)
  · simp [hl]
  · simp [hl]
  · simp [hl]
  · simp [hl]
  · simp [hl]
  · exact g 8 _ h.c8 (by decide) (by decide) (by decide) (by decide) (by decide)
  · exact g 9 _ h.c9 (by decide) (by decide) (by decide) (by decide) (by decide)
  · exact fun j x hj => g (10 + j) _ (h.cs0 j x hj) (by omega) (by omega) (by omega) (by omega) (by omega)
  · exact g 42 _ h.c42 (by decide) (by decide) (by decide) (by decide) (by decide)

set_option maxRecDepth 100000 in
set_option maxHeartbeats 8000000 in
theorem copied_any (p : Pk) (cs : List Value) (d r c v f : Value) (w : World) (h1 : PkC cs p d r c v f) (ho : ∀ x ∈ cs, x.oneCell' = true) (l1 : PkL w p d r c v f) (hs : Sm p) :
    Calls Try.prog 4 #[.agg cs.toArray] w fun e w' => ∃ qs d2 r2 c2 v2 f2, e = .returned (.agg qs.toArray) ∧ (∀ x ∈ qs, x.oneCell' = true) ∧ PkC qs p d2 r2 c2 v2 f2 ∧ PkL w' p d2 r2 c2 v2 f2 ∧ PkM w' p d2 r2 c2 v2 f2 ∧ Below w.heap.size w w' := by
  obtain ⟨xa5, xc5, rfl⟩ := l1.cl.shape
  obtain ⟨xa6, xc6, rfl⟩ := l1.vl.shape
  obtain ⟨xa7, xc7, rfl⟩ := l1.fl.shape
  have H1 := hide h1
  have HO := hide ho
  have L1 := hide l1
  have cD := hide (fun (W : World) (hb : Below w.heap.size w W) => clauses_any p.dp d W (l1.dl.later hb) hs.d.1 hs.d.2)
  have cR := hide (fun (W : World) (hb : Below w.heap.size w W) => clauses_any p.pr r W (l1.rl.later hb) hs.r.1 hs.r.2)
  go_enter Try.func4, Try.ntmps4
  go_wp2_with (first
    | (with_reducible refine p_box cs h1.len ho _ rfl rfl rfl ?_; intro w1 b1 k1 z1)
    | (with_reducible refine p_alloc rfl rfl ?_; first | (intro w2 zc b2 k2 z2; guard_hyp k2 : Below w1.heap.size w1 w2) | (intro w3 zd b3 k3 z3))
    | (with_reducible refine p_load _ rfl rfl w.heap.size rfl _ (b1.later k2) ?_)
    | (with_reducible refine p_store _ _ rfl rfl w2.heap.size rfl cs rfl h1.len ho zd b3 ?_; intro w4 b4 o4 k4 z4; have CS4 := hide (show Cs w w4 cs cs from ⟨(bl_t (bl_t k1 k2) k3).trans (k4 _ (by omega)), by omega, ((b1.later k2).later k3).of (o4 _ (by omega)), ⟨_, ((show BkP w2 (w.heap.size + 1) zc from z1 ▸ b2).later k3).of (o4 _ (by omega))⟩, by rw [show w.heap.size + 1 + 1 = w2.heap.size by omega]; exact b4⟩); have e3 := (unhide CS4).pb.cell h1.c3; simp only [z2, z1]; clear b1 b2 b3 b4 k1 k2 k3 k4 o4 z1 z2 z3 z4 h1 ho l1))
  refine (unhide cD w4 (unhide CS4).bel).mono ?_
  rintro e w5 ⟨d2, rfl, nd5, hb5⟩
  obtain ⟨da, dc, rfl⟩ := (nd5.here).1.shape
  have ND5 := hide (nd5.mono (N' := w.heap.size + 1 + 1 + 1) (unhide CS4).big)
  have CS5 := hide ((unhide CS4).later hb5)
  clear nd5 hb5 CS4 e3 cD
  go_wp2_with (first
    | (with_reducible refine p_set 22 _ _ rfl rfl (w.heap.size + 1 + 1) 3 rfl _ (stL _ _ _ _ _ _) rfl rfl _ (unhide CS5).qb (by omega) ?_; intro w6 b6 o6 k6 z6; have CS6 := hide ((unhide CS5).put b6 o6 k6 z6); have ND6 := hide ((unhide ND5).put (Nat.le_refl _) o6 z6); have e4 := (unhide CS6).pb.cell (unhide H1).c4; clear b6 o6 k6 z6))
  refine (unhide cR w6 (unhide CS6).bel).mono ?_
  rintro e w7 ⟨r2, rfl, nr7, hb7⟩
  obtain ⟨ra, rc, rfl⟩ := (nr7.here).1.shape
  have NR7 := hide (nr7.mono (N' := w.heap.size + 1 + 1 + 1) (unhide CS6).big)
  have ND7 := hide ((unhide ND6).bel hb7)
  have CS7 := hide ((unhide CS6).later hb7)
  clear nr7 hb7 CS5 CS6 ND5 ND6 e4 cR
  go_wp2_with (first
    | (with_reducible refine p_set 22 _ _ rfl rfl (w.heap.size + 1 + 1) 4 rfl _ (stL _ _ _ _ _ _) rfl rfl _ (unhide CS7).qb (by omega) ?_; intro w8 b8 o8 k8 z8; have CS8 := hide ((unhide CS7).put b8 o8 k8 z8); have ND8 := hide ((unhide ND7).put (Nat.le_refl _) o8 z8); have NR8 := hide ((unhide NR7).put (Nat.le_refl _) o8 z8); clear b8 o8 k8 z8))
  refine reg4 _ _ _ _ _ _ _ _ _ _ _ _ _ _ _ _ _ _ _ _ _ _ _ _ _ _ _ _ _ _ _ _ _ _ _ _ _ _ _ _ _ _ _ _ _ _ _ _ w _ _ _ (unhide CS8) _ _ _ ((unhide H1).c5) p.cf rfl ((unhide L1).cl.later (unhide CS8).bel) hs.c ?hp1 ?hq1
  case hp1 => intro x a d v w h; cases d <;> exact h
  rintro w9 t1 t2 t3 g5 cap5 ⟨cs9, nc9, kp9, z9⟩
  have CS9 := hide cs9
  have ND9 := hide ((unhide ND8).go (fun k h1 h2 => kp9 k h2 (by omega)) z9)
  have NR9 := hide ((unhide NR8).go (fun k h1 h2 => kp9 k h2 (by omega)) z9)
  have NC9 := hide nc9
  clear cs9 nc9 kp9 z9 CS7 CS8 ND7 ND8 NR7 NR8
  go_wp2_with fail
  refine reg5 _ _ _ _ _ _ _ _ _ _ _ _ _ _ _ _ _ _ _ _ _ _ _ _ _ _ _ _ _ _ _ _ _ _ _ _ _ _ _ _ _ _ _ _ _ _ _ _ w _ _ _ (unhide CS9) _ _ _ ((unhide H1).c6) p.pv rfl ((unhide L1).vl.later (unhide CS9).bel) hs.v ?hp2 ?hq2
  case hp2 => intro x a d v w h; cases d <;> exact h
  rintro w10 t4 t5 t6 g6 cap6 ⟨cs10, nv10, kp10, z10⟩
  have CS10 := hide cs10
  have ND10 := hide ((unhide ND9).go (fun k h1 h2 => kp10 k h2 (by omega)) z10)
  have NR10 := hide ((unhide NR9).go (fun k h1 h2 => kp10 k h2 (by omega)) z10)
  have NC10 := hide ((unhide NC9).go (fun k h1 h2 => kp10 k h2 (by omega)) z10)
  have NV10 := hide nv10
  clear cs10 nv10 kp10 z10 CS9 ND9 NR9 NC9
  go_wp2_with fail
  refine reg6 _ _ _ _ _ _ _ _ _ _ _ _ _ _ _ _ _ _ _ _ _ _ _ _ _ _ _ _ _ _ _ _ _ _ _ _ _ _ _ _ _ _ _ _ _ _ _ _ w _ _ _ (unhide CS10) _ _ _ ((unhide H1).c7) p.fs rfl ((unhide L1).fl.later (unhide CS10).bel) hs.f hs.fo ?hp3 ?hq3
  case hp3 => intro x a d v w h; cases d <;> exact h
  rintro w11 t7 t8 t9 g7 cap7 ⟨cs11, nf11, kp11, z11⟩
  have CS11 := hide cs11
  have ND11 := hide ((unhide ND10).go (fun k h1 h2 => kp11 k h2 (by omega)) z11)
  have NR11 := hide ((unhide NR10).go (fun k h1 h2 => kp11 k h2 (by omega)) z11)
  have NC11 := hide ((unhide NC10).go (fun k h1 h2 => kp11 k h2 (by omega)) z11)
  have NV11 := hide ((unhide NV10).go (fun k h1 h2 => kp11 k h2 (by omega)) z11)
  have NF11 := hide nf11
  clear cs11 nf11 kp11 z11 CS10 ND10 NR10 NC10 NV10
  have QC := hide (unhide H1).five
  generalize hqs : ((((cs.set 3 (Value.slice da p.dp.length dc)).set 4 (Value.slice ra p.pr.length rc)).set 5 (Value.slice (some ⟨g5, 0, none⟩) p.cf.length cap5)).set 6 (Value.slice (some ⟨g6, 0, none⟩) p.pv.length cap6)).set 7 (Value.slice (some ⟨g7, 0, none⟩) p.fs.length cap7) = qs at *
  obtain ⟨zc, hzc⟩ := (unhide CS11).zb
  have ZB := hide hzc
  clear hzc
  go_wp2_with (first
    | (with_reducible refine p_load _ rfl rfl (w.heap.size + 1 + 1) rfl _ (unhide CS11).qb ?_)
    | (with_reducible refine p_store _ _ rfl rfl (w.heap.size + 1) rfl qs rfl (unhide CS11).qb.len (unhide CS11).qb.one zc (unhide ZB) ?_; intro w12 b12 o12 k12 z12))
  have hN : ∀ k, w.heap.size + 1 + 1 + 1 ≤ k → k < w11.heap.size → w12.heap[k]? = w11.heap[k]? := fun k h1 _ => o12 k (by omega)
  have hz : w11.heap.size ≤ w12.heap.size := by omega
  refine bodyPost_ret (v := .agg qs.toArray) (ret_cellP rfl _ _ (w.heap.size + 1) qs rfl b12) rfl ⟨qs, _, _, _, _, _, rfl, b12.one, hqs ▸ unhide QC _ _ _ _ _, ?_, ?_, (unhide CS11).bel.trans (k12 _ (by omega))⟩
  · exact ⟨(unhide ND11 w12 hN hz).1, (unhide NR11 w12 hN hz).1, (unhide NC11 w12 hN hz).1, (unhide NV11 w12 hN hz).1, (unhide NF11 w12 hN hz).1, (unhide L1).sl⟩
  · exact ⟨(unhide ND11 w12 hN hz).2, (unhide NR11 w12 hN hz).2, (unhide NC11 w12 hN hz).2, (unhide NV11 w12 hN hz).2, (unhide NF11 w12 hN hz).2⟩

end Go.Proofs.Ytpakhjbaniapnaa
