import Derived.Test.YtabjbppekijfiaaLwG
namespace Go.Proofs.Ytabjbppekijfiaa
open Go.RowKit
attribute [local go_sem ↓] Go.wp_at_zero Go.wp_at_succ

/-- WHAT STANDS BEHIND THE FIRST SOLVE. -/
structure Fs (w : World) (rb l : Nat) (g : Option Addr) (v : Int) (S : Nat) (tr : List Int) (W : World) : Prop where
  bel : Below w.heap.size w W
  blk : W.heap[rb]? = some (.cells #[.int .i64 v, .slice g l l, .int .i64 (S : Int)] 29 (0, 0))
  rt : Rt W g l (mv tr)
theorem Fs.later {w : World} {rb l : Nat} {g : Option Addr} {v : Int} {S : Nat} {tr : List Int} {W W2 : World} (h : Fs w rb l g v S tr W) (hb : Below W.heap.size W W2) : Fs w rb l g v S tr W2 := ⟨bl_t h.bel hb, (hb.block _ (blk_lt h.blk)).trans h.blk, h.rt.later hb⟩
theorem Fs.new {w w5 : World} {l : Nat} {g : Option Addr} {v : Int} {S : Nat} {tr : List Int} (hb : Below w.heap.size w w5) (hr : Rt w5 g l (mv tr)) : Fs w w5.heap.size l g v S tr (w5.alloc (.cells #[.int .i64 v, .slice g l l, .int .i64 (S : Int)] 29)) :=
  have hba : Below w5.heap.size w5 (w5.alloc (.cells #[.int .i64 v, .slice g l l, .int .i64 (S : Int)] 29)) := (Below.refl w5.heap.size w5).alloc (Nat.le_refl _) _
  ⟨bl_t hb hba, heap_new _ _, hr.later hba⟩
theorem Fs.cells {w : World} {rb l : Nat} {g : Option Addr} {v : Int} {S : Nat} {tr : List Int} {W : World} (h : Fs w rb l g v S tr W) : W.cell? ⟨rb, 0, none⟩ = some (.int .i64 v) ∧ W.cell? ⟨rb, 1, none⟩ = some (.slice g l l) ∧ W.cell? ⟨rb, 2, none⟩ = some (.int .i64 (S : Int)) := ⟨(cell_blk h.blk 0).1, (cell_blk h.blk 1).1, (cell_blk h.blk 2).1⟩
theorem al (w : World) (o : Obj) : Below w.heap.size w (w.alloc o) := (Below.refl _ _).alloc (Nat.le_refl _) _
theorem nb3 {X w3 : World} {o : Obj} (hb : Below (X.alloc o).heap.size (X.alloc o) w3) : w3.heap[X.heap.size]? = some o := (hb.block _ (blk_lt (heap_new X o))).trans (heap_new X o)
theorem nb3d {X w3 : World} {o : Obj} (hb : Below (X.drew.alloc o).heap.size (X.drew.alloc o) w3) : w3.heap[X.heap.size]? = some o := nb3 (X := X.drew) hb
theorem apart_of {l b n : Nat} {g2 : Option Addr} (h : 0 < l → ∃ x, g2 = some ⟨x, 0, none⟩ ∧ n ≤ x) (hb : b < n) : ∀ k, k < l → ∃ x o, g2 = some ⟨x, o, none⟩ ∧ x ≠ b := fun k hk => by
  obtain ⟨x, e, hx⟩ := h (by omega)
  exact ⟨x, 0, e, by omega⟩
theorem nb3e {X w3 : World} {o : Obj} (hb : Below (X.alloc o).drew.heap.size (X.alloc o).drew w3) : w3.heap[X.heap.size]? = some o := (hb.block _ (blk_lt (heap_new X o))).trans (heap_new X o)
theorem al_drew (X : World) (o : Obj) : Below X.heap.size X (X.drew.alloc o) := (Below.refl _ _).drew.alloc (Nat.le_refl _) _
theorem al_new {X W : World} (h : Below X.heap.size X W) (o : Obj) : Below X.heap.size X (W.alloc o) := h.alloc h.size _
theorem set3 {X W : World} (h : Below X.heap.size X W) {b : Nat} (hb : X.heap.size ≤ b) (y0 y1 y2 : Value) : Below X.heap.size X (((W.setCell ⟨b, 0, none⟩ y0).setCell ⟨b, 1, none⟩ y1).setCell ⟨b, 2, none⟩ y2) := ((h.setCell (p := ⟨b, 0, none⟩) hb _).setCell (p := ⟨b, 1, none⟩) hb _).setCell (p := ⟨b, 2, none⟩) hb _
theorem fsnew {w W0 w5 : World} {rb l : Nat} {g g2 : Option Addr} {v : Int} {S : Nat} {tr : List Int} (h : Fs w rb l g v S tr W0) (hb : Below W0.heap.size W0 w5) (hr : Rt w5 g2 l (mv tr)) : Fs w rb l g v S tr (w5.alloc (.cells #[.int .i64 v, .slice g2 l l, .int .i64 (S : Int)] 29)) ∧ Fs w w5.heap.size l g2 v S tr (w5.alloc (.cells #[.int .i64 v, .slice g2 l l, .int .i64 (S : Int)] 29)) := ⟨h.later (al_new hb _), Fs.new (bl_t h.bel hb) hr⟩
theorem Fs.cell2 {w : World} {rb l : Nat} {g : Option Addr} {v : Int} {S : Nat} {tr : List Int} {W : World} (h : Fs w rb l g v S tr W) (W' : World) (hb : Below W.heap.size W W') : W'.cell? ⟨rb, 2, none⟩ = some (.int .i64 (S : Int)) ∧ Below W.heap.size W W' := ⟨(h.later hb).cells.2.2, hb⟩
/-- .. into the second variable. -/
theorem Fs.put {w W0 W : World} {rb b l : Nat} {g g2 : Option Addr} {v : Int} {S : Nat} {tr : List Int} (h : Fs w rb l g v S tr W0) (hb : Below W0.heap.size W0 W) {c0 c1 c2 : Value} (hz : W.heap[b]? = some (.cells #[c0, c1, c2] 29 (0, 0))) (hge : W0.heap.size ≤ b) (hg : ∀ k, k < l → ∃ x o, g2 = some ⟨x, o, none⟩ ∧ x ≠ b) (hr : Rt W g2 l (mv tr)) :
    Fs w rb l g v S tr (((W.setCell ⟨b, 0, none⟩ (.int .i64 v)).setCell ⟨b, 1, none⟩ (.slice g2 l l)).setCell ⟨b, 2, none⟩ (.int .i64 (S : Int))) ∧ Fs w b l g2 v S tr (((W.setCell ⟨b, 0, none⟩ (.int .i64 v)).setCell ⟨b, 1, none⟩ (.slice g2 l l)).setCell ⟨b, 2, none⟩ (.int .i64 (S : Int))) := by
  obtain ⟨q1, q2, q3⟩ := put3 hz (.int .i64 v) (.slice g2 l l) (.int .i64 (S : Int)) hb hge
  have h1 := h.later q2
  refine ⟨h1, h1.bel, q1, fun hl => ?_⟩
  obtain ⟨x, o, e, hx⟩ := hg 0 hl
  obtain ⟨b', o', e', lt, hc⟩ := hr hl
  cases e.symm.trans e'
  refine ⟨x, o, e, ?_, fun i hi => ?_⟩
  · have := q2.size
    simp [World.setCell] 
    exact lt
  · refine Eq.trans ?_ (hc i hi)
    exact (World.cell?_setCell_far _ _ _ _ (fun e => hx e.symm)).trans ((World.cell?_setCell_far _ _ _ _ (fun e => hx e.symm)).trans (World.cell?_setCell_far _ _ _ _ (fun e => hx e.symm)))
set_option maxRecDepth 100000 in
set_option maxHeartbeats 4000000 in
theorem right_ok {k : Nat} {B : Int} {N : Nat} {ln : Nat → Nat} {L : Nat → Nat → Int} {m : Nat} {f : Nat → Int} (hp : prob k B N ln L m f = true) (cn : Nat) (cand : Nat → Bool) (ca qa na : Option Addr) (cc qc nc : Nat) (M : Int) (w : World) (hN : N * 24 ≤ 140737488351232) (hm : m * 8 ≤ 140737488351232) (hln : ∀ k, k < N → ln k * 8 ≤ 140737488351232) (hR : Rr w ca N ln L) (hQ : Ri w qa m f) (hC : Rt w na cn cand) :
    Calls Try.prog 6 #[.int .i64 k, .slice ca N cc, .slice qa m qc, .int .i64 B, .slice na cn nc, .int .i64 M] w fun x w' => x = .returned (.bool true) ∧ Below w.heap.size w w' := by
  have HLN := hide (show ∀ k, k < N → ln k ≤ 140737488355328 from fun k hk => by have := hln k hk; omega)
  have HLN2 := hide hln
  have HR := hide hR
  have HQ := hide hQ
  have HC := hide hC
  clear hR hQ hln hC
  have cP := hide (fun (w1 : World) (hb : Below w.heap.size w w1) => problem_any k B N ln L m f ca qa cc qc w1 hN (by omega) (unhide HLN) ((unhide HR).later hb) (Ri.later (unhide HQ) hb))
  rw [hp] at cP
  obtain ⟨hO, e1, e2, hB⟩ := prob_ok hp
  rw [Int.toNat_natCast] at hO
  have HOK := hide hO
  obtain ⟨q1, q2, q3, q4, q5⟩ := prob_iff.1 hp
  have hk1 : k ≤ 131071 := hO.n
  have HSO := hide (fun (b : Int) (h0 : 0 ≤ b) (h1 : b ≤ 1152921504606846976) (w1 : World) {ca qa : Option Addr} {cc qc : Nat} (h : Rr w1 ca N ln L) (h2 : Ri w1 qa m f) => Solve_ok (cc := cc) (qc := qc) (prob_iff.2 ⟨q1, h0, h1, q4, q5⟩) (by omega) (by omega) (unhide HLN) h h2)
  rw [Int.toNat_natCast] at HSO
  clear q1 q4 q5 hp hO e1 e2
  have cD := hide (fun (w1 : World) (hb : Below w.heap.size w w1) => padded_any k hk1 cn cand na nc w1 (Rt.later (unhide HC) hb))
  have cM := hide (fun (mc : Nat → Bool) (w1 : World) {va : Option Addr} {vc : Nat} (hb : Below w.heap.size w w1) (h : Rt w1 va k mc) => lmodel_any k hk1 N ln L mc ca va cc vc w1 (by omega) (unhide HLN) ((unhide HR).later hb) h (unhide HOK).cl)
  have HLT := hide (fun (w1 : World) (hb : Below w.heap.size w w1) => twin_any N ln L ca cc w1 hN (unhide HLN2) ((unhide HR).later hb))
  have HLE := hide (fun (w1 : World) (hb : Below w.heap.size w w1) => lent_any m f qa qc w1 hm (Ri.later (unhide HQ) hb))
  have HB0 := hide (Below.refl w.heap.size w)
  go_enter Try.func6, Try.ntmps6
  go_upto_region 2 with (first | (go_at_call 14; refine (unhide HLT _ (unhide HB0)).mono ?_; rintro x3 w3 ⟨tb, tcb, tg, tcp, rfl, htw, hb3⟩; have HTW := hide htw; have HB3 := hide hb3; clear htw hb3) | (go_at_call 15; refine (unhide HLE _ (unhide HB3)).mono ?_; rintro x4 w4 ⟨lg, lcp, rfl, hmk, hb4⟩; have HMK := hide hmk; have HTW4 := hide ((unhide HTW).later hb4); have HB4 := hide (bl_t (unhide HB3) hb4); clear hmk hb4) | (go_at_call 13; refine (unhide HSO _ q2 q3 _ (unhide HTW4).rr (unhide HMK).ri).mono ?_; rintro x5 w5 hso; obtain ⟨v, tr, S, l, g, hrs, rfl, hb5, hrt, hl, _⟩ := hso.first; have HRS := hide hrs; have HL := hide hl; have HRT := hide hrt; have HB5 := hide (bl_t (unhide HB4) hb5); clear hrs hl hrt hb5 hso))
  have HF6 := hide (Fs.new (v := v) (S := S) (unhide HB5) (unhide HRT))
  clear HTW HTW4 HMK HB3 HB4 HB5 HRT
  generalize w5.alloc (.cells #[.int .i64 v, .slice g l l, .int .i64 (S : Int)] 29) = W6 at *
  generalize w5.heap.size = rb at *
  go_upto_region 6 with (first | (go_at_call 11; refine (lives_any _).mono ?_; rintro x1 w1 ⟨rfl, hb1⟩; have HF1 := hide ((unhide HF6).later hb1); clear hb1) | (go_at_call 12; refine (unhide cP _ (unhide HF1).bel).mono ?_; rintro x2 w2 ⟨rfl, hb2⟩; have HF2 := hide ((unhide HF1).later hb2); clear hb2))
  obtain ⟨z0, z1, z2⟩ := (unhide HF2).cells
  have hSB : S ≤ B.toNat := (unhide HRS).le.1
  have s1 : ¬ (S : Int) < 0 := by omega
  have s2 : ¬ (S : Int) > B := by omega
  have hSB2 : (S : Int) ≤ B := by omega
  have hl1 : l ≤ 131071 := by
    rw [unhide HL]
    split
    · exact hk1
    · omega
  clear HF6 HF1
  rcases (unhide HRS).le.2 with hv | hv | ⟨hv, hv3⟩
  · subst hv
    obtain rfl : l = k := unhide HL
    have cM1 := hide (unhide cM (mv tr) w2 (vc := l) (unhide HF2).bel (unhide HF2).rt)
    rw [show (bAll N fun i => clT (mv tr) (ln i) (L i)) = true from (bAll_iff _ _).2 ((unhide HRS).sat (unhide HOK))] at cM1
    go_upto_region 19 with (first | (go_at_call 16; refine (unhide cM1).mono ?_; rintro x7 w7 ⟨rfl, hb7⟩; have HF7 := hide ((unhide HF2).later hb7); clear hb7))
    have HKS := hide (unhide HF7).cell2
    have HLT2 := hide (fun (w1 : World) (hb : Below w7.heap.size w7 w1) => unhide HLT w1 (bl_t (unhide HF7).bel hb))
    have HLE2 := hide (fun (w1 : World) (hb : Below w7.heap.size w7 w1) => unhide HLE w1 (bl_t (unhide HF7).bel hb))
    have hS0 := hide (show (0 : Int) ≤ (S : Int) from by omega)
    have hS1 := hide (show (S : Int) ≤ 1152921504606846976 from by omega)
    clear z0 z1 z2
    go_region_held3 (fun W' => W'.cell? ⟨rb, 2, none⟩ = some (.int .i64 (S : Int)) ∧ Below w7.heap.size w7 W') (with_reducible first | exact unhide HKS _ ((Below.refl _ _).drew) | exact unhide HKS _ (unhide HB5) | exact unhide HKS _ (unhide HB4) | exact unhide HKS _ (unhide HB3) | exact unhide HKS _ (al_new (unhide HB5) _) | exact unhide HKS _ (al_new (unhide HB4) _) | exact unhide HKS _ (al_new (unhide HB3) _) | exact unhide HKS _ (al_drew _ _) | exact unhide HKS _ (set3 (unhide HB5) (unhide HGE) _ _ _)) (first | (go_at_call 14; refine (unhide HLT2 _ (And.right (by with_reducible assumption))).mono ?_; rintro x3 w3 ⟨tb, tcb, tg, tcp, rfl, htw, hb3⟩; have HTW := hide htw; have HB3 := hide (bl_t (And.right (by with_reducible assumption)) hb3); (first | ((first | with_reducible have HNB := hide (nb3e hb3) | with_reducible have HNB := hide (nb3d hb3)); have HGE := hide (Nat.le_refl w7.heap.size)) | skip); clear htw hb3) | (go_at_call 15; refine (unhide HLE2 _ (And.right (by with_reducible assumption))).mono ?_; rintro x4 w4 ⟨lg, lcp, rfl, hmk, hb4⟩; have HMK := hide hmk; have HB4 := hide (bl_t (And.right (by with_reducible assumption)) hb4); (first | have HNB4 := hide ((hb4.block _ (blk_lt (unhide HNB))).trans (unhide HNB)) | (with_reducible have HNB4 := hide (nb3 hb4); have HGE := hide (unhide HB3).size) | skip); (first | with_reducible have HTW4 := hide ((unhide HTW).later hb4) | have HTW4 := hide (((unhide HTW).later (al _ _)).later hb4)); clear hmk hb4) | (go_at_call 13; (first | (with_reducible show Calls _ _ _ (World.alloc _ _) _; refine (unhide HSO _ (unhide hS0) (unhide hS1) _ ((unhide HTW4).later (al _ _)).rr (Ri.later (unhide HMK).ri (al _ _))).mono ?_) | refine (unhide HSO _ (unhide hS0) (unhide hS1) _ (unhide HTW4).rr (unhide HMK).ri).mono ?_); rintro x5 w5 hso; obtain ⟨g2, rfl, hb5, hrt, hgg⟩ := So.next (unhide HRS) hso (.inl (Int.toNat_natCast _)) (unhide HL); have HRT5 := hide hrt; have HB5 := hide (bl_t (And.right (by with_reducible assumption)) hb5); (first | (have HNB5 := hide ((hb5.block _ (blk_lt (unhide HNB4))).trans (unhide HNB4)); have HG2 := hide (apart_of hgg (blk_lt (unhide HNB4)))) | (with_reducible have HNB5 := hide (nb3 hb5); have HGE := hide (unhide HB4).size; have HG2 := hide (apart_of hgg (blk_lt (heap_new _ _)))) | skip); (first | (have n0 := (cell_blk (unhide HNB5) 0).1; have n1 := (cell_blk (unhide HNB5) 1).1; have n2 := (cell_blk (unhide HNB5) 2).1; have y0 := (cell_blk (unhide HNB5) 0).2; have y1 := (cell_blk (unhide HNB5) 1).2; have y2 := (cell_blk (unhide HNB5) 2).2; simp at n0 n1 n2) | skip); clear hrt hb5 hso hgg))
    all_goals
      first
      | (have HFG := hide (Fs.put (b := w4.heap.size) (unhide HF7) (unhide HB5) (unhide HNB5) (unhide HGE) (unhide HG2) (unhide HRT5)); generalize ((w5.setCell ⟨w4.heap.size, 0, none⟩ (.int .i64 1)).setCell ⟨w4.heap.size, 1, none⟩ (.slice g2 l l)).setCell ⟨w4.heap.size, 2, none⟩ (.int .i64 (S : Int)) = W9 at HFG ⊢; generalize w4.heap.size = b at HFG ⊢) | (have HFG := hide (Fs.put (b := w3.heap.size) (unhide HF7) (unhide HB5) (unhide HNB5) (unhide HGE) (unhide HG2) (unhide HRT5)); generalize ((w5.setCell ⟨w3.heap.size, 0, none⟩ (.int .i64 1)).setCell ⟨w3.heap.size, 1, none⟩ (.slice g2 l l)).setCell ⟨w3.heap.size, 2, none⟩ (.int .i64 (S : Int)) = W9 at HFG ⊢; generalize w3.heap.size = b at HFG ⊢) | (have HFG := hide (Fs.put (b := w7.heap.size) (unhide HF7) (unhide HB5) (unhide HNB5) (unhide HGE) (unhide HG2) (unhide HRT5)); generalize ((w5.setCell ⟨w7.heap.size, 0, none⟩ (.int .i64 1)).setCell ⟨w7.heap.size, 1, none⟩ (.slice g2 l l)).setCell ⟨w7.heap.size, 2, none⟩ (.int .i64 (S : Int)) = W9 at HFG ⊢; generalize w7.heap.size = b at HFG ⊢)
      | (have HFG := hide (fsnew (unhide HF7) (unhide HB5) (unhide HRT5)); generalize w5.alloc (.cells #[.int .i64 1, .slice g2 l l, .int .i64 (S : Int)] 29) = W9 at HFG ⊢; generalize w5.heap.size = b at HFG ⊢)
      have HF9 := hide (unhide HFG).1
      have HG9 := hide (unhide HFG).2
      obtain ⟨a0, a1, a2⟩ := (unhide HF9).cells
      obtain ⟨b0, b1, b2⟩ := (unhide HG9).cells
      go_upto_region 22 with (go_at_call 20; refine (found_any 1 S l (mv tr) g g2 l l _ (by omega) (unhide HF9).rt (unhide HG9).rt).mono ?_; rintro x10 w10 ⟨rfl, hb10⟩; have HF10 := hide ((unhide HF9).later hb10); clear hb10)
      clear a0 a1 a2 b0 b1 b2
      by_cases m1 : M < 0
      · go_wp2
        go_ret
        exact ⟨rfl, (unhide HF10).bel⟩
      by_cases m2 : M > 1000
      · go_wp2
        go_ret
        exact ⟨rfl, (unhide HF10).bel⟩
      by_cases m3 : B > 1152921504606845976
      · go_wp2
        go_ret
        exact ⟨rfl, (unhide HF10).bel⟩
      have hw : IntKind.i64.wrap (B + M) = B + M := IntWalk.i64_in _ (by omega)
      have hT0 := hide (show (0 : Int) ≤ B + M from by omega)
      have hT1 := hide (show B + M ≤ 1152921504606846976 from by omega)
      have hT2 := hide (show S ≤ (B + M).toNat from by omega)
      go_upto_region 25 with (first | (go_at_call 14; refine (unhide HLT _ (unhide HF10).bel).mono ?_; rintro x13 w13 ⟨ub, ucb, ug, ucp, rfl, htw, hb13⟩; have HTW13 := hide htw; have HF13 := hide ((unhide HF10).later hb13); clear htw hb13) | (go_at_call 15; refine (unhide HLE _ (unhide HF13).bel).mono ?_; rintro x14 w14 ⟨vg, vcp, rfl, hmk, hb14⟩; have HMK14 := hide hmk; have HTW14 := hide ((unhide HTW13).later hb14); have HF14 := hide ((unhide HF13).later hb14); clear hmk hb14) | (go_at_call 13; refine (unhide HSO _ (unhide hT0) (unhide hT1) _ (unhide HTW14).rr (unhide HMK14).ri).mono ?_; rintro x15 w15 hso; obtain ⟨g3, rfl, hb15, hrt, _⟩ := So.next (unhide HRS) hso (.inr ⟨by decide, unhide hT2⟩) (unhide HL); have HRT15 := hide hrt; have HB15 := hide hb15; clear hrt hb15 hso))
      have HFH := hide (fsnew (unhide HF14) (unhide HB15) (unhide HRT15))
      generalize w15.alloc (.cells #[.int .i64 1, .slice g3 l l, .int .i64 (S : Int)] 29) = W16 at HFH ⊢
      generalize w15.heap.size = b3 at HFH ⊢
      have HF15 := hide (unhide HFH).1
      have HG15 := hide (unhide HFH).2
      obtain ⟨a0, a1, a2⟩ := (unhide HF15).cells
      obtain ⟨b0, b1, b2⟩ := (unhide HG15).cells
      go_wp2_with (go_at_call 20; refine (found_any 1 S l (mv tr) g g3 l l _ (by omega) (unhide HF15).rt (unhide HG15).rt).mono ?_; rintro x17 w17 ⟨rfl, hb17⟩; have HF17 := hide ((unhide HF15).later hb17); clear hb17)
      go_ret
      exact ⟨rfl, (unhide HF17).bel⟩
  · subst hv
    obtain rfl : l = 0 := unhide HL
    have HNO := hide ((unhide HRS).unsat (unhide HOK))
    go_upto_region 19 with (first | (go_at_call 18; refine (unhide cD _ (unhide HF2).bel).mono ?_; rintro x8 w8 ⟨va, vc, rfl, hrt, hb8⟩; have HF8 := hide ((unhide HF2).later hb8); have cM1 := hide (unhide cM _ w8 (vc := vc) (unhide HF8).bel hrt); rw [show (bAll N fun i => clT _ (ln i) (L i)) = false from (by cases q : (bAll N fun i => clT _ (ln i) (L i)) with | false => rfl | true => exact absurd ((bAll_iff _ _).1 q) (unhide HNO _))] at cM1; clear hrt hb8) | (go_at_call 16; refine (unhide cM1).mono ?_; rintro x7 w7 ⟨rfl, hb7⟩; have HF7 := hide ((unhide HF8).later hb7); clear hb7))
    have HKS := hide (unhide HF7).cell2
    have HLT2 := hide (fun (w1 : World) (hb : Below w7.heap.size w7 w1) => unhide HLT w1 (bl_t (unhide HF7).bel hb))
    have HLE2 := hide (fun (w1 : World) (hb : Below w7.heap.size w7 w1) => unhide HLE w1 (bl_t (unhide HF7).bel hb))
    have hS0 := hide (show (0 : Int) ≤ (S : Int) from by omega)
    have hS1 := hide (show (S : Int) ≤ 1152921504606846976 from by omega)
    clear z0 z1 z2
    go_region_held3 (fun W' => W'.cell? ⟨rb, 2, none⟩ = some (.int .i64 (S : Int)) ∧ Below w7.heap.size w7 W') (with_reducible first | exact unhide HKS _ ((Below.refl _ _).drew) | exact unhide HKS _ (unhide HB5) | exact unhide HKS _ (unhide HB4) | exact unhide HKS _ (unhide HB3) | exact unhide HKS _ (al_new (unhide HB5) _) | exact unhide HKS _ (al_new (unhide HB4) _) | exact unhide HKS _ (al_new (unhide HB3) _) | exact unhide HKS _ (al_drew _ _) | exact unhide HKS _ (set3 (unhide HB5) (unhide HGE) _ _ _)) (first | (go_at_call 14; refine (unhide HLT2 _ (And.right (by with_reducible assumption))).mono ?_; rintro x3 w3 ⟨tb, tcb, tg, tcp, rfl, htw, hb3⟩; have HTW := hide htw; have HB3 := hide (bl_t (And.right (by with_reducible assumption)) hb3); (first | ((first | with_reducible have HNB := hide (nb3e hb3) | with_reducible have HNB := hide (nb3d hb3)); have HGE := hide (Nat.le_refl w7.heap.size)) | skip); clear htw hb3) | (go_at_call 15; refine (unhide HLE2 _ (And.right (by with_reducible assumption))).mono ?_; rintro x4 w4 ⟨lg, lcp, rfl, hmk, hb4⟩; have HMK := hide hmk; have HB4 := hide (bl_t (And.right (by with_reducible assumption)) hb4); (first | have HNB4 := hide ((hb4.block _ (blk_lt (unhide HNB))).trans (unhide HNB)) | (with_reducible have HNB4 := hide (nb3 hb4); have HGE := hide (unhide HB3).size) | skip); (first | with_reducible have HTW4 := hide ((unhide HTW).later hb4) | have HTW4 := hide (((unhide HTW).later (al _ _)).later hb4)); clear hmk hb4) | (go_at_call 13; (first | (with_reducible show Calls _ _ _ (World.alloc _ _) _; refine (unhide HSO _ (unhide hS0) (unhide hS1) _ ((unhide HTW4).later (al _ _)).rr (Ri.later (unhide HMK).ri (al _ _))).mono ?_) | refine (unhide HSO _ (unhide hS0) (unhide hS1) _ (unhide HTW4).rr (unhide HMK).ri).mono ?_); rintro x5 w5 hso; obtain ⟨g2, rfl, hb5, hrt, hgg⟩ := So.next (unhide HRS) hso (.inl (Int.toNat_natCast _)) (unhide HL); have HRT5 := hide hrt; have HB5 := hide (bl_t (And.right (by with_reducible assumption)) hb5); (first | (have HNB5 := hide ((hb5.block _ (blk_lt (unhide HNB4))).trans (unhide HNB4)); have HG2 := hide (apart_of hgg (blk_lt (unhide HNB4)))) | (with_reducible have HNB5 := hide (nb3 hb5); have HGE := hide (unhide HB4).size; have HG2 := hide (apart_of hgg (blk_lt (heap_new _ _)))) | skip); (first | (have n0 := (cell_blk (unhide HNB5) 0).1; have n1 := (cell_blk (unhide HNB5) 1).1; have n2 := (cell_blk (unhide HNB5) 2).1; have y0 := (cell_blk (unhide HNB5) 0).2; have y1 := (cell_blk (unhide HNB5) 1).2; have y2 := (cell_blk (unhide HNB5) 2).2; simp at n0 n1 n2) | skip); clear hrt hb5 hso hgg))
    all_goals
      first
      | (have HFG := hide (Fs.put (b := w4.heap.size) (unhide HF7) (unhide HB5) (unhide HNB5) (unhide HGE) (unhide HG2) (unhide HRT5)); generalize ((w5.setCell ⟨w4.heap.size, 0, none⟩ (.int .i64 2)).setCell ⟨w4.heap.size, 1, none⟩ (.slice g2 0 0)).setCell ⟨w4.heap.size, 2, none⟩ (.int .i64 (S : Int)) = W9 at HFG ⊢; generalize w4.heap.size = b at HFG ⊢) | (have HFG := hide (Fs.put (b := w3.heap.size) (unhide HF7) (unhide HB5) (unhide HNB5) (unhide HGE) (unhide HG2) (unhide HRT5)); generalize ((w5.setCell ⟨w3.heap.size, 0, none⟩ (.int .i64 2)).setCell ⟨w3.heap.size, 1, none⟩ (.slice g2 0 0)).setCell ⟨w3.heap.size, 2, none⟩ (.int .i64 (S : Int)) = W9 at HFG ⊢; generalize w3.heap.size = b at HFG ⊢) | (have HFG := hide (Fs.put (b := w7.heap.size) (unhide HF7) (unhide HB5) (unhide HNB5) (unhide HGE) (unhide HG2) (unhide HRT5)); generalize ((w5.setCell ⟨w7.heap.size, 0, none⟩ (.int .i64 2)).setCell ⟨w7.heap.size, 1, none⟩ (.slice g2 0 0)).setCell ⟨w7.heap.size, 2, none⟩ (.int .i64 (S : Int)) = W9 at HFG ⊢; generalize w7.heap.size = b at HFG ⊢)
      | (have HFG := hide (fsnew (unhide HF7) (unhide HB5) (unhide HRT5)); generalize w5.alloc (.cells #[.int .i64 2, .slice g2 0 0, .int .i64 (S : Int)] 29) = W9 at HFG ⊢; generalize w5.heap.size = b at HFG ⊢)
      have HF9 := hide (unhide HFG).1
      have HG9 := hide (unhide HFG).2
      obtain ⟨a0, a1, a2⟩ := (unhide HF9).cells
      obtain ⟨b0, b1, b2⟩ := (unhide HG9).cells
      go_upto_region 22 with (go_at_call 20; refine (found_any 2 S 0 (mv tr) g g2 0 0 _ (by omega) (unhide HF9).rt (unhide HG9).rt).mono ?_; rintro x10 w10 ⟨rfl, hb10⟩; have HF10 := hide ((unhide HF9).later hb10); clear hb10)
      clear a0 a1 a2 b0 b1 b2
      by_cases m1 : M < 0
      · go_wp2
        go_ret
        exact ⟨rfl, (unhide HF10).bel⟩
      by_cases m2 : M > 1000
      · go_wp2
        go_ret
        exact ⟨rfl, (unhide HF10).bel⟩
      by_cases m3 : B > 1152921504606845976
      · go_wp2
        go_ret
        exact ⟨rfl, (unhide HF10).bel⟩
      have hw : IntKind.i64.wrap (B + M) = B + M := IntWalk.i64_in _ (by omega)
      have hT0 := hide (show (0 : Int) ≤ B + M from by omega)
      have hT1 := hide (show B + M ≤ 1152921504606846976 from by omega)
      have hT2 := hide (show S ≤ (B + M).toNat from by omega)
      go_upto_region 25 with (first | (go_at_call 14; refine (unhide HLT _ (unhide HF10).bel).mono ?_; rintro x13 w13 ⟨ub, ucb, ug, ucp, rfl, htw, hb13⟩; have HTW13 := hide htw; have HF13 := hide ((unhide HF10).later hb13); clear htw hb13) | (go_at_call 15; refine (unhide HLE _ (unhide HF13).bel).mono ?_; rintro x14 w14 ⟨vg, vcp, rfl, hmk, hb14⟩; have HMK14 := hide hmk; have HTW14 := hide ((unhide HTW13).later hb14); have HF14 := hide ((unhide HF13).later hb14); clear hmk hb14) | (go_at_call 13; refine (unhide HSO _ (unhide hT0) (unhide hT1) _ (unhide HTW14).rr (unhide HMK14).ri).mono ?_; rintro x15 w15 hso; obtain ⟨g3, rfl, hb15, hrt, _⟩ := So.next (unhide HRS) hso (.inr ⟨by decide, unhide hT2⟩) (unhide HL); have HRT15 := hide hrt; have HB15 := hide hb15; clear hrt hb15 hso))
      have HFH := hide (fsnew (unhide HF14) (unhide HB15) (unhide HRT15))
      generalize w15.alloc (.cells #[.int .i64 2, .slice g3 0 0, .int .i64 (S : Int)] 29) = W16 at HFH ⊢
      generalize w15.heap.size = b3 at HFH ⊢
      have HF15 := hide (unhide HFH).1
      have HG15 := hide (unhide HFH).2
      obtain ⟨a0, a1, a2⟩ := (unhide HF15).cells
      obtain ⟨b0, b1, b2⟩ := (unhide HG15).cells
      go_wp2_with (go_at_call 20; refine (found_any 2 S 0 (mv tr) g g3 0 0 _ (by omega) (unhide HF15).rt (unhide HG15).rt).mono ?_; rintro x17 w17 ⟨rfl, hb17⟩; have HF17 := hide ((unhide HF15).later hb17); clear hb17)
      go_ret
      exact ⟨rfl, (unhide HF17).bel⟩
  · subst hv
    obtain rfl : l = 0 := unhide HL
    have s3 : (S : Int) = B := by omega
    clear hv3 hSB
    subst s3
    go_upto_region 19 with fail
    have HKS := hide (unhide HF2).cell2
    have HLT2 := hide (fun (w1 : World) (hb : Below w2.heap.size w2 w1) => unhide HLT w1 (bl_t (unhide HF2).bel hb))
    have HLE2 := hide (fun (w1 : World) (hb : Below w2.heap.size w2 w1) => unhide HLE w1 (bl_t (unhide HF2).bel hb))
    have hS0 := hide (show (0 : Int) ≤ (S : Int) from by omega)
    have hS1 := hide (show (S : Int) ≤ 1152921504606846976 from by omega)
    clear z0 z1 z2
    go_region_held3 (fun W' => W'.cell? ⟨rb, 2, none⟩ = some (.int .i64 (S : Int)) ∧ Below w2.heap.size w2 W') (with_reducible first | exact unhide HKS _ ((Below.refl _ _).drew) | exact unhide HKS _ (unhide HB5) | exact unhide HKS _ (unhide HB4) | exact unhide HKS _ (unhide HB3) | exact unhide HKS _ (al_new (unhide HB5) _) | exact unhide HKS _ (al_new (unhide HB4) _) | exact unhide HKS _ (al_new (unhide HB3) _) | exact unhide HKS _ (al_drew _ _) | exact unhide HKS _ (set3 (unhide HB5) (unhide HGE) _ _ _)) (first | (go_at_call 14; refine (unhide HLT2 _ (And.right (by with_reducible assumption))).mono ?_; rintro x3 w3 ⟨tb, tcb, tg, tcp, rfl, htw, hb3⟩; have HTW := hide htw; have HB3 := hide (bl_t (And.right (by with_reducible assumption)) hb3); (first | ((first | with_reducible have HNB := hide (nb3e hb3) | with_reducible have HNB := hide (nb3d hb3)); have HGE := hide (Nat.le_refl w2.heap.size)) | skip); clear htw hb3) | (go_at_call 15; refine (unhide HLE2 _ (And.right (by with_reducible assumption))).mono ?_; rintro x4 w4 ⟨lg, lcp, rfl, hmk, hb4⟩; have HMK := hide hmk; have HB4 := hide (bl_t (And.right (by with_reducible assumption)) hb4); (first | have HNB4 := hide ((hb4.block _ (blk_lt (unhide HNB))).trans (unhide HNB)) | (with_reducible have HNB4 := hide (nb3 hb4); have HGE := hide (unhide HB3).size) | skip); (first | with_reducible have HTW4 := hide ((unhide HTW).later hb4) | have HTW4 := hide (((unhide HTW).later (al _ _)).later hb4)); clear hmk hb4) | (go_at_call 13; (first | (with_reducible show Calls _ _ _ (World.alloc _ _) _; refine (unhide HSO _ (unhide hS0) (unhide hS1) _ ((unhide HTW4).later (al _ _)).rr (Ri.later (unhide HMK).ri (al _ _))).mono ?_) | refine (unhide HSO _ (unhide hS0) (unhide hS1) _ (unhide HTW4).rr (unhide HMK).ri).mono ?_); rintro x5 w5 hso; obtain ⟨g2, rfl, hb5, hrt, hgg⟩ := So.next (unhide HRS) hso (.inl (Int.toNat_natCast _)) (unhide HL); have HRT5 := hide hrt; have HB5 := hide (bl_t (And.right (by with_reducible assumption)) hb5); (first | (have HNB5 := hide ((hb5.block _ (blk_lt (unhide HNB4))).trans (unhide HNB4)); have HG2 := hide (apart_of hgg (blk_lt (unhide HNB4)))) | (with_reducible have HNB5 := hide (nb3 hb5); have HGE := hide (unhide HB4).size; have HG2 := hide (apart_of hgg (blk_lt (heap_new _ _)))) | skip); (first | (have n0 := (cell_blk (unhide HNB5) 0).1; have n1 := (cell_blk (unhide HNB5) 1).1; have n2 := (cell_blk (unhide HNB5) 2).1; have y0 := (cell_blk (unhide HNB5) 0).2; have y1 := (cell_blk (unhide HNB5) 1).2; have y2 := (cell_blk (unhide HNB5) 2).2; simp at n0 n1 n2) | skip); clear hrt hb5 hso hgg))
    all_goals
      first
      | (have HFG := hide (Fs.put (b := w4.heap.size) (unhide HF2) (unhide HB5) (unhide HNB5) (unhide HGE) (unhide HG2) (unhide HRT5)); generalize ((w5.setCell ⟨w4.heap.size, 0, none⟩ (.int .i64 3)).setCell ⟨w4.heap.size, 1, none⟩ (.slice g2 0 0)).setCell ⟨w4.heap.size, 2, none⟩ (.int .i64 (S : Int)) = W9 at HFG ⊢; generalize w4.heap.size = b at HFG ⊢) | (have HFG := hide (Fs.put (b := w3.heap.size) (unhide HF2) (unhide HB5) (unhide HNB5) (unhide HGE) (unhide HG2) (unhide HRT5)); generalize ((w5.setCell ⟨w3.heap.size, 0, none⟩ (.int .i64 3)).setCell ⟨w3.heap.size, 1, none⟩ (.slice g2 0 0)).setCell ⟨w3.heap.size, 2, none⟩ (.int .i64 (S : Int)) = W9 at HFG ⊢; generalize w3.heap.size = b at HFG ⊢) | (have HFG := hide (Fs.put (b := w2.heap.size) (unhide HF2) (unhide HB5) (unhide HNB5) (unhide HGE) (unhide HG2) (unhide HRT5)); generalize ((w5.setCell ⟨w2.heap.size, 0, none⟩ (.int .i64 3)).setCell ⟨w2.heap.size, 1, none⟩ (.slice g2 0 0)).setCell ⟨w2.heap.size, 2, none⟩ (.int .i64 (S : Int)) = W9 at HFG ⊢; generalize w2.heap.size = b at HFG ⊢)
      | (have HFG := hide (fsnew (unhide HF2) (unhide HB5) (unhide HRT5)); generalize w5.alloc (.cells #[.int .i64 3, .slice g2 0 0, .int .i64 (S : Int)] 29) = W9 at HFG ⊢; generalize w5.heap.size = b at HFG ⊢)
      have HF9 := hide (unhide HFG).1
      have HG9 := hide (unhide HFG).2
      obtain ⟨a0, a1, a2⟩ := (unhide HF9).cells
      obtain ⟨b0, b1, b2⟩ := (unhide HG9).cells
      go_upto_region 22 with (go_at_call 20; refine (found_any 3 S 0 (mv tr) g g2 0 0 _ (by omega) (unhide HF9).rt (unhide HG9).rt).mono ?_; rintro x10 w10 ⟨rfl, hb10⟩; have HF10 := hide ((unhide HF9).later hb10); clear hb10)
      clear a0 a1 a2 b0 b1 b2
      by_cases m1 : M < 0
      · go_wp2
        go_ret
        exact ⟨rfl, (unhide HF10).bel⟩
      by_cases m2 : M > 1000
      · go_wp2
        go_ret
        exact ⟨rfl, (unhide HF10).bel⟩
      by_cases m3 : (S : Int) > 1152921504606845976
      · go_wp2
        go_ret
        exact ⟨rfl, (unhide HF10).bel⟩
      have hw : IntKind.i64.wrap ((S : Int) + M) = (S : Int) + M := IntWalk.i64_in _ (by omega)
      have hT0 := hide (show (0 : Int) ≤ (S : Int) + M from by omega)
      have hT1 := hide (show (S : Int) + M ≤ 1152921504606846976 from by omega)
      have hT2 := hide (show S ≤ ((S : Int) + M).toNat from by omega)
      go_upto_region 25 with (first | (go_at_call 14; refine (unhide HLT _ (unhide HF10).bel).mono ?_; rintro x13 w13 ⟨ub, ucb, ug, ucp, rfl, htw, hb13⟩; have HTW13 := hide htw; have HF13 := hide ((unhide HF10).later hb13); clear htw hb13) | (go_at_call 15; refine (unhide HLE _ (unhide HF13).bel).mono ?_; rintro x14 w14 ⟨vg, vcp, rfl, hmk, hb14⟩; have HMK14 := hide hmk; have HTW14 := hide ((unhide HTW13).later hb14); have HF14 := hide ((unhide HF13).later hb14); clear hmk hb14) | (go_at_call 13; refine (unhide HSO _ (unhide hT0) (unhide hT1) _ (unhide HTW14).rr (unhide HMK14).ri).mono ?_; rintro x15 w15 hso; obtain ⟨v3, tr3, S3, l3, g3, hrs3, rfl, hb15, hrt, hl3, hgg3⟩ := hso.first; clear hl3 hgg3 hrs3; have HRT15 := hide hrt; have HB15 := hide hb15; clear hrt hb15 hso))
      have HF15 := hide (((unhide HF14).later (unhide HB15)).later (al w15 (.cells #[.int .i64 v3, .slice g3 l3 l3, .int .i64 (S3 : Int)] 29)))
      generalize w15.alloc (.cells #[.int .i64 v3, .slice g3 l3 l3, .int .i64 (S3 : Int)] 29) = W16 at HF15 ⊢
      obtain ⟨a0, a1, a2⟩ := (unhide HF15).cells
      go_wp2
      go_ret
      exact ⟨rfl, (unhide HF15).bel⟩
end Go.Proofs.Ytabjbppekijfiaa
