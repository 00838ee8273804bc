import Derived.Test.YtabjbppekijfiaaDsF
import Derived.Test.YtabjbppekijfiaaVsG
import Derived.Test.YtabjbppekijfiaaCoD
namespace Go.Proofs.Ytabjbppekijfiaa
open Go.RowKit

set_option maxHeartbeats 2000000 in
theorem refused_badB (n : Int) (N : Nat) (m : Nat) (B : Int) (hB : ¬ (0 ≤ B ∧ B ≤ 1152921504606846976)) (pa qa : Option Addr) (c qc : Nat) (w : World) :
    Calls Try.prog 41 #[.int .i64 n, .slice pa N c, .slice qa m qc, .int .i64 B] w fun x w' => x = .returned (.int .i64 1) ∧ w' = w := by
  by_cases h1 : n < 0
  · go_enter Try.func41, Try.ntmps41
    go_wp2
    go_ret
    exact ⟨rfl, rfl⟩
  · by_cases h2 : n > 131071
    · go_enter Try.func41, Try.ntmps41
      go_wp2
      go_ret
      exact ⟨rfl, rfl⟩
    · by_cases h3 : B < 0
      · go_enter Try.func41, Try.ntmps41
        go_wp2
        go_ret
        exact ⟨rfl, rfl⟩
      · have h4 : B > 1152921504606846976 := by omega
        go_enter Try.func41, Try.ntmps41
        go_wp2
        go_ret
        exact ⟨rfl, rfl⟩
theorem make75 (n : Nat) (hn : n ≤ 131071) (u : World) : (Instr.makeSlice 75 (.int .i64 (n : Int)) (.int .i64 (n : Int))).run Try.prog u = .ok (.slice (some ⟨u.heap.size, 0, none⟩) n n) (u.alloc (.cells (madeCells #[.int .i64 0] n) 3)) := by
  obtain ⟨i0, hi, hz0, hz1, hz2⟩ := info_parts infoI
  have h := run_make (P := Try.prog) u 75 3 i0 (.int .i64 0) Try.underlying75 hi hz0 .i64 .i64 (n : Int) (n : Int) (by omega) (Int.le_refl _) (by rw [hz2]; omega) (by omega)
  simpa [hz1, Value.cells] using h
/-- VALUES IN A BLOCK OF THEIR OWN. -/
def Ow (base : Nat) (g : Option Addr) (l : Nat) (F : Nat → Bool) (W : World) : Prop := 0 < l → ∃ b, g = some ⟨b, 0, none⟩ ∧ base ≤ b ∧ Mw b l F W
theorem Ow.rt {base : Nat} {g : Option Addr} {l : Nat} {F : Nat → Bool} {W : World} (h : Ow base g l F W) : Rt W g l F := fun hl => by
  obtain ⟨b, e, _, hm⟩ := h hl
  subst e
  exact hm.rt hl
theorem Ow.later {base : Nat} {g : Option Addr} {l : Nat} {F : Nat → Bool} {W W2 : World} (h : Ow base g l F W) (hb : Below W.heap.size W W2) : Ow base g l F W2 := fun hl => by
  obtain ⟨b, e, hb2, hm⟩ := h hl
  exact ⟨b, e, hb2, hm.later hb⟩
theorem Ow.of {W : World} {lo base l c : Nat} {g : Option Addr} {F : Nat → Bool} (h : W.ownsRow lo 4 1 (.slice g l c) l (vl l (bv F))) (hb : base ≤ lo) : Ow base g l F W := fun hl => by
  rcases h.2 with ⟨_, q⟩ | ⟨b, cap, cur, q, hlo, hg, _⟩
  · omega
  · cases q
    obtain ⟨cur2, q1, q2⟩ := owns_blk h
    exact ⟨b, rfl, Nat.le_trans hb hlo, cur2, q1, fun k hk => q2 k _ (vl_at l _ k hk)⟩
/-- What the definition's Solve answers. -/
def Dq (P : Pb) (B : Nat) (w : World) (x : Ending) (w' : World) : Prop := ∃ v tr S l g gc, Rs P B v tr S ∧ x = .returned (.tuple #[.agg #[.int .i64 v, .slice g l gc, .int .i64 (S : Int)], .int .i64 0]) ∧ Below w.heap.size w w' ∧ Ow w.heap.size g l (mv tr) w' ∧ l = (if v = 1 then P.n else 0)
set_option maxRecDepth 100000 in
set_option maxHeartbeats 4000000 in
theorem rSolve_ok {n B : Int} {N : Nat} {ln : Nat → Nat} {L : Nat → Nat → Int} {m : Nat} {f : Nat → Int} (hp : prob n B N ln L m f = true) {ca qa : Option Addr} {cc qc : Nat} {w : World} (hN : N ≤ 140737488355328) (hm : m ≤ 140737488355328) (hln : ∀ k, k < N → ln k ≤ 140737488355328) (hR : Rr w ca N ln L) (hQ : Ri w qa m f) :
    Calls Try.prog 31 #[.int .i64 n, .slice ca N cc, .slice qa m qc, .int .i64 B] w fun x w' => Dq ⟨n.toNat, N, ln, L, m, f⟩ B.toNat w x w' := by
  obtain ⟨h1, h2, h3, h4, h5⟩ := prob_iff.1 hp
  obtain ⟨hO, e1, e2, hB⟩ := prob_ok hp
  have c1 := hide (fun (w1 : World) (hb : Below w.heap.size w w1) => refused_any n N ln L m f B ⟨h2, h3⟩ ca qa cc qc w1 hN hln hm (hR.later hb) (Ri.later hQ hb))
  rw [if_pos h1, if_pos ⟨h4, h5⟩] at c1
  have c2 := hide (fun (sb vb vc : Nat) (w1 : World) hT hs => from_any (w0 := w) (sb := sb) (ca := ca) (qa := qa) (cc := cc) (qc := qc) hO hB hN hm hln hR hQ n.toNat vb vc 0 [] w1 hT (Nat.zero_le _) hs)
  have HRS := hide (fr_rs hO (B := B.toNat))
  have hn1 := hO.n
  clear hp h1 h2 h3 h4 h5 hln hR hQ hO
  obtain ⟨k, rfl⟩ : ∃ k : Nat, n = (k : Int) := ⟨n.toNat, e1⟩
  obtain ⟨b, rfl⟩ : ∃ b : Nat, B = (b : Int) := ⟨B.toNat, e2⟩
  simp only [Int.toNat_natCast] at *
  clear e1 e2
  have hmk := make75 k hn1
  obtain ⟨WA, hA⟩ : ∃ W, W = w.alloc (.cells #[.int .i64 0, .slice none 0 0, .int .i64 0] 29) := ⟨_, rfl⟩
  have HZ := hide (show WA.heap[w.heap.size]? = some (.cells #[.int .i64 0, .slice none 0 0, .int .i64 0] 29 (0, 0)) from by rw [hA]; exact heap_new _ _)
  have hbA : Below w.heap.size w WA := by rw [hA]; exact (Below.refl _ _).alloc (Nat.le_refl _) _
  have HBA := hide hbA
  have HZA := hide (show w.heap.size < WA.heap.size from blk_lt (unhide HZ))
  clear hbA
  go_enter Try.func31, Try.ntmps31
  go_wp2_with fail
  rw [← hA]
  obtain ⟨rb, hrb⟩ : ∃ x, x = w.heap.size := ⟨_, rfl⟩
  rw [← hrb]
  rw [← hrb] at HZ HZA
  have HRB := hide hrb
  clear hrb hA
  go_upto_region 4 with (go_at_call 41; refine (unhide c1 _ (unhide HBA)).mono ?_; rintro x1 w1 ⟨rfl, hw1⟩; rw [hw1]; clear hw1 w1)
  obtain ⟨W1, hW1⟩ : ∃ W, W = WA.alloc (.cells #[.slice ca N cc, .slice qa m qc, .int .i64 (b : Int), .int .i64 0, .bool false] 74) := ⟨_, rfl⟩
  obtain ⟨W2, hW2⟩ : ∃ W, W = W1.alloc (.cells (madeCells #[.int .i64 0] k) 3) := ⟨_, rfl⟩
  have hb1 : Below WA.heap.size WA W1 := by rw [hW1]; exact (Below.refl _ _).alloc (Nat.le_refl _) _
  have hb2 : Below W1.heap.size W1 W2 := by rw [hW2]; exact (Below.refl _ _).alloc (Nat.le_refl _) _
  have hs1 : W1.heap[WA.heap.size]? = some (.cells #[.slice ca N cc, .slice qa m qc, .int .i64 (b : Int), .int .i64 0, .bool false] 74 (0, 0)) := by rw [hW1]; exact heap_new _ _
  have HSD := hide (show Sd ⟨k, N, ln, L, m, f⟩ w WA.heap.size W1.heap.size b 0 false ca qa cc qc [] W2 from ⟨(hb2.block _ (blk_lt hs1)).trans hs1, ⟨_, by rw [hW2]; exact heap_new _ _, fun i hi => by rw [made_at _ _ _ hi]; rfl⟩, bl_t (bl_t (unhide HBA) hb1) hb2, by have := unhide HZA; have := unhide HRB; omega⟩)
  have HZ2 := hide (show W2.heap[rb]? = some (.cells #[.int .i64 0, .slice none 0 0, .int .i64 0] 29 (0, 0)) from (hb2.block _ (Nat.lt_of_lt_of_le (unhide HZA) hb1.size)).trans ((hb1.block _ (unhide HZA)).trans (unhide HZ)))
  clear hb1 hb2 hs1 HZ
  go_upto_region 5 with fail
  rw [← hW1]
  obtain ⟨sb, hsb⟩ : ∃ x, x = WA.heap.size := ⟨_, rfl⟩
  rw [← hsb]
  rw [← hsb] at HSD HZA
  clear hsb hW1
  have HTK := hide (show Tk ⟨k, N, ln, L, m, f⟩ [] k from ⟨by simp, by simp [Nd], by simp⟩)
  have HVB := hide (show W1.heap.size = W1.heap.size from rfl)
  have c3 := hide (unhide c2 sb W1.heap.size k W2 (unhide HTK) (unhide HSD))
  clear c1 c2 HBA
  have hrv := fr_v ⟨k, N, ln, L, m, f⟩ b k [] 0
  obtain ⟨R, hR0⟩ : ∃ R, R = Pb.fr ⟨k, N, ln, L, m, f⟩ b k [] 0 := ⟨_, rfl⟩
  rw [← hR0] at hrv c3 HRS
  clear hR0
  obtain ⟨R1, R2, R3⟩ := R
  rcases hrv with e | e | e
  · have e' : R1 = 1 := e
    subst e'
    have cF := hide ((unhide c3).mono (R' := fun x w' => ∃ g2 gc2, x = .returned (.tuple #[.slice (some ⟨g2, 0, none⟩) k gc2, .bool true]) ∧ Bt sb W2 w' ∧ Sd ⟨k, N, ln, L, m, f⟩ w sb W1.heap.size b R3 false ca qa cc qc [] w' ∧ Va w' g2 k R2) (fun x w' hx => by
      obtain ⟨q1, q2, q3, ⟨_, g2, gc2, q4, q5⟩ | ⟨q | q, _⟩⟩ := hx
      · exact ⟨g2, gc2, q4, q1, q2, q5⟩
      · cases q
      · cases q))
    clear c3 e
    go_upto_region 10 with (go_at_call 44; rw [← hW2]; refine (unhide cF).mono ?_; rintro x3 w3 ⟨g2, gc2, rfl, hb3, hs3, hv3⟩; have HBL := hide hs3.bel; have HSS := hide hs3; have HV3 := hide hv3; have c33 := hs3.cells.2.2.2.1; have c44 := hs3.cells.2.2.2.2.1; have hz3 := (hb3.block _ (blk_lt (unhide HZ2)) (Nat.ne_of_lt (unhide HZA))).trans (unhide HZ2); have HZ3 := hide hz3; clear hb3 hs3 hz3 hv3)
    clear c33 c44
    obtain ⟨i0, hi0, hz0, hz1, hz2⟩ := info_parts infoB
    go_wp2_with fail
    go_loopg [14, 15] k (fun g1 vl_ vi wr => ∃ (j : Nat) (la : Option Addr) (lc : Nat), vi = .int .i64 j ∧ vl_ = .slice la j lc ∧ j ≤ k ∧ k - j ≤ g1 ∧ Hid (wr.ownsRow w3.heap.size 4 1 (.slice la j lc) j (vl j (bv (mv R2)))) ∧ Hid (Below w3.heap.size w3 wr))
    case atStart => exact ⟨0, none, 0, by go_num, rfl, by omega, by omega, hide (World.ownsRow_nil _ _ _ _), hide (Below.refl _ _)⟩
    case round =>
      obtain ⟨j, la, lc, rfl, rfl, hj, hg, HO, HB⟩ := hrel
      have hsz := (unhide HB).size
      by_cases hlt : j < k
      · have hc := ((unhide HV3).later (unhide HB)).cell hlt
        have hy1 : ov (vt R2 j) = 1 ↔ mv R2 j = true := by
          rw [ov_one]
          unfold mv
          simp
        generalize ov (vt R2 j) = y at *
        cases hmv : mv R2 j with
        | true =>
          obtain rfl : y = 1 := hy1.2 hmv
          clear hy1
          have HVS := hide (show vl (j + 1) (bv (mv R2)) = vl j (bv (mv R2)) ++ [.bool true] from by rw [vl_succ]; simp [bv, hmv])
          clear hmv
          go_wp2_with (at_builtin; go_must (refine wpList_append_lies _ rfl _ _ 27 rfl w3.heap.size 4 i0 (.bool false) 1 1 Try.underlying27 hi0 hz0 hz1 hz2 rfl (by decide) (.slice la j lc) j _ rfl ((unhide HO).alloc _) ⟨wr.heap.size, 0, none⟩ 1 1 [.bool true] rfl rfl (cell_one_new _ _ _) (by simp [Value.oneCell']) (by decide) (by unfold maxLen; omega) (by omega) (by simp; omega) _ rfl ?_); intro gg c9 w9 hown hgrow hat _; have HO9 := hide (show w9.ownsRow w3.heap.size 4 1 (.slice (some ⟨gg, 0, none⟩) (j + 1) c9) (j + 1) (vl (j + 1) (bv (mv R2))) from by rw [unhide HVS]; exact hown); have HB9 := hide (((unhide HB).alloc hsz _).grown hgrow (by simp; omega) (fun j e => ((unhide HO).lt j e).1)); clear hown hgrow hat)
          go_roundg (k - (j + 1))
          case measure => omega
          case rel => exact ⟨j + 1, _, _, by go_num, rfl, by omega, by omega, HO9, HB9⟩
        | false =>
          have hyn : (y == 1) = false := by
            have : y ≠ 1 := fun q => by rw [hy1.1 q] at hmv; cases hmv
            simpa using this
          clear hy1
          have HVS := hide (show vl (j + 1) (bv (mv R2)) = vl j (bv (mv R2)) ++ [.bool false] from by rw [vl_succ]; simp [bv, hmv])
          clear hmv
          go_wp2_with (at_builtin; go_must (refine wpList_append_lies _ rfl _ _ 27 rfl w3.heap.size 4 i0 (.bool false) 1 1 Try.underlying27 hi0 hz0 hz1 hz2 rfl (by decide) (.slice la j lc) j _ rfl ((unhide HO).alloc _) ⟨wr.heap.size, 0, none⟩ 1 1 [.bool false] rfl rfl (cell_one_new _ _ _) (by simp [Value.oneCell']) (by decide) (by unfold maxLen; omega) (by omega) (by simp; omega) _ rfl ?_); intro gg c9 w9 hown hgrow hat _; have HO9 := hide (show w9.ownsRow w3.heap.size 4 1 (.slice (some ⟨gg, 0, none⟩) (j + 1) c9) (j + 1) (vl (j + 1) (bv (mv R2))) from by rw [unhide HVS]; exact hown); have HB9 := hide (((unhide HB).alloc hsz _).grown hgrow (by simp; omega) (fun j e => ((unhide HO).lt j e).1)); clear hown hgrow hat)
          go_roundg (k - (j + 1))
          case measure => omega
          case rel => exact ⟨j + 1, _, _, by go_num, rfl, by omega, by omega, HO9, HB9⟩
      · obtain rfl : j = k := by omega
        have HS9 := hide ((unhide HSS).later (unhide HB))
        have hz9 := ((unhide HB).block _ (blk_lt (unhide HZ3))).trans (unhide HZ3)
        have c33 := (unhide HS9).cells.2.2.2.1
        have r0 := (cell_blk hz9 0).1
        have r1 := (cell_blk hz9 1).1
        have r2 := (cell_blk hz9 2).1
        have y0 := (cell_blk hz9 0).2
        have y1 := (cell_blk hz9 1).2
        have y2 := (cell_blk hz9 2).2
        simp at r0 r1 r2
        have HST := hide (put3 hz9 (.int .i64 1) (.slice la j lc) (.int .i64 (R3 : Int)) (w := w) (unhide HS9).bel (by have := unhide HRB; omega))
        have HOW := hide (own_set (v := 2) (x := .int .i64 (R3 : Int)) (by decide) (set_blk (set_blk hz9 0 (.int .i64 1)) 1 (.slice la j lc)) (own_set (v := 1) (x := .slice la j lc) (by decide) (set_blk hz9 0 (.int .i64 1)) (own_set (v := 0) (x := .int .i64 1) (by decide) hz9 (unhide HO))))
        clear hz9
        go_wp2_with fail
        generalize ((wr.setCell ⟨rb, 0, none⟩ (.int .i64 1)).setCell ⟨rb, 1, none⟩ (.slice la j lc)).setCell ⟨rb, 2, none⟩ (.int .i64 (R3 : Int)) = W7 at HST HOW ⊢
        have q0 := (cell_blk (unhide HST).1 0).1
        have q1 := (cell_blk (unhide HST).1 1).1
        have q2 := (cell_blk (unhide HST).1 2).1
        simp at q0 q1 q2
        exact bodyPost_ret (v := .tuple #[.agg #[.int .i64 1, .slice la j lc, .int .i64 (R3 : Int)], .int .i64 0]) (by simp [results, Try.results31, go_sem, q0, q1, q2]) rfl ⟨1, R2, R3, j, la, lc, unhide HRS, rfl, (unhide HST).2.1, Ow.of (unhide HOW) (unhide HBL).size, rfl⟩
  · have e' : R1 = 2 := e
    subst e'
    have cF := hide ((unhide c3).mono (R' := fun x w' => x = .returned (.tuple #[.slice none 0 0, .bool false]) ∧ Bt sb W2 w' ∧ Sd ⟨k, N, ln, L, m, f⟩ w sb W1.heap.size b R3 false ca qa cc qc [] w') (fun x w' hx => by
      obtain ⟨q1, q2, q3, ⟨q, _⟩ | ⟨_, q4⟩⟩ := hx
      · cases q
      · exact ⟨q4, q1, q2⟩))
    clear c3 e
    go_wp2_with (go_at_call 44; rw [← hW2]; refine (unhide cF).mono ?_; rintro x3 w3 ⟨rfl, hb3, hs3⟩; have HBL := hide hs3.bel; have c33 := hs3.cells.2.2.2.1; have c44 := hs3.cells.2.2.2.2.1; have hz3 := (hb3.block _ (blk_lt (unhide HZ2)) (Nat.ne_of_lt (unhide HZA))).trans (unhide HZ2); have r0 := (cell_blk hz3 0).1; have r1 := (cell_blk hz3 1).1; have r2 := (cell_blk hz3 2).1; have y0 := (cell_blk hz3 0).2; have y1 := (cell_blk hz3 1).2; have y2 := (cell_blk hz3 2).2; have HZ3 := hide hz3; simp at r0 r1 r2; clear hb3 hs3 hz3)
    have HST := hide (put3 (unhide HZ3) (.int .i64 2) (.slice none 0 0) (.int .i64 (R3 : Int)) (w := w) (unhide HBL) (by have := unhide HRB; omega))
    generalize ((w3.setCell ⟨rb, 0, none⟩ (.int .i64 2)).setCell ⟨rb, 1, none⟩ (.slice none 0 0)).setCell ⟨rb, 2, none⟩ (.int .i64 (R3 : Int)) = W7 at HST ⊢
    have q0 := (cell_blk (unhide HST).1 0).1
    have q1 := (cell_blk (unhide HST).1 1).1
    have q2 := (cell_blk (unhide HST).1 2).1
    simp at q0 q1 q2
    exact bodyPost_ret (v := .tuple #[.agg #[.int .i64 2, .slice none 0 0, .int .i64 (R3 : Int)], .int .i64 0]) (by simp [results, Try.results31, go_sem, q0, q1, q2]) rfl ⟨2, R2, R3, 0, none, 0, unhide HRS, rfl, (unhide HST).2.1, fun h => absurd h (Nat.lt_irrefl _), rfl⟩
  · have e' : R1 = 3 := e
    subst e'
    have cF := hide ((unhide c3).mono (R' := fun x w' => x = .returned (.tuple #[.slice none 0 0, .bool false]) ∧ Bt sb W2 w' ∧ Sd ⟨k, N, ln, L, m, f⟩ w sb W1.heap.size b R3 true ca qa cc qc [] w') (fun x w' hx => by
      obtain ⟨q1, q2, q3, ⟨q, _⟩ | ⟨_, q4⟩⟩ := hx
      · cases q
      · exact ⟨q4, q1, q2⟩))
    clear c3 e
    go_wp2_with (go_at_call 44; rw [← hW2]; refine (unhide cF).mono ?_; rintro x3 w3 ⟨rfl, hb3, hs3⟩; have HBL := hide hs3.bel; have c33 := hs3.cells.2.2.2.1; have c44 := hs3.cells.2.2.2.2.1; have hz3 := (hb3.block _ (blk_lt (unhide HZ2)) (Nat.ne_of_lt (unhide HZA))).trans (unhide HZ2); have r0 := (cell_blk hz3 0).1; have r1 := (cell_blk hz3 1).1; have r2 := (cell_blk hz3 2).1; have y0 := (cell_blk hz3 0).2; have y1 := (cell_blk hz3 1).2; have y2 := (cell_blk hz3 2).2; have HZ3 := hide hz3; simp at r0 r1 r2; clear hb3 hs3 hz3)
    have HST := hide (put3 (unhide HZ3) (.int .i64 3) (.slice none 0 0) (.int .i64 (R3 : Int)) (w := w) (unhide HBL) (by have := unhide HRB; omega))
    generalize ((w3.setCell ⟨rb, 0, none⟩ (.int .i64 3)).setCell ⟨rb, 1, none⟩ (.slice none 0 0)).setCell ⟨rb, 2, none⟩ (.int .i64 (R3 : Int)) = W7 at HST ⊢
    have q0 := (cell_blk (unhide HST).1 0).1
    have q1 := (cell_blk (unhide HST).1 1).1
    have q2 := (cell_blk (unhide HST).1 2).1
    simp at q0 q1 q2
    exact bodyPost_ret (v := .tuple #[.agg #[.int .i64 3, .slice none 0 0, .int .i64 (R3 : Int)], .int .i64 0]) (by simp [results, Try.results31, go_sem, q0, q1, q2]) rfl ⟨3, R2, R3, 0, none, 0, unhide HRS, rfl, (unhide HST).2.1, fun h => absurd h (Nat.lt_irrefl _), rfl⟩
end Go.Proofs.Ytabjbppekijfiaa
