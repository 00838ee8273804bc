import Derived.Test.YtabjbppekijfiaaVsF
namespace Go.Proofs.Ytabjbppekijfiaa
open Go.RowKit

/-- IS IT A PROBLEM? -/
def prob (n B : Int) (N : Nat) (ln : Nat → Nat) (L : Nat → Nat → Int) (m : Nat) (f : Nat → Int) : Bool := okN n && decide (0 ≤ B) && decide (B ≤ 1152921504606846976) && lits n N ln L && bAll m fun k => okL n (f k)
theorem prob_iff {n B : Int} {N : Nat} {ln : Nat → Nat} {L : Nat → Nat → Int} {m : Nat} {f : Nat → Int} : prob n B N ln L m f = true ↔ okN n = true ∧ 0 ≤ B ∧ B ≤ 1152921504606846976 ∧ lits n N ln L = true ∧ (bAll m fun k => okL n (f k)) = true := by
  unfold prob
  simp [and_assoc]
theorem prob_ok {n B : Int} {N : Nat} {ln : Nat → Nat} {L : Nat → Nat → Int} {m : Nat} {f : Nat → Int} (h : prob n B N ln L m f = true) : Pb.Ok ⟨n.toNat, N, ln, L, m, f⟩ ∧ n = (n.toNat : Int) ∧ B = (B.toNat : Int) ∧ B.toNat ≤ 1152921504606846976 := by
  obtain ⟨h1, h2, h3, h4, h5⟩ := prob_iff.1 h
  have h0 := (okN_iff _).1 h1
  have e : n = (n.toNat : Int) := by omega
  rw [e] at h4 h5
  exact ⟨⟨by show n.toNat ≤ 131071; omega, lits_at h4, (bAll_iff _ _).1 h5⟩, e, by omega, by omega⟩
def So (P : Pb) (B : Nat) (w : World) (x : Ending) (w' : World) : Prop := ∃ v tr S vv, Rs P B v tr S ∧ x = .returned (.tuple #[.agg #[.int .i64 v, vv, .int .i64 (S : Int)], .int .i64 0]) ∧ Below w.heap.size w w' ∧
  ((v ≠ 1 ∧ vv = .slice none 0 0) ∨ (v = 1 ∧ ∃ g, vv = .slice (some ⟨g, 0, none⟩) P.n P.n ∧ w.heap.size ≤ g ∧ Mw g P.n (mv tr) w'))
/-- A struct of three laid down. -/
theorem put3 {W : World} {rb t : Nat} {c0 c1 c2 : Value} (h : W.heap[rb]? = some (.cells #[c0, c1, c2] t (0, 0))) (y0 y1 y2 : Value) {w : World} (hb : Below w.heap.size w W) (hr : w.heap.size ≤ rb) :
    (((W.setCell ⟨rb, 0, none⟩ y0).setCell ⟨rb, 1, none⟩ y1).setCell ⟨rb, 2, none⟩ y2).heap[rb]? = some (.cells #[y0, y1, y2] t (0, 0)) ∧ Below w.heap.size w (((W.setCell ⟨rb, 0, none⟩ y0).setCell ⟨rb, 1, none⟩ y1).setCell ⟨rb, 2, none⟩ y2) ∧ ∀ g, g ≠ rb → (((W.setCell ⟨rb, 0, none⟩ y0).setCell ⟨rb, 1, none⟩ y1).setCell ⟨rb, 2, none⟩ y2).heap[g]? = W.heap[g]? := by
  have b0 := set_blk h 0 y0
  have b1 := set_blk b0 1 y1
  have b2 := set_blk b1 2 y2
  exact ⟨by rw [b2]; simp, ((hb.setCell (p := ⟨rb, 0, none⟩) hr _).setCell (p := ⟨rb, 1, none⟩) hr _).setCell (p := ⟨rb, 2, none⟩) hr _, fun g hg => (set_other _ _ _ _ _ hg).trans ((set_other _ _ _ _ _ hg).trans (set_other _ _ _ _ _ hg))⟩
set_option maxRecDepth 100000 in
set_option maxHeartbeats 1000000 in
theorem Solve_ok {n B : Int} {N : Nat} {ln : Nat → Nat} {L : Nat → Nat → Int} {m : Nat} {f : Nat → Int} (hp : prob n B N ln L m f = true) {ca qa : Option Addr} {cc qc : Nat} {w : World} (hN : N ≤ 140737488355328) (hm : m ≤ 140737488355328) (hln : ∀ k, k < N → ln k ≤ 140737488355328) (hR : Rr w ca N ln L) (hQ : Ri w qa m f) :
    Calls Try.prog 13 #[.int .i64 n, .slice ca N cc, .slice qa m qc, .int .i64 B] w fun x w' => So ⟨n.toNat, N, ln, L, m, f⟩ B.toNat w x w' := by
  obtain ⟨h1, h2, h3, h4, h5⟩ := prob_iff.1 hp
  obtain ⟨hO, e1, e2, hB⟩ := prob_ok hp
  have c1 := hide (isNumber_any n)
  rw [h1] at c1
  have c2 := hide (fun (w' : World) (h : Rr w' ca N ln L) => areLiterals_any n h1 N ln L ca cc w' hN hln h)
  rw [show (bAll N fun k => bAll (ln k) fun j => okL n (L k j)) = true from h4] at c2
  have c3 := hide (fun (w' : World) (h : Ri w' qa m f) => isClause_any n h1 m f qa qc w' hm h)
  rw [h5] at c3
  have c4 := hide (fun (w' : World) (h : Rr w' ca N ln L) (hq : Ri w' qa m f) => find_any hO hB hN hm hln h hq (cc := cc) (qc := qc))
  simp only at c4
  rw [← e1, ← e2] at c4
  have HR := hide hR
  have HQ := hide hQ
  have h2' : ¬ B < 0 := by omega
  have h3' : ¬ B > 1152921504606846976 := by omega
  clear hp h1 h4 h5 hO hB hln hR hQ e1 e2
  obtain ⟨WA, hA⟩ : ∃ W, W = w.alloc (.cells #[.int .i64 0, .slice none 0 0, .int .i64 0] 29) := ⟨_, rfl⟩
  have HZ := hide (show WA.heap[w.heap.size]? = some (.cells #[.int .i64 0, .slice none 0 0, .int .i64 0] 29 (0, 0)) from by rw [hA]; exact heap_new _ _)
  have hbA : Below w.heap.size w WA := by rw [hA]; exact (Below.refl _ _).alloc (Nat.le_refl _) _
  have HBA := hide hbA
  have HRA := hide ((unhide HR).later hbA)
  have HQA := hide (Ri.later (unhide HQ) hbA)
  have HZA := hide (show w.heap.size < WA.heap.size from blk_lt (unhide HZ))
  clear hbA
  go_enter Try.func13, Try.ntmps13
  go_wp2_with fail
  rw [← hA]
  obtain ⟨rb, hrb⟩ : ∃ x, x = w.heap.size := ⟨_, rfl⟩
  rw [← hrb]
  rw [← hrb] at HZ HZA HBA
  have HRB := hide hrb
  clear hrb hA
  go_upto_region 5 with (first | (go_at_call 36; refine (unhide c1 _).mono ?_; rintro x w2 ⟨rfl, hw2⟩; rw [hw2]; clear hw2 w2) | (go_at_call 37; refine (unhide c2 _ (unhide HRA)).mono ?_; rintro x w2 ⟨rfl, hw2⟩; rw [hw2]; clear hw2 w2) | (go_at_call 38; refine (unhide c3 _ (unhide HQA)).mono ?_; rintro x w2 ⟨rfl, hw2⟩; rw [hw2]; clear hw2 w2))
  have cF := hide (unhide c4 WA (unhide HRA) (unhide HQA))
  clear c1 c2 c3 c4 HR HQ HRA HQA
  go_wp2_with (go_at_call 39; refine (unhide cF).mono ?_; rintro x3 w3 ⟨v, tr, S, vv, hrs, rfl, hb3, hvv⟩; have HRS := hide hrs; have HVV := hide hvv; have HB3 := hide hb3; have hz3 := (hb3.block _ (unhide HZA)).trans (unhide HZ); have r0 := (cell_blk hz3 0).1; have r1 := (cell_blk hz3 1).1; have r2 := (cell_blk hz3 2).1; have y0 := (cell_blk hz3 0).2; have y1 := (cell_blk hz3 1).2; have y2 := (cell_blk hz3 2).2; have HZ3 := hide hz3; simp at r0 r1 r2; obtain ⟨ga, gl, gc, hva⟩ : ∃ ga gl gc, vv = .slice ga gl gc := (by rcases hvv with ⟨_, e⟩ | ⟨_, g, e, _⟩; exact ⟨_, _, _, e⟩; exact ⟨_, _, _, e⟩); subst hva; clear hrs hvv hb3 hz3)
  have hrb := unhide HRB
  have HST := hide (put3 (unhide HZ3) (.int .i64 v) (.slice ga gl gc) (.int .i64 (S : Int)) (w := w) (by have q := unhide HBA; rw [hrb] at q; exact bl_t q (unhide HB3)) (by omega))
  clear hrb
  generalize ((w3.setCell ⟨rb, 0, none⟩ (.int .i64 v)).setCell ⟨rb, 1, none⟩ (.slice ga gl gc)).setCell ⟨rb, 2, none⟩ (.int .i64 (S : Int)) = W7 at HST ⊢
  have q0 := (cell_blk (unhide HST).1 0).1
  have q1 := (cell_blk (unhide HST).1 1).1
  have q2 := (cell_blk (unhide HST).1 2).1
  simp at q0 q1 q2
  refine bodyPost_ret (v := .tuple #[.agg #[.int .i64 v, .slice ga gl gc, .int .i64 (S : Int)], .int .i64 0]) (by simp [results, Try.results13, go_sem, q0, q1, q2]) rfl ⟨v, tr, S, _, unhide HRS, rfl, (unhide HST).2.1, ?_⟩
  rcases unhide HVV with ⟨a, b⟩ | ⟨a, g, b, c, d⟩
  · exact .inl ⟨a, b⟩
  · have hrb := unhide HRB
    have hza := unhide HZA
    refine .inr ⟨a, g, b, by omega, ?_⟩
    obtain ⟨cur, m1, m2⟩ := d
    exact ⟨cur, ((unhide HST).2.2 g (by omega)).trans m1, m2⟩
def Sb (n B : Int) (w : World) (x : Ending) (w' : World) : Prop := ∃ e : Int, e = (if okN n = true ∧ 0 ≤ B ∧ B ≤ 1152921504606846976 then 90 else 1) ∧ x = .returned (.tuple #[.agg #[.int .i64 0, .slice none 0 0, .int .i64 0], .int .i64 e]) ∧ Below w.heap.size w w'
set_option maxRecDepth 100000 in
set_option maxHeartbeats 1000000 in
theorem Solve_bad {n B : Int} {N : Nat} {ln : Nat → Nat} {L : Nat → Nat → Int} {m : Nat} {f : Nat → Int} (hp : prob n B N ln L m f = false) {ca qa : Option Addr} {cc qc : Nat} {w : World} (hN : N ≤ 140737488355328) (hm : m ≤ 140737488355328) (hln : ∀ k, k < N → ln k ≤ 140737488355328) (hR : Rr w ca N ln L) (hQ : Ri w qa m f) :
    Calls Try.prog 13 #[.int .i64 n, .slice ca N cc, .slice qa m qc, .int .i64 B] w fun x w' => Sb n B w x w' := by
  have c1 := hide (isNumber_any n)
  obtain ⟨WA, hA⟩ : ∃ W, W = w.alloc (.cells #[.int .i64 0, .slice none 0 0, .int .i64 0] 29) := ⟨_, rfl⟩
  have HZ := hide (show WA.heap[w.heap.size]? = some (.cells #[.int .i64 0, .slice none 0 0, .int .i64 0] 29 (0, 0)) from by rw [hA]; exact heap_new _ _)
  have hbA : Below w.heap.size w WA := by rw [hA]; exact (Below.refl _ _).alloc (Nat.le_refl _) _
  have HBA := hide hbA
  have HST := hide (put3 (unhide HZ) (.int .i64 0) (.slice none 0 0) (.int .i64 0) (w := w) hbA (Nat.le_refl _))
  have HRA := hide (hR.later hbA)
  have HQA := hide (Ri.later hQ hbA)
  clear hbA hR hQ
  by_cases h0 : okN n = true ∧ 0 ≤ B ∧ B ≤ 1152921504606846976
  · have HE := hide (show (90 : Int) = if okN n = true ∧ 0 ≤ B ∧ B ≤ 1152921504606846976 then 90 else 1 from (if_pos h0).symm)
    obtain ⟨h1, h2, h3⟩ := h0
    rw [h1] at c1
    have h2' : ¬ B < 0 := by omega
    have h3' : ¬ B > 1152921504606846976 := by omega
    have c2 := hide (areLiterals_any n h1 N ln L ca cc WA hN hln (unhide HRA))
    have c3 := hide (isClause_any n h1 m f qa qc WA hm (unhide HQA))
    cases hl : lits n N ln L with
    | false =>
      rw [show (bAll N fun k => bAll (ln k) fun j => okL n (L k j)) = false from hl] at c2
      clear hp h1 hl hln HRA HQA c3
      go_enter Try.func13, Try.ntmps13
      go_wp2_with fail
      rw [← hA]
      obtain ⟨rb, hrb⟩ : ∃ x, x = w.heap.size := ⟨_, rfl⟩
      rw [← hrb]
      rw [← hrb] at HZ HST
      have HRB := hide hrb
      have z0 := (cell_blk (unhide HZ) 0).1
      have z1 := (cell_blk (unhide HZ) 1).1
      have z2 := (cell_blk (unhide HZ) 2).1
      have y0 := (cell_blk (unhide HZ) 0).2
      have y1 := (cell_blk (unhide HZ) 1).2
      have y2 := (cell_blk (unhide HZ) 2).2
      simp at z0 z1 z2
      clear hA hrb
      go_wp2_with (first | (go_at_call 36; refine (unhide c1 _).mono ?_; rintro x w2 ⟨rfl, hw2⟩; rw [hw2]; clear hw2 w2) | (go_at_call 37; refine (unhide c2).mono ?_; rintro x w2 ⟨rfl, hw2⟩; rw [hw2]; clear hw2 w2))
      generalize ((WA.setCell ⟨rb, 0, none⟩ (.int .i64 0)).setCell ⟨rb, 1, none⟩ (.slice none 0 0)).setCell ⟨rb, 2, none⟩ (.int .i64 0) = W7 at HST ⊢
      have q0 := (cell_blk (unhide HST).1 0).1
      have q1 := (cell_blk (unhide HST).1 1).1
      have q2 := (cell_blk (unhide HST).1 2).1
      simp at q0 q1 q2
      exact bodyPost_ret (v := .tuple #[.agg #[.int .i64 0, .slice none 0 0, .int .i64 0], .int .i64 90]) (by simp [results, Try.results13, go_sem, q0, q1, q2]) rfl ⟨90, unhide HE, rfl, by have q := (unhide HST).2.1; rw [unhide HRB] at q; exact q⟩
    | true =>
      rw [show (bAll N fun k => bAll (ln k) fun j => okL n (L k j)) = true from hl] at c2
      have hb : (bAll m fun k => okL n (f k)) = false := by
        cases q : (bAll m fun k => okL n (f k)) with
        | false => rfl
        | true => rw [prob_iff.2 ⟨h1, h2, h3, hl, q⟩] at hp; cases hp
      rw [hb] at c3
      clear hp h1 hl hln HRA HQA hb
      go_enter Try.func13, Try.ntmps13
      go_wp2_with fail
      rw [← hA]
      obtain ⟨rb, hrb⟩ : ∃ x, x = w.heap.size := ⟨_, rfl⟩
      rw [← hrb]
      rw [← hrb] at HZ HST
      have HRB := hide hrb
      have z0 := (cell_blk (unhide HZ) 0).1
      have z1 := (cell_blk (unhide HZ) 1).1
      have z2 := (cell_blk (unhide HZ) 2).1
      have y0 := (cell_blk (unhide HZ) 0).2
      have y1 := (cell_blk (unhide HZ) 1).2
      have y2 := (cell_blk (unhide HZ) 2).2
      simp at z0 z1 z2
      clear hA hrb
      go_wp2_with (first | (go_at_call 36; refine (unhide c1 _).mono ?_; rintro x w2 ⟨rfl, hw2⟩; rw [hw2]; clear hw2 w2) | (go_at_call 37; refine (unhide c2).mono ?_; rintro x w2 ⟨rfl, hw2⟩; rw [hw2]; clear hw2 w2) | (go_at_call 38; refine (unhide c3).mono ?_; rintro x w2 ⟨rfl, hw2⟩; rw [hw2]; clear hw2 w2))
      generalize ((WA.setCell ⟨rb, 0, none⟩ (.int .i64 0)).setCell ⟨rb, 1, none⟩ (.slice none 0 0)).setCell ⟨rb, 2, none⟩ (.int .i64 0) = W7 at HST ⊢
      have q0 := (cell_blk (unhide HST).1 0).1
      have q1 := (cell_blk (unhide HST).1 1).1
      have q2 := (cell_blk (unhide HST).1 2).1
      simp at q0 q1 q2
      exact bodyPost_ret (v := .tuple #[.agg #[.int .i64 0, .slice none 0 0, .int .i64 0], .int .i64 90]) (by simp [results, Try.results13, go_sem, q0, q1, q2]) rfl ⟨90, unhide HE, rfl, by have q := (unhide HST).2.1; rw [unhide HRB] at q; exact q⟩
  · have HE := hide (show (1 : Int) = if okN n = true ∧ 0 ≤ B ∧ B ≤ 1152921504606846976 then 90 else 1 from (if_neg h0).symm)
    cases h1 : okN n with
    | false =>
      rw [h1] at c1
      clear hp h1 hln HRA HQA h0
      go_enter Try.func13, Try.ntmps13
      go_wp2_with fail
      rw [← hA]
      obtain ⟨rb, hrb⟩ : ∃ x, x = w.heap.size := ⟨_, rfl⟩
      rw [← hrb]
      rw [← hrb] at HZ HST
      have HRB := hide hrb
      have z0 := (cell_blk (unhide HZ) 0).1
      have z1 := (cell_blk (unhide HZ) 1).1
      have z2 := (cell_blk (unhide HZ) 2).1
      have y0 := (cell_blk (unhide HZ) 0).2
      have y1 := (cell_blk (unhide HZ) 1).2
      have y2 := (cell_blk (unhide HZ) 2).2
      simp at z0 z1 z2
      clear hA hrb
      go_wp2_with (first | (go_at_call 36; refine (unhide c1 _).mono ?_; rintro x w2 ⟨rfl, hw2⟩; rw [hw2]; clear hw2 w2))
      generalize ((WA.setCell ⟨rb, 0, none⟩ (.int .i64 0)).setCell ⟨rb, 1, none⟩ (.slice none 0 0)).setCell ⟨rb, 2, none⟩ (.int .i64 0) = W7 at HST ⊢
      have q0 := (cell_blk (unhide HST).1 0).1
      have q1 := (cell_blk (unhide HST).1 1).1
      have q2 := (cell_blk (unhide HST).1 2).1
      simp at q0 q1 q2
      exact bodyPost_ret (v := .tuple #[.agg #[.int .i64 0, .slice none 0 0, .int .i64 0], .int .i64 1]) (by simp [results, Try.results13, go_sem, q0, q1, q2]) rfl ⟨1, unhide HE, rfl, by have q := (unhide HST).2.1; rw [unhide HRB] at q; exact q⟩
    | true =>
      rw [h1] at c1
      by_cases h2 : B < 0
      · clear hp h1 hln HRA HQA h0
        go_enter Try.func13, Try.ntmps13
        go_wp2_with fail
        rw [← hA]
        obtain ⟨rb, hrb⟩ : ∃ x, x = w.heap.size := ⟨_, rfl⟩
        rw [← hrb]
        rw [← hrb] at HZ HST
        have HRB := hide hrb
        have z0 := (cell_blk (unhide HZ) 0).1
        have z1 := (cell_blk (unhide HZ) 1).1
        have z2 := (cell_blk (unhide HZ) 2).1
        have y0 := (cell_blk (unhide HZ) 0).2
        have y1 := (cell_blk (unhide HZ) 1).2
        have y2 := (cell_blk (unhide HZ) 2).2
        simp at z0 z1 z2
        clear hA hrb
        go_wp2_with (first | (go_at_call 36; refine (unhide c1 _).mono ?_; rintro x w2 ⟨rfl, hw2⟩; rw [hw2]; clear hw2 w2))
        generalize ((WA.setCell ⟨rb, 0, none⟩ (.int .i64 0)).setCell ⟨rb, 1, none⟩ (.slice none 0 0)).setCell ⟨rb, 2, none⟩ (.int .i64 0) = W7 at HST ⊢
        have q0 := (cell_blk (unhide HST).1 0).1
        have q1 := (cell_blk (unhide HST).1 1).1
        have q2 := (cell_blk (unhide HST).1 2).1
        simp at q0 q1 q2
        exact bodyPost_ret (v := .tuple #[.agg #[.int .i64 0, .slice none 0 0, .int .i64 0], .int .i64 1]) (by simp [results, Try.results13, go_sem, q0, q1, q2]) rfl ⟨1, unhide HE, rfl, by have q := (unhide HST).2.1; rw [unhide HRB] at q; exact q⟩
      · have h3 : B > 1152921504606846976 := by
          by_cases q : B > 1152921504606846976
          · exact q
          · exact absurd ⟨h1, by omega, by omega⟩ h0
        clear hp h1 hln HRA HQA h0
        go_enter Try.func13, Try.ntmps13
        go_wp2_with fail
        rw [← hA]
        obtain ⟨rb, hrb⟩ : ∃ x, x = w.heap.size := ⟨_, rfl⟩
        rw [← hrb]
        rw [← hrb] at HZ HST
        have HRB := hide hrb
        have z0 := (cell_blk (unhide HZ) 0).1
        have z1 := (cell_blk (unhide HZ) 1).1
        have z2 := (cell_blk (unhide HZ) 2).1
        have y0 := (cell_blk (unhide HZ) 0).2
        have y1 := (cell_blk (unhide HZ) 1).2
        have y2 := (cell_blk (unhide HZ) 2).2
        simp at z0 z1 z2
        clear hA hrb
        go_wp2_with (first | (go_at_call 36; refine (unhide c1 _).mono ?_; rintro x w2 ⟨rfl, hw2⟩; rw [hw2]; clear hw2 w2))
        generalize ((WA.setCell ⟨rb, 0, none⟩ (.int .i64 0)).setCell ⟨rb, 1, none⟩ (.slice none 0 0)).setCell ⟨rb, 2, none⟩ (.int .i64 0) = W7 at HST ⊢
        have q0 := (cell_blk (unhide HST).1 0).1
        have q1 := (cell_blk (unhide HST).1 1).1
        have q2 := (cell_blk (unhide HST).1 2).1
        simp at q0 q1 q2
        exact bodyPost_ret (v := .tuple #[.agg #[.int .i64 0, .slice none 0 0, .int .i64 0], .int .i64 1]) (by simp [results, Try.results13, go_sem, q0, q1, q2]) rfl ⟨1, unhide HE, rfl, by have q := (unhide HST).2.1; rw [unhide HRB] at q; exact q⟩
end Go.Proofs.Ytabjbppekijfiaa
