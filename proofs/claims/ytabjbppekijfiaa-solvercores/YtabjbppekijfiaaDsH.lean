import Derived.Test.YtabjbppekijfiaaDsG
namespace Go.Proofs.Ytabjbppekijfiaa
open Go.RowKit

def eB (n B : Int) : Int := if okN n = true ∧ 0 ≤ B ∧ B ≤ 1152921504606846976 then 90 else 1
theorem eB_ne (n B : Int) : eB n B ≠ 0 := by
  unfold eB
  split <;> decide
theorem refused_bad {n B : Int} {N : Nat} {ln : Nat → Nat} {L : Nat → Nat → Int} {m : Nat} {f : Nat → Int} (hp : prob n B N ln L m f = false) {ca qa : Option Addr} {cc qc : Nat} {w : World} (hN : N ≤ 140737488355328) (hm : m ≤ 140737488355328) (hln : ∀ k, k < N → ln k ≤ 140737488355328) (hR : Rr w ca N ln L) (hQ : Ri w qa m f) :
    Calls Try.prog 41 #[.int .i64 n, .slice ca N cc, .slice qa m qc, .int .i64 B] w fun x w' => x = .returned (.int .i64 (eB n B)) ∧ w' = w := by
  unfold eB
  by_cases hB : 0 ≤ B ∧ B ≤ 1152921504606846976
  · have h := refused_any n N ln L m f B hB ca qa cc qc w hN hln hm hR hQ
    by_cases h1 : okN n = true
    · rw [if_pos ⟨h1, hB.1, hB.2⟩]
      rw [if_pos h1, if_neg (fun q => by rw [prob_iff.2 ⟨h1, hB.1, hB.2, q.1, q.2⟩] at hp; cases hp)] at h
      exact h
    · rw [if_neg (fun q => h1 q.1)]
      rw [if_neg h1] at h
      exact h
  · rw [if_neg (fun q => hB q.2)]
    exact refused_badB n N m B hB ca qa cc qc w
set_option maxRecDepth 100000 in
set_option maxHeartbeats 2000000 in
theorem rSolve_bad {n B : Int} {N : Nat} {ln : Nat → Nat} {L : Nat → Nat → Int} {m : Nat} {f : Nat → Int} (hp : prob n B N ln L m f = false) {ca qa : Option Addr} {cc qc : Nat} {w : World} (hN : N ≤ 140737488355328) (hm : m ≤ 140737488355328) (hln : ∀ k, k < N → ln k ≤ 140737488355328) (hR : Rr w ca N ln L) (hQ : Ri w qa m f) :
    Calls Try.prog 31 #[.int .i64 n, .slice ca N cc, .slice qa m qc, .int .i64 B] w fun x w' => x = .returned (.tuple #[.agg #[.int .i64 0, .slice none 0 0, .int .i64 0], .int .i64 (eB n B)]) ∧ Below w.heap.size w w' := by
  have c1 := hide (fun (w1 : World) (hb : Below w.heap.size w w1) => refused_bad (ca := ca) (qa := qa) (cc := cc) (qc := qc) (w := w1) hp hN hm hln (hR.later hb) (Ri.later hQ hb))
  have hz := eB_ne n B
  clear hp hln hR hQ
  generalize eB n B = e at *
  obtain ⟨WA, hA⟩ : ∃ W, W = w.alloc (.cells #[.int .i64 0, .slice none 0 0, .int .i64 0] 29) := ⟨_, rfl⟩
  have HZ := hide (show WA.heap[w.heap.size]? = some (.cells #[.int .i64 0, .slice none 0 0, .int .i64 0] 29 (0, 0)) from by rw [hA]; exact heap_new _ _)
  have hbA : Below w.heap.size w WA := by rw [hA]; exact (Below.refl _ _).alloc (Nat.le_refl _) _
  have HBA := hide hbA
  have HST := hide (put3 (unhide HZ) (.int .i64 0) (.slice none 0 0) (.int .i64 0) (w := w) hbA (Nat.le_refl _))
  clear hbA
  go_enter Try.func31, Try.ntmps31
  go_wp2_with fail
  rw [← hA]
  obtain ⟨rb, hrb⟩ : ∃ x, x = w.heap.size := ⟨_, rfl⟩
  rw [← hrb]
  rw [← hrb] at HZ HST
  have HRB := hide hrb
  have z0 := (cell_blk (unhide HZ) 0).1
  have z1 := (cell_blk (unhide HZ) 1).1
  have z2 := (cell_blk (unhide HZ) 2).1
  have y0 := (cell_blk (unhide HZ) 0).2
  have y1 := (cell_blk (unhide HZ) 1).2
  have y2 := (cell_blk (unhide HZ) 2).2
  simp at z0 z1 z2
  clear hA hrb
  go_wp2_with (go_at_call 41; refine (unhide c1 _ (unhide HBA)).mono ?_; rintro x1 w1 ⟨rfl, hw1⟩; rw [hw1]; clear hw1 w1)
  generalize ((WA.setCell ⟨rb, 0, none⟩ (.int .i64 0)).setCell ⟨rb, 1, none⟩ (.slice none 0 0)).setCell ⟨rb, 2, none⟩ (.int .i64 0) = W7 at HST ⊢
  have q0 := (cell_blk (unhide HST).1 0).1
  have q1 := (cell_blk (unhide HST).1 1).1
  have q2 := (cell_blk (unhide HST).1 2).1
  simp at q0 q1 q2
  exact bodyPost_ret (v := .tuple #[.agg #[.int .i64 0, .slice none 0 0, .int .i64 0], .int .i64 e]) (by simp [results, Try.results31, go_sem, q0, q1, q2]) rfl ⟨rfl, by have q := (unhide HST).2.1; rw [unhide HRB] at q; exact q⟩
end Go.Proofs.Ytabjbppekijfiaa
