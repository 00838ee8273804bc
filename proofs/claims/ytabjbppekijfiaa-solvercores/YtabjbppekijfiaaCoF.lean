import Derived.Test.YtabjbppekijfiaaCoE
import Derived.Test.YtabjbppekijfiaaLwH
namespace Go.Proofs.Ytabjbppekijfiaa
open Go.RowKit

def nof : Nat → Int := fun _ => 0
/-- WHAT CORE ANSWERS. -/
def Cq (n N B : Nat) (ln : Nat → Nat) (L : Nat → Nat → Int) (w : World) (x : Ending) (w' : World) : Prop := ∃ v tr S, Rs ⟨n, N, ln, L, 0, nof⟩ B v tr S ∧ Below w.heap.size w w' ∧
  ((v ≠ 2 ∧ x = .returned (.tuple #[.slice none 0 0, .int .i64 v, .int .i64 0])) ∨ (v = 2 ∧ ∃ p la lc, x = .returned (.tuple #[.slice la p.length lc, .int .i64 2, .int .i64 0]) ∧ Cg n N B ln L p ∧ Ri w' la p.length (fun j => p.getD j 0) ∧ w'.ownsRow w.heap.size 3 1 (.slice la p.length lc) p.length (tV p)))
set_option maxRecDepth 100000 in
set_option maxHeartbeats 2000000 in
theorem Core_ok {n : Nat} {B : Int} {N : Nat} {ln : Nat → Nat} {L : Nat → Nat → Int} (hp : prob n B N ln L 0 nof = true) {ca : Option Addr} {cc : Nat} {w : World} (hN : N * 24 ≤ 140737488351232) (hln : ∀ k, k < N → ln k ≤ 140737488355328) (hR : Rr w ca N ln L) :
    Calls Try.prog 29 #[.int .i64 n, .slice ca N cc, .int .i64 B] w fun x w' => Cq n N B.toNat ln L w x w' := by
  obtain ⟨hO, e1, e2, hB⟩ := prob_ok hp
  rw [Int.toNat_natCast] at hO
  have HR := hide hR
  have HSO := hide (fun (w1 : World) (hb : Below w.heap.size w w1) => Solve_ok (cc := cc) (qc := 0) (qa := none) hp (by omega) (by omega) hln (hR.later hb) (fun h0 => absurd h0 (Nat.lt_irrefl _)))
  rw [Int.toNat_natCast] at HSO
  have HOK := hide hO
  have HFE := hide (fun (h : ∀ v, ¬ ∀ k, k < N → clT v (ln k) (L k) = true) (w1 : World) (hb : Below w.heap.size w w1) => fewest_any (B := B.toNat) (ca := ca) (cc := cc) (w := w1) ⟨hO.n, hO.cl⟩ h hB hN hln (hR.later hb))
  rw [← e2] at HFE
  clear hO e1 e2 hB hln hR hp
  have HB0 := hide (Below.refl w.heap.size w)
  go_enter Try.func29, Try.ntmps29
  go_upto_region 2 with (first | (go_at_call 13; refine (unhide HSO _ (unhide HB0)).mono ?_; rintro x5 w5 hso; obtain ⟨v, tr, S, l, g, hrs, rfl, hb5, hrt, hl, hgg⟩ := hso.first; have HRS := hide hrs; have HB5 := hide hb5; clear hrs hl hrt hb5 hso hgg))
  have hz := heap_new w5 (.cells #[.int .i64 v, .slice g l l, .int .i64 (S : Int)] 29)
  have HB7 := hide (bl_t (unhide HB5) (al w5 (.cells #[.int .i64 v, .slice g l l, .int .i64 (S : Int)] 29)))
  have c0 : (w5.alloc (.cells #[.int .i64 v, .slice g l l, .int .i64 (S : Int)] 29)).cell? ⟨w5.heap.size, 0, none⟩ = some (.int .i64 v) := (cell_blk hz 0).1
  clear hz HB5 HSO
  generalize w5.alloc (.cells #[.int .i64 v, .slice g l l, .int .i64 (S : Int)] 29) = W7 at *
  generalize w5.heap.size = rb at *
  by_cases hv : v = 2
  · subst hv
    have cF := hide (unhide HFE (fun v h => (unhide HRS).unsat (unhide HOK) v h) W7 (unhide HB7))
    go_wp2_with (go_at_call 43; refine (unhide cF).mono ?_; rintro x8 w8 ⟨p, la, lc, rfl, hcf, hri, hb8, how⟩; have HOW := hide (own_up how (unhide HB7).size); have HCF := hide hcf; have HRI := hide hri; have HB8 := hide (bl_t (unhide HB7) hb8); clear hcf hri hb8 how)
    refine bodyPost_ret (v := .tuple #[.slice la p.length lc, .int .i64 2, .int .i64 0]) (by simp [results, Try.results29, go_sem]) rfl ⟨2, tr, S, unhide HRS, unhide HB8, .inr ⟨rfl, p, la, lc, rfl, unhide HCF, unhide HRI, unhide HOW⟩⟩
  · go_wp2_with fail
    go_quiet (fail)
    have HB8 := hide (bl_t (unhide HB7) (bl_drewN W7 nq))
    generalize W7.drewN nq = W8 at *
    go_wp2
    refine bodyPost_ret (v := .tuple #[.slice none 0 0, .int .i64 v, .int .i64 0]) (by simp [results, Try.results29, go_sem]) rfl ⟨v, tr, S, unhide HRS, unhide HB8, .inl ⟨hv, rfl⟩⟩
end Go.Proofs.Ytabjbppekijfiaa
