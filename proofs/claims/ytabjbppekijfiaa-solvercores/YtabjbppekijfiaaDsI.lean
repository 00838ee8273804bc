import Derived.Test.YtabjbppekijfiaaDsH
import Derived.Test.YtabjbppekijfiaaLwG
namespace Go.Proofs.Ytabjbppekijfiaa
open Go.RowKit

/-- AN ANSWER. -/
structure An where
  v : Int
  S : Nat
  l : Nat
  F : Nat → Bool
  e : Int
def an (n B : Int) (N : Nat) (ln : Nat → Nat) (L : Nat → Nat → Int) (m : Nat) (f : Nat → Int) : An :=
  if prob n B N ln L m f = true then ⟨(Pb.fr ⟨n.toNat, N, ln, L, m, f⟩ B.toNat n.toNat [] 0).1, (Pb.fr ⟨n.toNat, N, ln, L, m, f⟩ B.toNat n.toNat [] 0).2.2, if (Pb.fr ⟨n.toNat, N, ln, L, m, f⟩ B.toNat n.toNat [] 0).1 = 1 then n.toNat else 0, mv (Pb.fr ⟨n.toNat, N, ln, L, m, f⟩ B.toNat n.toNat [] 0).2.1, 0⟩
  else ⟨0, 0, 0, fun _ => false, eB n B⟩
theorem an_ok {n B : Int} {N : Nat} {ln : Nat → Nat} {L : Nat → Nat → Int} {m : Nat} {f : Nat → Int} (hp : prob n B N ln L m f = true) {v : Int} {tr : List Int} {S : Nat} (h : Rs ⟨n.toNat, N, ln, L, m, f⟩ B.toNat v tr S) : ∃ F, an n B N ln L m f = ⟨v, S, if v = 1 then n.toNat else 0, F, 0⟩ ∧ (v ≠ 3 → F = mv tr) := by
  obtain ⟨q1, q2, q3⟩ := h.same (fr_rs (prob_ok hp).1)
  unfold an
  rw [if_pos hp]
  refine ⟨mv (Pb.fr ⟨n.toNat, N, ln, L, m, f⟩ B.toNat n.toNat [] 0).2.1, ?_, fun hv => by rw [q3 hv]⟩
  have q1' : (Pb.fr ⟨n.toNat, N, ln, L, m, f⟩ B.toNat n.toNat [] 0).1 = v := q1
  have q2' : (Pb.fr ⟨n.toNat, N, ln, L, m, f⟩ B.toNat n.toNat [] 0).2.2 = S := q2
  rw [q1', q2']
theorem an_no {n B : Int} {N : Nat} {ln : Nat → Nat} {L : Nat → Nat → Int} {m : Nat} {f : Nat → Int} (hp : prob n B N ln L m f = false) : an n B N ln L m f = ⟨0, 0, 0, fun _ => false, eB n B⟩ := by
  unfold an
  rw [if_neg (by rw [hp]; decide)]
theorem an_l {n B : Int} {N : Nat} {ln : Nat → Nat} {L : Nat → Nat → Int} {m : Nat} {f : Nat → Int} : (an n B N ln L m f).l ≤ 131071 := by
  cases hp : prob n B N ln L m f with
  | false => rw [an_no hp]; exact Nat.zero_le _
  | true =>
    have := (prob_ok hp).1.n
    unfold an
    rw [if_pos hp]
    show (if _ then n.toNat else 0) ≤ _
    split
    · exact this
    · decide
theorem Solve_an {n B : Int} {N : Nat} {ln : Nat → Nat} {L : Nat → Nat → Int} {m : Nat} {f : Nat → Int} {ca qa : Option Addr} {cc qc : Nat} {w : World} (hN : N ≤ 140737488355328) (hm : m ≤ 140737488355328) (hln : ∀ k, k < N → ln k ≤ 140737488355328) (hR : Rr w ca N ln L) (hQ : Ri w qa m f) :
    Calls Try.prog 13 #[.int .i64 n, .slice ca N cc, .slice qa m qc, .int .i64 B] w fun x w' => ∃ g, x = .returned (.tuple #[.agg #[.int .i64 (an n B N ln L m f).v, .slice g (an n B N ln L m f).l (an n B N ln L m f).l, .int .i64 ((an n B N ln L m f).S : Int)], .int .i64 (an n B N ln L m f).e]) ∧ Below w.heap.size w w' ∧ Ow w.heap.size g (an n B N ln L m f).l (an n B N ln L m f).F w' := by
  cases hp : prob n B N ln L m f with
  | false =>
    rw [an_no hp]
    refine (Solve_bad hp hN hm hln hR hQ).mono fun x w' hx => ?_
    obtain ⟨e, he, rfl, hb⟩ := hx
    exact ⟨none, by rw [he]; rfl, hb, fun h => absurd h (Nat.lt_irrefl _)⟩
  | true =>
    refine (Solve_ok hp hN hm hln hR hQ).mono fun x w' hx => ?_
    obtain ⟨v, tr, S, vv, hrs, rfl, hb, hvv⟩ := hx
    obtain ⟨F, e1, e2⟩ := an_ok hp hrs
    rw [e1]
    rcases hvv with ⟨hv, rfl⟩ | ⟨hv, g, rfl, hg, hmw⟩
    · simp only [if_neg hv]
      exact ⟨none, rfl, hb, fun h => absurd h (Nat.lt_irrefl _)⟩
    · subst hv
      rw [e2 (by decide)]
      exact ⟨some ⟨g, 0, none⟩, rfl, hb, fun _ => ⟨g, rfl, hg, hmw⟩⟩
theorem rSolve_an {n B : Int} {N : Nat} {ln : Nat → Nat} {L : Nat → Nat → Int} {m : Nat} {f : Nat → Int} {ca qa : Option Addr} {cc qc : Nat} {w : World} (hN : N ≤ 140737488355328) (hm : m ≤ 140737488355328) (hln : ∀ k, k < N → ln k ≤ 140737488355328) (hR : Rr w ca N ln L) (hQ : Ri w qa m f) :
    Calls Try.prog 31 #[.int .i64 n, .slice ca N cc, .slice qa m qc, .int .i64 B] w fun x w' => ∃ g gc, x = .returned (.tuple #[.agg #[.int .i64 (an n B N ln L m f).v, .slice g (an n B N ln L m f).l gc, .int .i64 ((an n B N ln L m f).S : Int)], .int .i64 (an n B N ln L m f).e]) ∧ Below w.heap.size w w' ∧ Ow w.heap.size g (an n B N ln L m f).l (an n B N ln L m f).F w' := by
  cases hp : prob n B N ln L m f with
  | false =>
    rw [an_no hp]
    refine (rSolve_bad hp hN hm hln hR hQ).mono fun x w' hx => ?_
    obtain ⟨rfl, hb⟩ := hx
    exact ⟨none, 0, rfl, hb, fun h => absurd h (Nat.lt_irrefl _)⟩
  | true =>
    refine (rSolve_ok hp hN hm hln hR hQ).mono fun x w' hx => ?_
    obtain ⟨v, tr, S, l, g, gc, hrs, rfl, hb, hrt, hl⟩ := hx
    obtain ⟨F, e1, e2⟩ := an_ok hp hrs
    rw [e1]
    subst hl
    refine ⟨g, gc, rfl, hb, ?_⟩
    by_cases hv : v = 1
    · rw [e2 (by omega)]
      exact hrt
    · show Ow w.heap.size g (if v = 1 then n.toNat else 0) F w'
      rw [if_neg hv]
      exact fun h => absurd h (Nat.lt_irrefl _)
def lnX (k : Nat) : Nat := if k = 0 then 1 else 2
def LX (i k : Nat) : Int := if i = 0 then 2 else if k = 0 then -1 else 3
def fX (_ : Nat) : Int := 1
theorem anX : (an 3 99 2 lnX LX 1 fX).v = 1 ∧ (an 3 99 2 lnX LX 1 fX).S = 8 ∧ (an 3 99 2 lnX LX 1 fX).l = 3 ∧ (an 3 99 2 lnX LX 1 fX).e = 0 ∧ (an 3 99 2 lnX LX 1 fX).F 0 = true ∧ (an 3 99 2 lnX LX 1 fX).F 1 = true ∧ (an 3 99 2 lnX LX 1 fX).F 2 = true := by
  refine ⟨?_, ?_, ?_, ?_, ?_, ?_, ?_⟩ <;> kernel_rfl
theorem lay4 (w : World) (a b c d : Obj) : ((((w.alloc a).alloc b).alloc c).alloc d).heap[w.heap.size]? = some a ∧ ((((w.alloc a).alloc b).alloc c).alloc d).heap[w.heap.size + 1]? = some b ∧ ((((w.alloc a).alloc b).alloc c).alloc d).heap[w.heap.size + 1 + 1]? = some c ∧ ((((w.alloc a).alloc b).alloc c).alloc d).heap[w.heap.size + 1 + 1 + 1]? = some d ∧ Below w.heap.size w ((((w.alloc a).alloc b).alloc c).alloc d) := by
  obtain ⟨h1, h2, h3, hb⟩ := lay3 w a b c
  have s3 : (((w.alloc a).alloc b).alloc c).heap.size = w.heap.size + 1 + 1 + 1 := by simp
  refine ⟨?_, ?_, ?_, ?_, bl_t hb ((Below.refl _ _).alloc (Nat.le_refl _) _)⟩
  · rw [heap_old _ _ _ (by omega)]; exact h1
  · rw [heap_old _ _ _ (by omega)]; exact h2
  · rw [heap_old _ _ _ (by omega)]; exact h3
  · rw [← s3, heap_new]
theorem solveX (w : World) : Calls Try.prog 13 #[.int .i64 3, .slice (some ⟨w.heap.size + 1 + 1, 0, none⟩) 2 2, .slice (some ⟨w.heap.size + 1 + 1 + 1, 0, none⟩) 1 1, .int .i64 99] ((((w.alloc (.cells #[.int .i64 2] 3)).alloc (.cells #[.int .i64 (-1), .int .i64 3] 3)).alloc (.cells #[.slice (some ⟨w.heap.size, 0, none⟩) 1 1, .slice (some ⟨w.heap.size + 1, 0, none⟩) 2 2] 23)).alloc (.cells #[.int .i64 1] 3))
    fun x w' => ∃ g, x = .returned (.tuple #[.agg #[.int .i64 1, .slice g 3 3, .int .i64 8], .int .i64 0]) ∧ Rt w' g 3 (fun _ => true) ∧ Below w.heap.size w w' := by
  obtain ⟨b1, b2, b3, b4, hb⟩ := lay4 w (.cells #[.int .i64 2] 3) (.cells #[.int .i64 (-1), .int .i64 3] 3) (.cells #[.slice (some ⟨w.heap.size, 0, none⟩) 1 1, .slice (some ⟨w.heap.size + 1, 0, none⟩) 2 2] 23) (.cells #[.int .i64 1] 3)
  refine (Solve_an (N := 2) (ln := lnX) (L := LX) (m := 1) (f := fX) (by decide) (by decide) (fun k _ => by unfold lnX; split <;> decide) ⟨fun k => if k = 0 then some ⟨w.heap.size, 0, none⟩ else some ⟨w.heap.size + 1, 0, none⟩, fun k => if k = 0 then 1 else 2, fun _ => ⟨_, 0, rfl, blk_lt b3, fun i hi => cellA b3 (by
      have hi2 : i < 2 := hi
      rcases (by omega : i = 0 ∨ i = 1) with e | e <;> subst e <;> rfl)⟩, fun k hk _ => by
      have hk2 : k < 2 := hk
      rcases (by omega : k = 0 ∨ k = 1) with e | e
      · subst e
        exact ⟨_, 0, rfl, blk_lt b1, fun i hi => cellA b1 (by
          have hi2 : i < 1 := hi
          obtain rfl : i = 0 := by omega
          rfl)⟩
      · subst e
        exact ⟨_, 0, rfl, blk_lt b2, fun i hi => cellA b2 (by
          have hi2 : i < 2 := hi
          rcases (by omega : i = 0 ∨ i = 1) with e | e <;> subst e <;> rfl)⟩⟩ (fun _ => ⟨_, 0, rfl, blk_lt b4, fun i hi => cellA b4 (by
      have hi2 : i < 1 := hi
      obtain rfl : i = 0 := by omega
      rfl)⟩)).mono fun x w' hx => ?_
  obtain ⟨g, rfl, hb2, how⟩ := hx
  obtain ⟨e1, e2, e3, e4, e5, e6, e7⟩ := anX
  have hrt := how.rt
  rw [e3] at hrt
  refine ⟨g, by rw [e1, e2, e3, e4]; rfl, fun hl => ?_, bl_t hb hb2⟩
  obtain ⟨b, o, e, lt, hc⟩ := hrt hl
  refine ⟨b, o, e, lt, fun i hi => (hc i hi).trans ?_⟩
  rcases (by omega : i = 0 ∨ i = 1 ∨ i = 2) with q | q | q
  · subst q; show some (Value.bool _) = some (Value.bool true); rw [e5]
  · subst q; show some (Value.bool _) = some (Value.bool true); rw [e6]
  · subst q; show some (Value.bool _) = some (Value.bool true); rw [e7]
end Go.Proofs.Ytabjbppekijfiaa
