import Derived.Test.YtpakhjbaniapnaaKsS
namespace Go.Proofs.Ytpakhjbaniapnaa
open Go.RowKit

/-- NOT TOO LONG. -/
structure Sm (p : Pk) : Prop where
  d : p.dp.length ≤ 5864062014634 ∧ ∀ i (h : i < p.dp.length), p.dp[i].length ≤ 3518437208780
  r : p.pr.length ≤ 5864062014634 ∧ ∀ i (h : i < p.pr.length), p.pr[i].length ≤ 3518437208780
  c : p.cf.length ≤ 3518437208780
  v : p.pv.length ≤ 8796093021952
  f : p.fs.length ≤ 2513169434843
  fo : ∀ a ∈ p.fs, ∀ u ∈ a.cs, u.oneCell' = true

/-- BETWEEN TWO FIELDS. -/
structure Cs (w W : World) (ps qs : List Value) : Prop where
  bel : Below w.heap.size w W
  big : w.heap.size + 1 + 1 + 1 ≤ W.heap.size
  pb : BkP W w.heap.size ps
  zb : ∃ zc, BkP W (w.heap.size + 1) zc
  qb : BkP W (w.heap.size + 1 + 1) qs
theorem Cs.later {w W W2 : World} {ps qs : List Value} (h : Cs w W ps qs) (hb : Below W.heap.size W W2) : Cs w W2 ps qs :=
  ⟨bl_t h.bel hb, Nat.le_trans h.big hb.size, h.pb.later hb, h.zb.imp fun _ hz => hz.later hb, h.qb.later hb⟩
theorem Cs.put {w W W2 : World} {ps qs : List Value} (h : Cs w W ps qs) {i : Nat} {v : Value} (hb : BkP W2 (w.heap.size + 1 + 1) (qs.set i v)) (ho : ∀ k, k ≠ w.heap.size + 1 + 1 → W2.heap[k]? = W.heap[k]?) (hB : ∀ B, B ≤ w.heap.size + 1 + 1 → Below B W W2) (hz : W2.heap.size = W.heap.size) : Cs w W2 ps (qs.set i v) :=
  ⟨h.bel.trans (hB _ (by omega)), by rw [hz]; exact h.big, h.pb.of (ho _ (by omega)), h.zb.imp fun _ hz => hz.of (ho _ (by omega)), hb⟩
theorem Nw.put {w W W2 : World} {N : Nat} {P : World → Prop} (h : Nw N W P) (hN : w.heap.size + 1 + 1 + 1 ≤ N) (ho : ∀ k, k ≠ w.heap.size + 1 + 1 → W2.heap[k]? = W.heap[k]?) (hz : W2.heap.size = W.heap.size) : Nw N W2 P :=
  h.go (fun k hk _ => ho k (by omega)) (by omega)

end Go.Proofs.Ytpakhjbaniapnaa
