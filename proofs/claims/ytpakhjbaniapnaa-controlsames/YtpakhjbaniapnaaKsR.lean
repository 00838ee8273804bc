import Derived.Test.YtpakhjbaniapnaaKsQ
import Derived.Great.BuildSlice
namespace Go.Proofs.Ytpakhjbaniapnaa
open Go.RowKit

/-- A LIST IN NEW MEMORY, A MARK BEHIND IT: the two appends, the mark laid already. -/
theorem app2b {P : Program} (t ty e : TypeId) (i : TypeInfo) (z : Value) (size bytes : Nat) (ht : P.underlying t = some (.slice e)) (hi : P.info? e = some i) (hz : i.zero = some z) (hsize : i.size = size) (hby : i.bytes = bytes) (hzs : z.cells.size = size) (hsz : 0 < size)
    (n : Nat) (xs mk : List Value) (hx : xs.length = n * size) (h1 : ∀ u ∈ xs, u.oneCell' = true) (hmk : mk.length = 1 * size) (hm1 : ∀ u ∈ mk, u.oneCell' = true) (hn : (n + 1) * bytes ≤ 140737488355328) (h63 : n + 1 ≤ maxLen)
    (xa : Option Addr) (xc B : Nat) (W : World) (g0 m : Nat) (hB : B ≤ W.heap.size) (hrow : W.ownsRow B e size (.slice (some ⟨g0, 0, none⟩) 0 0) 0 []) (hm : ∀ j u, mk[j]? = some u → W.cell? ⟨m, j, none⟩ = some u) (hmg : m ≠ g0) (hml : m < W.heap.size)
    (hsrc : n = 0 ∨ ∃ b o, xa = some ⟨b, o, none⟩ ∧ ∀ j u, xs[j]? = some u → W.cell? ⟨b, o + j, none⟩ = some u) :
    ∃ v1 W1 g cap W2, (Builtin.append_ #[t, t] ty #[.slice (some ⟨g0, 0, none⟩) 0 0, .slice xa n xc]).run P W = .ok v1 W1 ∧
      (Builtin.append_ #[t, t] ty #[v1, .slice (some ⟨m, 0, none⟩) 1 1]).run P W1 = .ok (.slice (some ⟨g, 0, none⟩) (n + 1) cap) W2 ∧
      W2.ownsRow B e size (.slice (some ⟨g, 0, none⟩) (n + 1) cap) (n + 1) (xs ++ mk) ∧ Below B W W2 ∧ Below B W W1 := by
  have hg0 : B ≤ g0 := (hrow.lt g0 rfl).1
  have s1 : ∃ v1 W1, (Builtin.append_ #[t, t] ty #[.slice (some ⟨g0, 0, none⟩) 0 0, .slice xa n xc]).run P W = .ok v1 W1 ∧ W1.ownsRow B e size v1 n xs ∧ Below B W W1 ∧ (∀ k, v1.ownBlock = some k → B ≤ k) ∧ (∀ j u, mk[j]? = some u → W1.cell? ⟨m, j, none⟩ = some u) ∧ v1.ownBlock ≠ some m := by
    rcases hsrc with rfl | ⟨b, o, rfl, hc⟩
    · have : xs = [] := List.length_eq_zero_iff.1 (by omega)
      subst this
      exact ⟨_, _, append_empty _ t ty e i ht hi _ xa xc, hrow, Below.refl _ _, fun k hk => by cases hk; exact hg0, hm, fun e => by cases e; exact hmg rfl⟩
    · obtain ⟨v1, W1, hr, h2, h3, _, h5⟩ := run_append_own_at (P := P) W B t ty e i z size bytes ht hi hz hsize hby hzs hsz _ 0 [] hrow ⟨b, o, none⟩ n xc xs hx
        (fun j u hj => by rw [Addr.add_mid]; exact hc j u hj) h1 (by omega) (Nat.le_trans (Nat.mul_le_mul_right _ (by omega)) hn) hB
      rw [Nat.zero_add, List.nil_append] at h2
      refine ⟨v1, W1, hr, h2, (Below.refl _ _).grown h3 hB (fun k hk => by cases hk; exact hg0), fun k hk => ?_, fun j u hj => ?_, fun e => ?_⟩
      · rcases h5 with h5 | h5
        · rw [h5] at hk; cases hk; exact hg0
        · rw [h5] at hk; cases hk; exact hB
      · exact h3.cell (hm j u hj) (fun e => hmg (by cases e; rfl))
      · rcases h5 with h5 | h5
        · rw [h5] at e; cases e; exact hmg rfl
        · rw [h5] at e; cases e; omega
  obtain ⟨v1, W1, hr, ho1, hb1, hk1, hm2, hne⟩ := s1
  obtain ⟨g, cap, W2, hr2, ho2, hg2, hgg, _⟩ := run_append_lies (P := P) W1 t ty B e i z size bytes ht hi hz hsize hby hzs hsz v1 n xs ho1 ⟨m, 0, none⟩ 1 1 mk hmk
    (fun j u hj => by rw [Addr.add_mid, Nat.zero_add]; exact hm2 j u hj) hm1 (by omega) h63 hn (Nat.le_trans hB hb1.size) _ rfl
  exact ⟨v1, W1, g, cap, W2, hr, hr2, ho2, hb1.grown hg2 (Nat.le_trans hB hb1.size) hk1, hb1⟩

end Go.Proofs.Ytpakhjbaniapnaa
