import Derived.Test.YtpakhjbaniapnaaKsJ
import Derived.Maps.AppendAt
import Derived.Laws.OwnMore
import Derived.Deep.AppendLies
namespace Go.Proofs.Ytpakhjbaniapnaa
open Go.RowKit

theorem ownsRow_below {w w' : World} {base : Nat} {e : TypeId} {z : Nat} {v : Value} {n : Nat} {xs : List Value} (h : w.ownsRow base e z v n xs) (hb : Below w.heap.size w w') : w'.ownsRow base e z v n xs := by
  obtain ⟨h1, h2⟩ := h
  refine ⟨h1, ?_⟩
  rcases h2 with h2 | ⟨g, cap, cur, e1, e2, e3, e4⟩
  · exact Or.inl h2
  · exact Or.inr ⟨g, cap, cur, e1, e2, (hb.block g (Array.getElem?_eq_some_iff.1 e3).1).trans e3, e4⟩
theorem append_empty {P : Program} (w : World) (t ty e : TypeId) (i : TypeInfo) (ht : P.underlying t = some (.slice e)) (hi : P.info? e = some i) (g : Nat) (a : Option Addr) (c : Nat) :
    (Builtin.append_ #[t, t] ty #[.slice (some ⟨g, 0, none⟩) 0 0, .slice a 0 c]).run P w = .ok (.slice (some ⟨g, 0, none⟩) 0 0) w := by
  have hl : ∀ (x : Addr), (loadCells x 0).run P w = .ok #[] w := fun x => by simpa using run_loadCells_list (P := P) w x [] (by simp)
  cases a <;> simp [Builtin.append_, run_underlying ht, sizeOf, typeInfo, hi, Builtin.lenOf, Builtin.firstCells, storeCells, hl]
/-- A LIST IN NEW MEMORY, A MARK BEHIND IT: the two appends. -/
theorem app2 {P : Program} (t ty e : TypeId) (i : TypeInfo) (z : Value) (size bytes : Nat) (ht : P.underlying t = some (.slice e)) (hi : P.info? e = some i) (hz : i.zero = some z) (hsize : i.size = size) (hby : i.bytes = bytes) (hzs : z.cells.size = size) (hsz : 0 < size)
    (n : Nat) (xs mk : List Value) (hx : xs.length = n * size) (h1 : ∀ u ∈ xs, u.oneCell' = true) (hmk : mk.length = 1 * size) (hm1 : ∀ u ∈ mk, u.oneCell' = true) (hn : (n + 1) * bytes ≤ 140737488355328) (h63 : n + 1 ≤ maxLen)
    (xa : Option Addr) (xc : Nat) (wr : World) (hsrc : n = 0 ∨ ∃ b o, xa = some ⟨b, o, none⟩ ∧ b < wr.heap.size ∧ ∀ j u, xs[j]? = some u → wr.cell? ⟨b, o + j, none⟩ = some u) :
    ∃ v1 W1 g cap W2, (Builtin.append_ #[t, t] ty #[.slice (some ⟨wr.heap.size, 0, none⟩) 0 0, .slice xa n xc]).run P (wr.alloc (.cells #[] e)) = .ok v1 W1 ∧
      (Builtin.append_ #[t, t] ty #[v1, .slice (some ⟨W1.heap.size, 0, none⟩) 1 1]).run P (W1.alloc (.cells mk.toArray e)) = .ok (.slice (some ⟨g, 0, none⟩) (n + 1) cap) W2 ∧
      W2.ownsRow wr.heap.size e size (.slice (some ⟨g, 0, none⟩) (n + 1) cap) (n + 1) (xs ++ mk) ∧ Below wr.heap.size wr W2 ∧ Below wr.heap.size wr W1 := by
  have hb0 : Below wr.heap.size wr (wr.alloc (.cells #[] e)) := (Below.refl _ wr).alloc (Nat.le_refl _) _
  have ho0 : (wr.alloc (.cells #[] e)).ownsRow wr.heap.size e size (.slice (some ⟨wr.heap.size, 0, none⟩) 0 0) 0 [] := World.ownsRow_lit wr #[] 0 (Nat.le_refl _) (Nat.zero_le _) (by simp)
  have s1 : ∃ v1 W1, (Builtin.append_ #[t, t] ty #[.slice (some ⟨wr.heap.size, 0, none⟩) 0 0, .slice xa n xc]).run P (wr.alloc (.cells #[] e)) = .ok v1 W1 ∧ W1.ownsRow wr.heap.size e size v1 n xs ∧ Below wr.heap.size wr W1 ∧ (∀ k, v1.ownBlock = some k → wr.heap.size ≤ k) := by
    rcases hsrc with rfl | ⟨b, o, rfl, hbl, hc⟩
    · have : xs = [] := List.length_eq_zero_iff.1 (by omega)
      subst this
      exact ⟨_, _, append_empty _ t ty e i ht hi _ xa xc, ho0, hb0, fun k hk => by cases hk; exact Nat.le_refl _⟩
    · obtain ⟨v1, W1, hr, h2, h3, _, h5⟩ := run_append_own_at (P := P) (wr.alloc (.cells #[] e)) wr.heap.size t ty e i z size bytes ht hi hz hsize hby hzs hsz _ 0 [] ho0 ⟨b, o, none⟩ n xc xs hx
        (fun j u hj => by rw [Addr.add_mid]; exact (hb0.cell (p := ⟨b, o + j, none⟩) hbl).trans (hc j u hj)) h1 (by omega) (Nat.le_trans (Nat.mul_le_mul_right _ (by omega)) hn) hb0.size
      rw [Nat.zero_add, List.nil_append] at h2
      refine ⟨v1, W1, hr, h2, hb0.grown h3 hb0.size (fun k hk => by cases hk; exact Nat.le_refl _), fun k hk => ?_⟩
      rcases h5 with h5 | h5
      · rw [h5] at hk; cases hk; exact Nat.le_refl _
      · rw [h5] at hk; cases hk; exact hb0.size
  obtain ⟨v1, W1, hr, ho1, hb1, hk1⟩ := s1
  have hb2 : Below W1.heap.size W1 (W1.alloc (.cells mk.toArray e)) := (Below.refl _ W1).alloc (Nat.le_refl _) _
  obtain ⟨g, cap, W2, hr2, ho2, hg2, hgg, _⟩ := run_append_lies (P := P) (W1.alloc (.cells mk.toArray e)) t ty wr.heap.size e i z size bytes ht hi hz hsize hby hzs hsz v1 n xs (ownsRow_below ho1 hb2) ⟨W1.heap.size, 0, none⟩ 1 1 mk hmk
    (fun j u hj => by rw [Addr.add_mid, Nat.zero_add, World.cell?_alloc_new]; simpa using hj) hm1 (by omega) h63 hn (Nat.le_trans hb1.size hb2.size) _ rfl
  have hb12 := hb1.trans (hb2.mono hb1.size)
  exact ⟨v1, W1, g, cap, W2, hr, hr2, ho2, hb12.grown hg2 hb12.size hk1, hb1⟩

end Go.Proofs.Ytpakhjbaniapnaa
