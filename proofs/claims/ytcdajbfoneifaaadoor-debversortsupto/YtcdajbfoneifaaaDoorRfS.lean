import Derived.Test.YtcdajbfoneifaaaDoorApI
import Derived.Test.YtcdajbfoneifaaaDoorRef8
namespace Go.Proofs.YtcdajbfoneifaaaDoor
open Go.RowKit

theorem parse_small (s : ByteArray) : (parse s).1.e.size ≤ 256 := by
  unfold parse
  split
  · exact Nat.zero_le _
  · split
    · exact Nat.le_trans (cut_size s).1 (by omega)
    · exact Nat.zero_le _

/-- FIVE CELLS A VERSION. -/
def five (v : Ver) : List Value := [.string v.e, .string v.u, .string v.r, .bool v.c, .bool v.d]
def FV (vs : Nat → Ver) : Nat → List Value
  | 0 => []
  | n + 1 => FV vs n ++ five (vs n)
theorem FV_len (vs : Nat → Ver) : ∀ n, (FV vs n).length = n * 5
  | 0 => rfl
  | n + 1 => by rw [FV, List.length_append, FV_len vs n]; simp [five]; omega
theorem FV_at (vs : Nat → Ver) : ∀ n k j, k < n → j < 5 → (FV vs n)[k * 5 + j]? = (five (vs k))[j]?
  | 0, k, j, hk, _ => by omega
  | n + 1, k, j, hk, hj => by
    rw [FV]
    by_cases e : k < n
    · rw [List.getElem?_append_left (by rw [FV_len]; omega)]
      exact FV_at vs n k j e hj
    · obtain rfl : k = n := by omega
      rw [List.getElem?_append_right (by rw [FV_len]; omega), FV_len]
      congr 1; omega
def IV (g : Nat → Nat) (n : Nat) : List Value := (List.range n).map fun k => .int .i64 (g k)
theorem IV_at (g : Nat → Nat) (n k : Nat) (h : k < n) : (IV g n)[k]? = some (.int .i64 (g k)) := by simp [IV, h]
theorem IV_succ (g : Nat → Nat) (n : Nat) : IV g (n + 1) = IV g n ++ [.int .i64 (g n)] := by simp [IV, List.range_succ]
theorem IV_sw (h : Nat → Nat) (n i j : Nat) (hi : i < n) (hj : j < n) : ((IV h n).set i (.int .i64 (h j))).set j (.int .i64 (h i)) = IV (sw h i j) n := by
  apply List.ext_getElem?
  intro k
  have hl : (IV h n).length = n := by simp [IV]
  rw [List.getElem?_set, List.getElem?_set, List.length_set, hl]
  by_cases hk : k < n
  · rw [IV_at _ _ _ hk, IV_at _ _ _ hk]
    unfold sw
    by_cases e2 : j = k
    · subst e2
      rw [if_pos rfl, if_pos hj]
      by_cases e1 : j = i
      · subst e1; rw [if_pos rfl]
      · rw [if_neg e1, if_pos rfl]
    · rw [if_neg e2]
      by_cases e1 : i = k
      · subst e1
        rw [if_pos rfl, if_pos hi, if_pos rfl]
      · rw [if_neg e1, if_neg (fun e => e1 e.symm), if_neg (fun e => e2 e.symm)]
  · have h1 : (IV h n)[k]? = none := List.getElem?_eq_none (by omega)
    have h2 : (IV (sw h i j) n)[k]? = none := List.getElem?_eq_none (by simp [IV]; omega)
    rw [h1, h2, if_neg (by omega), if_neg (by omega)]
theorem owns_at {W : World} {base e size g n cap m : Nat} {xs : List Value} (h : W.ownsRow base e size (.slice (some ⟨g, 0, none⟩) n cap) m xs) (k : Nat) (u : Value) (hk : xs[k]? = some u) : W.cell? ⟨g, k, none⟩ = some u := by
  have := h.cells (g := g) rfl k u hk
  by_cases e : k = 0
  · subst e; simpa [Addr.add] using this
  · simpa [Addr.add, e] using this
theorem owns_ver {W : World} {base g n cap m : Nat} {vs : Nat → Ver} (h : W.ownsRow base 29 5 (.slice (some ⟨g, 0, none⟩) n cap) m (FV vs m)) (k : Nat) (hk : k < m) : Vr W g (vs k) k :=
  ⟨owns_at h (k * 5) _ (FV_at vs m k 0 hk (by omega)), owns_at h (k * 5 + 1) _ (FV_at vs m k 1 hk (by omega)), owns_at h (k * 5 + 2) _ (FV_at vs m k 2 hk (by omega)), owns_at h (k * 5 + 3) _ (FV_at vs m k 3 hk (by omega)), owns_at h (k * 5 + 4) _ (FV_at vs m k 4 hk (by omega))⟩
theorem cells5_new (W : World) (a b c d e : Value) (t : TypeId) : ∀ j u, ([a, b, c, d, e] : List Value)[j]? = some u → (W.alloc (.cells #[a, b, c, d, e] t)).cell? ((⟨W.heap.size, 0, none⟩ : Addr).add j) = some u := fun j u hj => by
  have h : (W.alloc (.cells #[a, b, c, d, e] t)).cell? ⟨W.heap.size, j, none⟩ = (#[a, b, c, d, e] : Array Value)[j]? := World.cell?_alloc_at _ _ _ _ rfl
  have e1 : (⟨W.heap.size, 0, none⟩ : Addr).add j = ⟨W.heap.size, j, none⟩ := by
    by_cases e0 : j = 0
    · subst e0; simp [Addr.add]
    · simp [Addr.add, e0]
  rw [e1, h]
  simpa using hj
/-- ROWS OF TWO TYPES ARE TWO BLOCKS. -/
theorem owns_two {W : World} {b1 b2 e1 e2 s1 s2 : Nat} (he : e1 ≠ e2) {v u : Value} {n m : Nat} {xs ys : List Value} (h : W.ownsRow b1 e1 s1 v n xs) (k : W.ownsRow b2 e2 s2 u m ys) : v.ownBlock = none ∨ v.ownBlock ≠ u.ownBlock := by
  rcases h.2 with ⟨rfl, _⟩ | ⟨g, cap, cur, rfl, _, hg, _⟩
  · exact .inl rfl
  · refine .inr fun e => ?_
    rcases k.2 with ⟨rfl, _⟩ | ⟨g', cap', cur', rfl, _, hg', _⟩
    · simp [Value.ownBlock] at e
    · obtain rfl : g = g' := by simpa [Value.ownBlock] using e
      rw [hg] at hg'
      injection hg' with h1
      injection h1 with _ h2
      exact he h2
end Go.Proofs.YtcdajbfoneifaaaDoor
