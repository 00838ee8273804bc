import Derived.Test.YtjflnpcpnoccjaaTjW
namespace Go.Proofs.Ytjflnpcpnoccjaa
open Go.RowKit

theorem gst_one {ls ls0 : Nat → List Nat} {t k j : Nat} (h : ls j = ls0 j ∨ ls j = ls0 j ++ [t]) : gst ls t k j = ls0 j ∨ gst ls t k j = ls0 j ++ [t] := by
  unfold gst
  by_cases e : j = k
  · subst e
    rw [if_pos rfl]
    rcases h with h | h
    · rw [h]
      split
      · exact .inl rfl
      · exact .inr rfl
    · rw [h, if_pos (by simp)]
      exact .inr rfl
  · rw [if_neg e]
    exact h
theorem gth_one {n t : Nat} : ∀ (ps : List (Ky n)), (∀ p ∈ ps, p.1.1 = t) → ∀ (ls ls0 : Nat → List Nat) (j : Nat), (ls j = ls0 j ∨ ls j = ls0 j ++ [t]) → (ps.foldl (fun ls x => gst ls x.1.1 x.1.2) ls j = ls0 j ∨ ps.foldl (fun ls x => gst ls x.1.1 x.1.2) ls j = ls0 j ++ [t])
  | [], _, _, _, _, h => h
  | p :: ps, hp, ls, ls0, j, h => by
    rw [List.foldl_cons]
    refine gth_one ps (fun q hq => hp q (List.mem_cons_of_mem _ hq)) _ ls0 j ?_
    rw [hp p List.mem_cons_self]
    exact gst_one h
theorem gw_len_at (N : Nat) (ln : Nat → Nat) (L : Nat → Nat → Int) (q : Nat) : ∀ u, (gth (bwE N ln L ((List.range u).flatMap fun a => (List.range (ln a)).filterMap (pk N L a))) q).length ≤ u
  | 0 => by simp [bwE, gth]
  | u + 1 => by
    have h1 := gw_len_at N ln L q u
    have h2 : bwE N ln L ((List.range (u + 1)).flatMap fun a => (List.range (ln a)).filterMap (pk N L a)) = bwE N ln L ((List.range u).flatMap fun a => (List.range (ln a)).filterMap (pk N L a)) ++ bwE N ln L ((List.range (ln u)).filterMap (pk N L u)) := by
      unfold bwE
      rw [List.range_succ, List.flatMap_append, List.filterMap_append]
      simp
    rw [h2]
    unfold gth at h1 ⊢
    rw [List.foldl_append]
    rcases gth_one (t := pn N ln L u) (bwE N ln L ((List.range (ln u)).filterMap (pk N L u))) (fun p hp => by
      obtain ⟨y, hy, ey⟩ := List.mem_filterMap.1 hp
      obtain ⟨i, _, epk⟩ := List.mem_filterMap.1 hy
      have h3 := (bk_some ey).1
      rw [h3, pk_fst epk]) _ _ q (.inl rfl) with e | e
    · rw [e]; omega
    · rw [e, List.length_append]
      simp only [List.length_cons, List.length_nil]
      omega
theorem gwN_le (N : Nat) (ln : Nat → Nat) (L : Nat → Nat → Int) (q : Nat) : gwN N ln L q ≤ N := by
  have := gw_len_at N ln L q N
  unfold gwN gw uptE
  simpa using this
end Go.Proofs.Ytjflnpcpnoccjaa
