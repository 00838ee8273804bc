import Derived.Test.YtfnbclehlikbkaaRefSegs
namespace Go.Proofs.Ytfnbclehlikbkaa
open Go.RowKit

/-- A SLICE THAT HOLDS THE FIRST N RUNS OF A PART. -/
def Sg (W : World) (v : Value) (s : ByteArray) (N : Nat) : Prop :=
  (v = .slice none 0 0 ∧ N = 0) ∨ ∃ g cap, v = .slice (some ⟨g, 0, none⟩) N cap ∧ g < W.heap.size ∧ ∀ i, i < N → W.cell? ⟨g, i, none⟩ = some (.string (runOf s i))

theorem Sg.later {W W' : World} {v : Value} {s : ByteArray} {N : Nat} (h : Sg W v s N) (hb : Below W.heap.size W W') : Sg W' v s N := by
  rcases h with h | ⟨g, cap, h1, h2, h3⟩
  · exact .inl h
  · exact .inr ⟨g, cap, h1, Nat.lt_of_lt_of_le h2 hb.size, fun i hi => (hb.cell (p := ⟨g, i, none⟩) h2).trans (h3 i hi)⟩

theorem Sg.of_owns {W : World} {base : Nat} {v : Value} {s : ByteArray} {N : Nat} (h : W.ownsRow base 9 1 v N (segL s N)) : Sg W v s N := by
  rcases h.2 with ⟨h0, h1⟩ | ⟨g, cap, cur, h0, hb, hg, _⟩
  · exact .inl ⟨h0, h1⟩
  · subst h0
    refine .inr ⟨g, cap, rfl, (Array.getElem?_eq_some_iff.1 hg).1, fun i hi => ?_⟩
    have := h.cells (g := g) rfl i (.string (runOf s i)) (by simp [segL, hi])
    by_cases e : i = 0
    · subst e; simpa [Addr.add] using this
    · simpa [Addr.add, e] using this

theorem seg_unique {s : ByteArray} {N M : Nat} (h1 : ia s N = s.size) (h2 : ∀ k, k < N → ia s k < s.size) (h3 : ia s M = s.size) (h4 : ∀ k, k < M → ia s k < s.size) : N = M := by
  by_cases h : N < M
  · have := h4 N h; omega
  · by_cases h' : M < N
    · have := h2 M h'; omega
    · omega

theorem Sg.split {W : World} {v : Value} {s : ByteArray} {N : Nat} (h : Sg W v s N) : ∃ a c, v = .slice a N c ∧ ∀ i, i < N → ∃ g, a = some ⟨g, 0, none⟩ ∧ W.cell? ⟨g, i, none⟩ = some (.string (runOf s i)) := by
  rcases h with ⟨rfl, rfl⟩ | ⟨g, cap, rfl, _, hc⟩
  · exact ⟨none, 0, rfl, fun i h => absurd h (Nat.not_lt_zero _)⟩
  · exact ⟨some ⟨g, 0, none⟩, cap, rfl, fun i h => ⟨g, rfl, hc i h⟩⟩

set_option maxHeartbeats 2000000 in
theorem same_any (s : ByteArray) (v u : Value) (N : Nat) (hN : N ≤ 2097170) (w : World) (h1 : Sg w v s N) (h2 : Sg w u s N) :
    Calls Try.prog 7 #[v, u] w fun e w' => e = .returned (.bool true) ∧ ∃ n, w' = w.drewN n := by
  obtain ⟨va, vc, rfl, hv⟩ := h1.split
  obtain ⟨ua, uc, rfl, hu⟩ := h2.split
  have HV := hide hv
  have HU := hide hu
  clear hv hu h1 h2
  go_enter Try.func7, Try.ntmps7
  go_wp2_with fail
  go_loopw [5] (fun i wr => ∃ k n : Nat, k ≤ N ∧ i = .int .i64 k ∧ wr = w.drewN n) (fun i _ => N - (intOf i).toNat)
  case atStart => exact ⟨0, 0, Nat.zero_le _, rfl, rfl⟩
  case round =>
    obtain ⟨k, n, hk, rfl, rfl⟩ := hrel
    by_cases hlt : k < N
    · obtain ⟨g, rfl, hc⟩ := unhide HV k hlt
      obtain ⟨g2, rfl, hc2⟩ := unhide HU k hlt
      generalize runOf s k = q at *
      clear HV HU
      go_wp2_with fail
      go_quiet (fail)
      go_wp2
      go_roundw
      case rel => exact ⟨k + 1, _, by omega, by go_num, rfl⟩
      case measure => simp [intOf]; omega
    · go_wp2
      go_ret
      exact ⟨rfl, _, rfl⟩

end Go.Proofs.Ytfnbclehlikbkaa
