import Derived.Test.YtcdajbfoneifaaaDoorRfT
import Derived.Test.YtcdajbfoneifaaaDoorSoN
import Derived.Test.YtcdajbfoneifaaaDoorApJ
import Derived.Maps.AppendAt
import Derived.Deep.QuietTactic
import Derived.BigQuiet
namespace Go.Proofs.YtcdajbfoneifaaaDoor
open Go.RowKit

theorem sv_asym {vs : Nat → Ver} {x y : Nat} (h1 : Sv vs x y) (h2 : Sv vs y x) : False := by
  have a1 := pre_ordV.anti (vs x) (vs y)
  unfold Sv at *
  omega
theorem pm_onto {g : Nat → Nat} {n v : Nat} (h : Pm idn g 0 n) (hv : v < n) : ∃ j, j < n ∧ g j = v := by
  obtain ⟨s, t, k⟩ := h.ex
  obtain ⟨_, _, _, t2, _, t4, _⟩ := k v (Nat.zero_le _) hv
  obtain ⟨_, _, _, _, _, _, q7⟩ := k (t v) (Nat.zero_le _) t2
  exact ⟨t v, t2, q7.trans t4⟩
/-- TWO PERMUTATIONS IN ORDER ARE ONE. -/
theorem srt_unique {vs : Nat → Ver} {f g : Nat → Nat} {n : Nat} (p : Pm idn f 0 n) (q : Pm idn g 0 n) (hf : Srt (Sv vs) f 0 n) (hg : Srt (Sv vs) g 0 n) : ∀ k, k < n → f k = g k := by
  intro k
  induction k using Nat.strongRecOn with
  | ind k ih =>
    intro hk
    obtain ⟨j, hj, ej⟩ := pm_onto q (pm_vals p k hk)
    obtain ⟨i, hi, ei⟩ := pm_onto p (pm_vals q k hk)
    have hjk : ¬ j < k := fun h => by
      have := ih j h hj
      have := pm_inj p hj hk (this.trans ej)
      omega
    have hik : ¬ i < k := fun h => by
      have := ih i h hi
      have := pm_inj q hi hk (this.symm.trans ei)
      omega
    by_cases e1 : j = k
    · subst e1; exact ej.symm
    · by_cases e2 : i = k
      · subst e2; exact ei
      · have s1 := hg k j (Nat.zero_le _) (by omega) hj
        have s2 := hf k i (Nat.zero_le _) (by omega) hi
        rw [ej] at s1
        rw [ei] at s2
        exact (sv_asym s1 s2).elim

/-- WHAT Sort ANSWERS OF A LIST. -/
def Det (l : List ByteArray) (ec : Int) (cnt : Nat) (G : Nat → Nat) : Prop :=
  (ec = 0 ∧ cnt = l.length ∧ (∀ k, k < l.length → erOf l k = 0) ∧ Pm idn G 0 l.length ∧ Srt (Sv (vsOf l)) G 0 l.length)
  ∨ (cnt = 0 ∧ ∃ k, k < l.length ∧ erOf l k ≠ 0 ∧ (∀ j, j < k → erOf l j = 0) ∧ ec = erOf l k)
theorem Det.le {l : List ByteArray} {ec : Int} {cnt : Nat} {G : Nat → Nat} (h : Det l ec cnt G) : cnt ≤ l.length := by
  rcases h with ⟨_, h, _⟩ | ⟨h, _⟩ <;> omega
theorem IV_congr {f g : Nat → Nat} {n : Nat} (h : ∀ k, k < n → f k = g k) : IV f n = IV g n := by
  unfold IV
  apply List.map_congr_left
  intro k hk
  rw [h k (List.mem_range.1 hk)]
theorem owns_IV {b n : Nat} {g : Nat → Nat} {W : World} (h : Rw b 0 n g W) : W.ownsRow b 3 1 (.slice (some ⟨b, 0, none⟩) n n) n (IV g n) := by
  obtain ⟨xs, hx⟩ := h.own rfl
  have e : xs = IV g n := by
    apply List.ext_getElem?
    intro k
    have hlen := hx.1
    by_cases hk : k < n
    · rw [IV_at _ _ _ hk]
      obtain ⟨u, hu⟩ : ∃ u, xs[k]? = some u := ⟨xs[k]'(by omega), List.getElem?_eq_getElem (by omega)⟩
      have h1 := owns_at hx k u hu
      have h2 := h.cell k hk
      rw [Nat.zero_add] at h2
      rw [hu, ← h1, h2]
    · rw [List.getElem?_eq_none (by omega), List.getElem?_eq_none (by simp [IV]; omega)]
  rw [← e]
  exact hx
theorem rSort_det (l : List ByteArray) (pa : Option Addr) (lc : Nat) (w : World) (hl : l.length ≤ 1073741824) (hz : ∀ k, k < l.length → (l.getD k nob).size ≤ maxLen) (hL : Ls w pa l) :
    Calls Tryd.prog 9 #[.slice pa l.length lc] w fun e w' => ∃ ec cnt G ov, e = .returned (.tuple #[ov, .int .i64 ec]) ∧ Det l ec cnt G ∧ w'.ownsRow w.heap.size 3 1 ov cnt (IV G cnt) ∧ Below w.heap.size w w' := by
  refine (rSort_any l pa lc w hl hz hL).mono ?_
  rintro e w' ⟨hb, ⟨ov, g, rfl, h1, h2, h3, h4⟩ | ⟨k, hk, h1, h2, rfl⟩⟩
  · exact ⟨0, l.length, g, ov, rfl, .inl ⟨rfl, rfl, h1, h3, h4⟩, h2, hb⟩
  · exact ⟨_, 0, idn, _, rfl, .inr ⟨rfl, k, hk, h1, h2, rfl⟩, World.ownsRow_nil _ _ _ _, hb⟩
theorem Sort_det (l : List ByteArray) (ec : Int) (cnt : Nat) (G : Nat → Nat) (hD : Det l ec cnt G) (pa : Option Addr) (lc : Nat) (w : World) (hl : l.length ≤ 1073741824) (hz : ∀ k, k < l.length → (l.getD k nob).size ≤ maxLen) (hL : Ls w pa l) :
    Calls Tryd.prog 6 #[.slice pa l.length lc] w fun e w' => ∃ ov, e = .returned (.tuple #[ov, .int .i64 ec]) ∧ w'.ownsRow w.heap.size 3 1 ov cnt (IV G cnt) ∧ Below w.heap.size w w' := by
  refine (Sort_any l pa lc w (by omega) hz hL).mono ?_
  rintro e w' ⟨hb, ⟨b, g, rfl, h1, h2, h3, h4, h5⟩ | ⟨k, hk, h1, h2, rfl⟩⟩
  · rcases hD with ⟨rfl, rfl, _, d4, d5⟩ | ⟨_, j, hj, hne, _⟩
    · refine ⟨_, rfl, ?_, hb⟩
      rw [← IV_congr (srt_unique h4 d4 h5 d5)]
      exact (owns_IV h3).mono h2
    · exact absurd (h1 j hj) hne
  · rcases hD with ⟨_, _, d3, _⟩ | ⟨rfl, j, hj, hne, hlt, rfl⟩
    · exact absurd (d3 k hk) h1
    · obtain rfl : j = k := by
        by_cases a : j < k
        · exact absurd (h2 j a) hne
        · by_cases b : k < j
          · exact absurd (hlt k b) h1
          · omega
      exact ⟨_, rfl, World.ownsRow_nil _ _ _ _, hb⟩

/-- PLACES AS THEY LIE. -/
def Ps (W : World) (v : Value) (n : Nat) (g : Nat → Nat) : Prop := ∃ a c, v = .slice a n c ∧ ∀ k, k < n → ∃ b, a = some ⟨b, 0, none⟩ ∧ b < W.heap.size ∧ W.cell? ⟨b, k, none⟩ = some (.int .i64 (g k))
theorem Ps.later {W W' : World} {v : Value} {n : Nat} {g : Nat → Nat} (h : Ps W v n g) (hb : Below W.heap.size W W') : Ps W' v n g := by
  obtain ⟨a, c, h1, h2⟩ := h
  refine ⟨a, c, h1, fun k hk => ?_⟩
  obtain ⟨b, e, hl, hc⟩ := h2 k hk
  exact ⟨b, e, Nat.lt_of_lt_of_le hl hb.size, (hb.cell (p := ⟨b, k, none⟩) hl).trans hc⟩
theorem Ps.of {W : World} {base : Nat} {v : Value} {n : Nat} {g : Nat → Nat} (h : W.ownsRow base 3 1 v n (IV g n)) : Ps W v n g := by
  rcases h.2 with ⟨h0, h1⟩ | ⟨b, cap, cur, h0, hb, hg, _⟩
  · subst h1
    exact ⟨none, 0, h0, fun k hk => absurd hk (Nat.not_lt_zero _)⟩
  · subst h0
    exact ⟨_, _, rfl, fun k hk => ⟨b, rfl, (Array.getElem?_eq_some_iff.1 hg).1, owns_at h k _ (IV_at _ _ _ hk)⟩⟩

set_option maxHeartbeats 2000000 in
theorem places_any (v u : Value) (N : Nat) (g : Nat → Nat) (hN : N ≤ 1073741824) (w : World) (h1 : Ps w v N g) (h2 : Ps w u N g) :
    Calls Tryd.prog 11 #[v, u] w fun e w' => e = .returned (.bool true) ∧ ∃ n, w' = w.drewN n := by
  obtain ⟨va, vc, rfl, hv⟩ := h1
  obtain ⟨ua, uc, rfl, hu⟩ := h2
  have HV := hide hv
  have HU := hide hu
  clear hv hu
  go_enter Tryd.func11, Tryd.ntmps11
  go_wp2_with fail
  go_loopw [5] (fun i wr => ∃ k n : Nat, k ≤ N ∧ i = .int .i64 k ∧ wr = w.drewN n) (fun i _ => N - (intOf i).toNat)
  case atStart => exact ⟨0, 0, Nat.zero_le _, rfl, rfl⟩
  case round =>
    obtain ⟨k, n, hk, rfl, rfl⟩ := hrel
    by_cases hlt : k < N
    · obtain ⟨b1, rfl, _, hc⟩ := unhide HV k hlt
      obtain ⟨b2, rfl, _, hc2⟩ := unhide HU k hlt
      generalize g k = q at *
      clear HV HU
      go_wp2_with fail
      go_quiet (fail)
      go_wp2
      go_roundw
      case rel => exact ⟨k + 1, _, by omega, by go_num, rfl⟩
      case measure => simp [intOf]; omega
    · go_wp2
      go_ret
      exact ⟨rfl, _, rfl⟩
set_option maxHeartbeats 2000000 in
theorem same_any (l : List ByteArray) (hN : l.length ≤ 1073741824) (va ua : Option Addr) (vc uc : Nat) (w : World) (h1 : Ls w va l) (h2 : Ls w ua l) :
    Calls Tryd.prog 13 #[.slice va l.length vc, .slice ua l.length uc] w fun e w' => e = .returned (.bool true) ∧ ∃ n, w' = w.drewN n := by
  have HV := hide h1
  have HU := hide h2
  clear h1 h2
  obtain ⟨N, hn⟩ : ∃ n, n = l.length := ⟨_, rfl⟩
  rw [← hn] at hN ⊢
  have HN := hide hn
  clear hn
  go_enter Tryd.func13, Tryd.ntmps13
  go_wp2_with fail
  go_loopw [5] (fun i wr => ∃ k n : Nat, k ≤ N ∧ i = .int .i64 k ∧ wr = w.drewN n) (fun i _ => N - (intOf i).toNat)
  case atStart => exact ⟨0, 0, Nat.zero_le _, rfl, rfl⟩
  case round =>
    obtain ⟨k, n, hk, rfl, rfl⟩ := hrel
    by_cases hlt : k < N
    · obtain ⟨b1, o1, rfl, _, hc⟩ := unhide HV k (by have := unhide HN; omega)
      obtain ⟨b2, o2, rfl, _, hc2⟩ := unhide HU k (by have := unhide HN; omega)
      generalize l.getD k nob = q at *
      clear HV HU
      go_wp2_with fail
      go_quiet (fail)
      go_wp2
      go_roundw
      case rel => exact ⟨k + 1, _, by omega, by go_num, rfl⟩
      case measure => simp [intOf]; omega
    · go_wp2
      go_ret
      exact ⟨rfl, _, rfl⟩
theorem num_any (ec : Int) (w : World) : Calls Tryd.prog 10 #[.int .i64 ec] w fun e w' => e = .returned (.int .i64 ec) ∧ w' = w := by
  go_enter Tryd.func10, Tryd.ntmps10
  go_wp2
  go_ret
  exact ⟨rfl, rfl⟩
end Go.Proofs.YtcdajbfoneifaaaDoor
