import Derived.Test.YtjmomdnlibfbkaaDoorAbN
namespace Go.Proofs.YtjmomdnlibfbkaaDoor
open Go.RowKit

theorem Rb.own {w : World} {lo n : Nat} {v : Value} {l : Bs} (h : w.ownsRow lo 5 1 v n (l.map cb)) (hn : n = l.length) : Rb w v l := by
  subst hn
  obtain ⟨a, c, rfl⟩ := owns_form h
  have hlt := World.ownsRow.lt h
  rcases h.2 with ⟨e, e0⟩ | ⟨g, cap, cur, e, hb, hg, hnc, hcm, hcs, htk⟩
  · have e1 : l = [] := List.length_eq_zero_iff.1 e0
    subst e1
    exact Rb.nil' _ _ _
  · cases e
    refine ⟨_, _, rfl, hnc, fun h0 => ⟨g, 0, rfl, (hlt g rfl).2, fun i x hi => ?_⟩⟩
    rw [Nat.zero_add]
    exact World.ownsRow.cellAt h i (by have := (List.getElem?_eq_some_iff.1 hi).1; omega) |>.trans (by rw [List.getElem?_map, hi]; rfl)
theorem own_yb {w : World} {g k lo n : Nat} {M : Bs} (h : Yb w g k) (hB : By w g M) (hM : M.length = k) (hn : n ≤ k) (hlo : lo ≤ g) (hk : k ≤ maxLen) : w.ownsRow lo 5 1 (.slice (some ⟨g, 0, none⟩) n k) n ((M.take n).map cb) := by
  obtain ⟨cur, h1, h2⟩ := h
  refine ⟨by rw [List.length_map, List.length_take]; omega, .inr ⟨g, k, cur, rfl, hlo, h1, hn, hk, by omega, ?_⟩⟩
  refine List.ext_getElem? fun i => ?_
  rw [Nat.mul_one]
  by_cases hi : i < n
  · rw [List.getElem?_take_of_lt hi, List.getElem?_map, List.getElem?_take_of_lt hi]
    have q := hB.at_ i _ (List.getElem?_eq_getElem (by omega))
    rw [List.getElem?_eq_getElem (by omega : i < M.length)]
    rw [Array.getElem?_toList]
    have e : w.cell? ⟨g, i, none⟩ = cur[i]? := by
      unfold World.cell?
      rw [h1]
      rfl
    rw [← e, q]
    rfl
  · rw [List.getElem?_eq_none (by rw [List.length_take, Array.length_toList]; omega), List.getElem?_eq_none (by rw [List.length_map, List.length_take]; omega)]
set_option maxRecDepth 100000 in
set_option maxHeartbeats 8000000 in
theorem equal_yes {w : World} {u v : Value} {l : Bs} (h : Rb w u l) (k : Rb w v l) (hl : l.length ≤ 140737488355328) :
    Calls Tryd.prog 11 #[u, v] w fun e w' => e = .returned (.bool true) ∧ ∃ n, w' = w.drewN n := by
  obtain ⟨a, c, rfl, hc⟩ := h.form
  obtain ⟨a2, c2, rfl, hc2⟩ := k.form
  have HP := hide (fun (h0 : 0 < l.length) => h.at h0)
  have HQ := hide (fun (h0 : 0 < l.length) => k.at h0)
  obtain ⟨N, hN⟩ : ∃ N, N = l.length := ⟨_, rfl⟩
  have HN := hide hN
  rw [← hN] at hl hc hc2 ⊢
  clear h k hN
  go_enter Tryd.func11, Tryd.ntmps11
  go_wp2_with fail
  go_loopg [5] N (fun gq iv wr => ∃ i n : Nat, iv = .int .i64 i ∧ i ≤ N ∧ N - i ≤ gq ∧ wr = w.drewN n)
  case atStart => exact ⟨0, 0, by go_num, by omega, by omega, rfl⟩
  case round =>
    obtain ⟨i, n, rfl, hi, hg, rfl⟩ := hrel
    by_cases hlt : i < N
    · have hin : (i : Int) < (N : Int) := by omega
      have hil : i < l.length := by have := unhide HN; omega
      obtain ⟨g, o, rfl, _, hx⟩ := unhide HP (by have := unhide HN; omega)
      obtain ⟨g2, o2, rfl, _, hy⟩ := unhide HQ (by have := unhide HN; omega)
      have c1 := hx i hil
      have d1 := hy i hil
      obtain ⟨q, hq⟩ : ∃ q : Int, cb l[i] = .int .u8 q := ⟨_, rfl⟩
      rw [hq] at c1 d1
      clear hx hy HP HQ hq
      go_wp2_with fail
      go_quiet (fail)
      go_wp2
      go_roundg (N - (i + 1))
      case measure => omega
      case rel => exact ⟨i + 1, _, by go_num, by omega, by omega, rfl⟩
    · obtain rfl : i = N := by omega
      go_wp2_with fail
      go_ret
      exact ⟨rfl, n, rfl⟩
end Go.Proofs.YtjmomdnlibfbkaaDoor
