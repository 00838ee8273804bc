import Derived.Test.YtjmomdnlibfbkaaDoorAcE
namespace Go.Proofs.YtjmomdnlibfbkaaDoor
open Go.RowKit

/-- A PIECE OF BYTES, wherever it begins. -/
theorem Rb.cutB {w : World} {a : Option Addr} {n c : Nat} {l : Bs} (h : Rb w (.slice a n c) l) {i j : Nat} (hij : i ≤ j) (hj : j ≤ l.length) : Rb w (.slice (if c = i then a else Option.map (fun x => x.add i) a) (j - i) (c - i)) ((l.drop i).take (j - i)) := by
  obtain ⟨a2, c2, e, hc⟩ := h.form
  cases e
  by_cases e : c = i
  · rw [if_pos e]
    have e1 : j - i = 0 := by omega
    rw [e1, List.take_zero]
    exact Rb.nil' _ _ _
  · rw [if_neg e]
    exact h.cutA hij hj
set_option maxRecDepth 100000 in
set_option maxHeartbeats 4000000 in
theorem rend_any {w : World} {a : Option Addr} {c k : Nat} {l : Bs} (h : Rb w (.slice a l.length c) l) (hk : k + 512 ≤ l.length) (hl : l.length ≤ 1073741824) (hz : (l.drop k).take 512 = zs 512) :
    Calls Tryd.prog 22 #[.slice a l.length c, .int .i64 k] w fun e w' => e = .returned (.int .i64 (endE ((l.drop k).drop 512))) ∧ w' = w := by
  obtain ⟨a2, c2, e, hc⟩ := h.form
  cases e
  rw [endE_eq hz (by rw [List.length_drop]; omega), List.length_drop]
  have hw1 : IntKind.i64.wrap ((l.length : Int) - (k : Int)) = ((l.length - k : Nat) : Int) := by rw [IntWalk.i64_in _ (by omega)]; omega
  have HZ := hide (fun (h1 : k + 1024 ≤ l.length) => rzero_any (h.cutA (i := k) (j := k + 1024) (by omega) h1) (by rw [List.length_take]; omega))
  rw [show k + 1024 - k = 1024 by omega] at HZ
  have HY := hide (show k + 1024 ≤ l.length → allz (List.take 1024 (List.drop k l)) = decide (List.take 1024 (List.drop k l) = zs 1024) from fun h1 => by
    have q := allz_iff (List.take 1024 (List.drop k l))
    rw [List.length_take, List.length_drop, Nat.min_eq_left (by omega)] at q
    by_cases e : List.take 1024 (List.drop k l) = zs 1024
    · rw [decide_eq_true e]
      exact q.2 e
    · rw [decide_eq_false e]
      cases e2 : allz (List.take 1024 (List.drop k l)) with
      | false => rfl
      | true => exact absurd (q.1 e2) e)
  obtain ⟨N, hN⟩ : ∃ N, l.length = N := ⟨_, rfl⟩
  rw [hN] at hk hl hc hw1 HZ HY ⊢
  by_cases h1 : N - k < 1024
  · rw [if_pos h1]
    have h1' : ((N - k : Nat) : Int) < 1024 := by omega
    clear h HZ HY hz
    generalize N - k = D at *
    go_enter Tryd.func22, Tryd.ntmps22
    go_wp2_with fail
    go_ret
    exact ⟨rfl, rfl⟩
  · rw [if_neg h1]
    have h1' : ¬ ((N - k : Nat) : Int) < 1024 := by omega
    have CZ := unhide HZ (by omega)
    rw [unhide HY (by omega)] at CZ
    have CZ := hide CZ
    have hc1 : (k : Int) ≤ (k : Int) + 1024 := by omega
    have hc2 : (k : Int) + 1024 ≤ (c : Int) := by omega
    have hc3 : ¬ c = k := by omega
    have hc4 : k ≤ c := by omega
    have hc5 : k + 1024 ≤ c := by omega
    clear h HZ HY hz
    by_cases h2 : List.take 1024 (List.drop k l) = zs 1024
    · rw [decide_eq_true h2] at CZ
      rw [if_neg (show ¬ (List.take 1024 (List.drop k l) ≠ zs 1024) from fun q => q h2)]
      clear h2
      by_cases h3 : 1024 < N - k
      · rw [if_pos h3]
        have h3' : (1024 : Int) < ((N - k : Nat) : Int) := by omega
        generalize N - k = D at *
        go_enter Tryd.func22, Tryd.ntmps22
        go_wp2_with (first
          | (go_at_call 21; refine (unhide CZ).mono ?_; rintro e wn ⟨rfl, hw⟩; rw [hw]; clear hw wn CZ))
        go_ret
        exact ⟨rfl, rfl⟩
      · rw [if_neg h3]
        have h3' : ¬ (1024 : Int) < ((N - k : Nat) : Int) := by omega
        generalize N - k = D at *
        go_enter Tryd.func22, Tryd.ntmps22
        go_wp2_with (first
          | (go_at_call 21; refine (unhide CZ).mono ?_; rintro e wn ⟨rfl, hw⟩; rw [hw]; clear hw wn CZ))
        go_ret
        exact ⟨rfl, rfl⟩
    · rw [decide_eq_false h2] at CZ
      rw [if_pos (show List.take 1024 (List.drop k l) ≠ zs 1024 from h2)]
      clear h2
      generalize N - k = D at *
      go_enter Tryd.func22, Tryd.ntmps22
      go_wp2_with (first
        | (go_at_call 21; refine (unhide CZ).mono ?_; rintro e wn ⟨rfl, hw⟩; rw [hw]; clear hw wn CZ))
      go_ret
      exact ⟨rfl, rfl⟩
end Go.Proofs.YtjmomdnlibfbkaaDoor
