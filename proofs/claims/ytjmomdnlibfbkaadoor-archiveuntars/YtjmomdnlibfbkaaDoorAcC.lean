import Derived.Test.YtjmomdnlibfbkaaDoorAcB
namespace Go.Proofs.YtjmomdnlibfbkaaDoor
open Go.RowKit

theorem upz_at {l : Bs} {i : Nat} (hi : i < l.length) (h0 : l[i] = 0) (h : ∀ j (hj : j < l.length), j < i → l[j] ≠ 0) : upz l = l.take i := by
  have e : l = l.take i ++ 0 :: l.drop (i + 1) := by
    have q := List.drop_eq_getElem_cons hi
    rw [h0] at q
    rw [← q, List.take_append_drop]
  conv => lhs; rw [e]
  unfold upz
  rw [List.takeWhile_append_of_pos (fun b hb => by
    obtain ⟨j, hj, rfl⟩ := List.getElem_of_mem hb
    rw [List.length_take] at hj
    rw [List.getElem_take]
    simpa using h j (by omega) (by omega))]
  simp
theorem upz_all {l : Bs} (h : ∀ j (hj : j < l.length), l[j] ≠ 0) : upz l = l := by
  have q := upz_app (l := l) 0 fun b hb => by
    obtain ⟨j, hj, rfl⟩ := List.getElem_of_mem hb
    exact h j hj
  rw [show zs 0 = [] from rfl, List.append_nil] at q
  exact q
set_option maxRecDepth 100000 in
set_option maxHeartbeats 4000000 in
theorem rupTo_any {w : World} {v : Value} {l : Bs} (h : Rb w v l) (hl : l.length ≤ 2147483648) :
    Calls Tryd.prog 36 #[v] w fun e w' => e = .returned (.string (ba (upz l))) ∧ w' = w := by
  obtain ⟨a, c, rfl, hc⟩ := h.form
  have HA := hide (fun h0 => h.at h0)
  have HC := hide (fun i (hi : i ≤ l.length) => conv_rb (h.take hi))
  have HC2 := hide (conv_rb h)
  have HB := hide (fun i (hi : i < l.length) (hz : l[i] = 0) hp => upz_at hi hz hp)
  have HGd := hide (fun hp => upz_all (l := l) hp)
  obtain ⟨N, hN⟩ : ∃ N, l.length = N := ⟨_, rfl⟩
  have HN := hide hN
  rw [hN] at hl hc HC HC2
  rw [hN]
  clear h hN
  go_enter Tryd.func36, Tryd.ntmps36
  go_wp2_with fail
  go_loopg [3] N (fun gq iv wr => ∃ i : Nat, iv = .int .i64 i ∧ i ≤ N ∧ N - i ≤ gq ∧ wr = w ∧ Hid (∀ j (hj : j < l.length), j < i → l[j] ≠ 0))
  case atStart => exact ⟨0, by go_num, by omega, by omega, rfl, hide fun j hj h => absurd h (Nat.not_lt_zero _)⟩
  case round =>
    obtain ⟨i, rfl, hi, hg, rfl, HZ⟩ := hrel
    by_cases hlt : i < N
    · have hin : (i : Int) < (N : Int) := by omega
      have hic : (i : Int) ≤ (c : Int) := by omega
      have hicn : i ≤ c := by omega
      have hil : i < l.length := by have := unhide HN; omega
      have kc := unhide HC i hi
      obtain ⟨b, o, rfl, _, hcell⟩ := unhide HA (by omega)
      have c0 := hcell i hil
      unfold cb at c0
      clear hcell
      by_cases hz : l[i] = 0
      · have hz2 : ((l[i].toNat : Nat) : Int) = 0 := by rw [hz]; rfl
        rw [hz2] at c0
        have HF := hide (unhide HB i hil hz (unhide HZ))
        clear HZ hz hz2
        go_wp2_with fail
        go_ret
        exact ⟨by rw [unhide HF]; rfl, rfl⟩
      · have hz2 : ¬ ((l[i].toNat : Nat) : Int) = 0 := fun e => hz (UInt8.toNat_inj.1 (by have e0 : (0 : UInt8).toNat = 0 := rfl; omega))
        have HZ2 := hide (show ∀ j (hj : j < l.length), j < i + 1 → l[j] ≠ 0 from fun j hj hji => by
          by_cases e : j = i
          · subst e; exact hz
          · exact unhide HZ j hj (by omega))
        generalize ((l[i].toNat : Nat) : Int) = q at *
        clear HZ hz kc
        go_wp2_with fail
        go_roundg (N - (i + 1))
        case measure => omega
        case rel => exact ⟨i + 1, by go_num, by omega, by omega, rfl, HZ2⟩
    · obtain rfl : i = N := by omega
      have hge : ¬ (i : Int) < (i : Int) := by omega
      have kc := unhide HC2
      have HF := hide (unhide HGd fun j hj => unhide HZ j hj (by have := unhide HN; omega))
      clear HZ
      go_wp2_with fail
      go_ret
      exact ⟨by rw [unhide HF]; rfl, rfl⟩
set_option maxRecDepth 100000 in
set_option maxHeartbeats 8000000 in
theorem rsame_any {w : World} {u v : Value} {l m : Bs} (h : Rb w u l) (k : Rb w v m) (hm : m.length = l.length) (hl : l.length ≤ 140737488355328) :
    Calls Tryd.prog 38 #[u, v] w fun e w' => e = .returned (.bool (decide (l = m))) ∧ ∃ n, w' = w.drewN n := by
  obtain ⟨a, c, rfl, hc⟩ := h.form
  obtain ⟨a2, c2, rfl, hc2⟩ := k.form
  have HP := hide (fun (h0 : 0 < l.length) => h.at h0)
  have HQ := hide (fun (h0 : 0 < m.length) => k.at h0)
  have HM := hide hm
  have HY := hide (show (∀ j, j < l.length → l[j]? = m[j]?) → decide (l = m) = true from fun q => decide_eq_true (List.ext_getElem? fun j => by
    by_cases hj : j < l.length
    · exact q j hj
    · rw [List.getElem?_eq_none (by omega), List.getElem?_eq_none (by omega)]))
  have HX := hide (show ∀ j (hj : j < l.length) (hj2 : j < m.length), l[j] ≠ m[j] → decide (l = m) = false from fun j hj hj2 q => decide_eq_false fun e => q (by subst e; rfl))
  rw [hm] at hc2 ⊢
  obtain ⟨N, hN⟩ : ∃ N, N = l.length := ⟨_, rfl⟩
  have HN := hide hN
  rw [← hN] at hl hc hc2 ⊢
  clear h k hN hm
  go_enter Tryd.func38, Tryd.ntmps38
  go_wp2_with fail
  go_loopg [5] N (fun gq iv wr => ∃ i n : Nat, iv = .int .i64 i ∧ i ≤ N ∧ N - i ≤ gq ∧ wr = w.drewN n ∧ Hid (∀ j, j < i → l[j]? = m[j]?))
  case atStart => exact ⟨0, 0, by go_num, by omega, by omega, rfl, hide fun j h => absurd h (Nat.not_lt_zero _)⟩
  case round =>
    obtain ⟨i, n, rfl, hi, hg, rfl, HZ⟩ := hrel
    by_cases hlt : i < N
    · have hin : (i : Int) < (N : Int) := by omega
      have hil : i < l.length := by have := unhide HN; omega
      have him : i < m.length := by have := unhide HM; omega
      obtain ⟨g, o, rfl, _, hx⟩ := unhide HP (by have := unhide HN; omega)
      obtain ⟨g2, o2, rfl, _, hy⟩ := unhide HQ (by have := unhide HN; have := unhide HM; omega)
      have c1 := hx i hil
      have d1 := hy i him
      unfold cb at c1 d1
      clear hx hy HP HQ
      by_cases hz : l[i] = m[i]
      · have HZ2 := hide (show ∀ j, j < i + 1 → l[j]? = m[j]? from fun j hji => by
          by_cases e : j = i
          · subst e; rw [List.getElem?_eq_getElem hil, List.getElem?_eq_getElem him, hz]
          · exact unhide HZ j (by omega))
        rw [← hz] at d1
        obtain ⟨q, hq⟩ : ∃ q : Int, Value.int .u8 (l[i].toNat : Int) = .int .u8 q := ⟨_, rfl⟩
        rw [hq] at c1 d1
        clear HZ hz hq
        go_wp2_with fail
        go_quiet (fail)
        go_wp2
        go_roundg (N - (i + 1))
        case measure => omega
        case rel => exact ⟨i + 1, _, by go_num, by omega, by omega, rfl, HZ2⟩
      · have hz2 : ¬ ((l[i].toNat : Nat) : Int) = ((m[i].toNat : Nat) : Int) := fun e => hz (UInt8.toNat_inj.1 (by omega))
        have HF := hide (unhide HX i hil him hz)
        generalize ((l[i].toNat : Nat) : Int) = q1 at *
        generalize ((m[i].toNat : Nat) : Int) = q2 at *
        clear HZ hz
        go_wp2_with fail
        go_quiet (fail)
        go_wp2
        go_ret
        exact ⟨ret_bool (unhide HF).symm, _, World.drewN_drewN _ _ _⟩
    · obtain rfl : i = N := by omega
      have HF := hide (unhide HY fun j hj => unhide HZ j (by have := unhide HN; omega))
      clear HZ
      go_wp2_with fail
      go_ret
      exact ⟨ret_bool (unhide HF).symm, n, rfl⟩
end Go.Proofs.YtjmomdnlibfbkaaDoor
