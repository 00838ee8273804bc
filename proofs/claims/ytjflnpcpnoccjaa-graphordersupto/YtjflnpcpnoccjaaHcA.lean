import Derived.Test.YtjflnpcpnoccjaaHpL
import Derived.Test.YtjflnpcpnoccjaaGrX
namespace Go.Proofs.Ytjflnpcpnoccjaa
open Go.RowKit

set_option maxHeartbeats 2000000 in
theorem ledge_any (N : Nat) (ln : Nat → Nat) (L : Nat → Nat → Int) (u : Nat) (v : Int) (pa : Option Addr) (c : Nat) (w : World) (hu : u < N) (_hN : N ≤ 140737488355328) (hm : ln u ≤ 140737488355328) (h : Rr w pa N ln L) :
    Calls Try.prog 37 #[.slice pa N c, .int .i64 (u : Int), .int .i64 v] w fun x w' => x = .returned (.bool (ebB (ln u) (L u) v)) ∧ w' = w := by
  obtain ⟨b, o, ca, cc, rfl, hcu, hri⟩ := h.at hu
  have HR := hide hri
  have hu2 : (u : Int) < (N : Int) := by omega
  clear h hri
  generalize hg : ln u = n at *
  generalize L u = f at *
  clear hg
  go_enter Try.func37, Try.ntmps37
  go_wp2
  go_loop [7] (fun i => ∃ k : Nat, k ≤ n ∧ i = .int .i64 k ∧ Hid (∀ j, j < k → f j ≠ v)) (fun i => n - (intOf i).toNat)
  case atStart => exact ⟨0, Nat.zero_le _, rfl, hide fun j h => absurd h (Nat.not_lt_zero _)⟩
  case round =>
    obtain ⟨k, hk, rfl, HA⟩ := hrel
    by_cases hlt : k < n
    · obtain ⟨b2, o2, rfl, hbw, hc⟩ := (unhide HR).at hlt
      unfold iv at hc
      by_cases hy : f k = v
      · have HB := hide (show ebB n f v = true from (ebB_iff _ _ _).2 ⟨k, hlt, hy⟩)
        have hz : (f k == v) = true := by simp [hy]
        clear hy
        generalize f k = l at *
        go_wp2
        go_ret
        exact ⟨ret_b (unhide HB).symm, rfl⟩
      · have HA2 := hide (show ∀ j, j < k + 1 → f j ≠ v from fun j hj => by
          by_cases e : j = k
          · subst e; exact hy
          · exact unhide HA j (by omega))
        have hz : (f k == v) = false := by simpa using hy
        clear hy
        generalize f k = l at *
        go_wp2
        go_round
        case rel => exact ⟨k + 1, by omega, by go_num, HA2⟩
        case measure => simp [intOf]; omega
    · have HB := hide (show ebB n f v = false from ebB_no fun i hi => unhide HA i (by omega))
      go_wp2
      go_ret
      exact ⟨ret_b (unhide HB).symm, rfl⟩
set_option maxHeartbeats 2000000 in
theorem lright_any (N : Nat) (ln : Nat → Nat) (L : Nat → Nat → Int) (pa : Option Addr) (c : Nat) (w : World) (hN : N ≤ 140737488355328) (hm : ∀ k, k < N → ln k ≤ 140737488355328) (h : Rr w pa N ln L) :
    Calls Try.prog 28 #[.slice pa N c] w fun x w' => x = .returned (.bool (rgt N ln L)) ∧ w' = w := by
  have HR := hide h
  have HM := hide hm
  clear h hm
  go_enter Try.func28, Try.ntmps28
  go_wp2
  go_loop [3, 4] (fun i _ => ∃ k : Nat, k ≤ N ∧ i = .int .i64 k ∧ Hid (∀ j, j < k → (bAll (ln j) fun i => nd N (L j i)) = true)) (fun i _ => N - (intOf i).toNat)
  case atStart => exact ⟨0, Nat.zero_le _, rfl, hide fun j h => absurd h (Nat.not_lt_zero _)⟩
  case round =>
    obtain ⟨k, hk, rfl, HA⟩ := hrel
    by_cases hlt : k < N
    · obtain ⟨b, o, ca, cc, rfl, hc, hri⟩ := (unhide HR).at hlt
      have hm := unhide HM k hlt
      have HRI := hide hri
      clear hri
      go_wp2
      go_loop [4] (fun i => ∃ t : Nat, t ≤ ln k ∧ i = .int .i64 t ∧ Hid (∀ j, j < t → nd N (L k j) = true)) (fun i => ln k - (intOf i).toNat)
      case atStart => exact ⟨0, Nat.zero_le _, rfl, hide fun j h => absurd h (Nat.not_lt_zero _)⟩
      case round =>
        obtain ⟨t, ht, rfl, HT⟩ := hrel
        by_cases hl2 : t < ln k
        · obtain ⟨b2, o2, rfl, hbw, hc2⟩ := (unhide HRI).at hl2
          unfold iv at hc2
          cases hy : nd N (L k t) with
          | true =>
            have HT2 := hide (show ∀ j, j < t + 1 → nd N (L k j) = true from fun j hj => by
              by_cases e : j = t
              · subst e; exact hy
              · exact unhide HT j (by omega))
            have HZ := (nd_iff _ _).1 hy
            clear hy
            generalize L k t = l at *
            obtain ⟨z0, z2⟩ := HZ
            go_wp2
            all_goals first | (exfalso; omega) | skip
            go_round
            case rel => exact ⟨t + 1, by omega, by go_num, HT2⟩
            case measure => simp [intOf]; omega
          | false =>
            have HZ : ¬ (0 ≤ L k t ∧ L k t < (N : Int)) := fun e => by rw [(nd_iff _ _).2 e] at hy; cases hy
            have HB := hide (show rgt N ln L = false from bAll_no hlt (bAll_no hl2 hy))
            clear hy
            generalize L k t = l at *
            go_wp2
            all_goals first | (exfalso; omega) | skip
            all_goals go_ret
            all_goals exact ⟨ret_b (unhide HB).symm, rfl⟩
        · have HA2 := hide (show ∀ j, j < k + 1 → (bAll (ln j) fun i => nd N (L j i)) = true from fun j hj => by
            by_cases e : j = k
            · subst e; exact (bAll_iff _ _).2 fun i hi => unhide HT i (by omega)
            · exact unhide HA j (by omega))
          go_wp2
          go_round
          case rel => exact ⟨k + 1, by omega, by go_num, HA2⟩
          case measure => simp [intOf]; omega
    · have HB := hide (show rgt N ln L = true from (bAll_iff _ _).2 fun j hj => unhide HA j (by omega))
      go_wp2
      go_ret
      exact ⟨ret_b (unhide HB).symm, rfl⟩

/-- From where to where, and back. -/
theorem rch_turn {E F : Nat → Nat → Prop} (h : ∀ x y, F x y → E y x) {u v : Nat} (r : Rch F u v) : Rch E v u := by
  obtain ⟨k, hk⟩ := r
  induction k generalizing v with
  | zero => rw [show v = u from hk]; exact Rch.refl _ _
  | succ k ih =>
    obtain ⟨x, hx, hxv⟩ := hk
    exact ((Rch.refl E v).tail (h _ _ hxv)).trans (ih hx)
theorem ds_rch (E : Nat → Nat → Prop) (u v : Nat) : ds E (fun x => x = u) v ≠ -1 ↔ Rch E u v := by
  constructor
  · intro h
    rcases ds_is E (fun x => x = u) v with ⟨e, _⟩ | ⟨k, _, hk, _⟩
    · exact absurd e h
    · exact ⟨k, hk⟩
  · rintro ⟨k, hk⟩ e
    obtain ⟨j, _, ej⟩ := ds_of hk
    omega
theorem dt_rch (N : Nat) (ln : Nat → Nat) (L : Nat → Nat → Int) (u v : Nat) : dt N ln L u v ≠ -1 ↔ Rch (Eg N ln L) v u := by
  unfold dt
  rw [ds_rch]
  exact ⟨rch_turn fun _ _ h => h, rch_turn fun _ _ h => h⟩
theorem rb_one (N : Nat) (ln : Nat → Nat) (L : Nat → Nat → Int) (v u : Nat) : rb N ln L 1 (fun _ => (v : Int)) u = (dt N ln L u v != -1) := by
  refine b_eq ?_
  unfold rb
  have e : Fr 1 (fun _ => (v : Int)) = fun x => x = v := by
    funext x
    apply propext
    constructor
    · rintro ⟨i, _, hi⟩
      have : (v : Int) = (x : Int) := hi
      omega
    · intro h
      exact ⟨0, by omega, by rw [h]⟩
  rw [e, bne_iff_ne, bne_iff_ne, dt_rch, ds_rch]
/-- The cycle as it goes. -/
noncomputable def cyc (N : Nat) (ln : Nat → Nat) (L : Nat → Nat → Int) (u v j : Nat) : Nat := if j = 0 then u else pth N ln L u v (j - 1)
theorem cyc_F (N : Nat) (ln : Nat → Nat) (L : Nat → Nat → Int) (u v j : Nat) : cyF N ln L (u : Int) (v : Int) j = (cyc N ln L u v j : Int) := by
  unfold cyF cyc
  by_cases e : j = 0
  · rw [if_pos e, if_pos e]
  · rw [if_neg e, if_neg e]; rfl
theorem cyc_wrap {N : Nat} {ln : Nat → Nat} {L : Nat → Nat → Int} (hr : rgt N ln L = true) {u v k : Nat} (hv : v < N) (h : dt N ln L u v = (k : Int)) {j : Nat} (hj : j ≤ k) : cyc N ln L u v ((j + 1) % (k + 1)) = pth N ln L u v j := by
  by_cases e : j = k
  · subst e
    rw [Nat.mod_self]
    have := (pth_is hr hv h j (Nat.le_refl _)).2
    rw [Nat.sub_self] at this
    exact (dt_zero.1 this).symm
  · rw [Nat.mod_eq_of_lt (by omega)]
    unfold cyc
    rw [if_neg (by omega)]
    rfl
theorem cyc_lt {N : Nat} {ln : Nat → Nat} {L : Nat → Nat → Int} (hr : rgt N ln L = true) {u v k : Nat} (hu : u < N) (hv : v < N) (h : dt N ln L u v = (k : Int)) {j : Nat} (hj : j ≤ k) : cyc N ln L u v j < N := by
  unfold cyc
  split
  · exact hu
  · exact (pth_is hr hv h (j - 1) (by omega)).1
theorem cyc_dt {N : Nat} {ln : Nat → Nat} {L : Nat → Nat → Int} (hr : rgt N ln L = true) {u v k : Nat} (hv : v < N) (h : dt N ln L u v = (k : Int)) {j : Nat} (hj : j ≤ k) : dt N ln L u (cyc N ln L u v j) = if j = 0 then 0 else ((k - (j - 1) : Nat) : Int) := by
  unfold cyc
  by_cases e : j = 0
  · rw [if_pos e, if_pos e]; exact dt_zero.2 rfl
  · rw [if_neg e, if_neg e]
    exact (pth_is hr hv h (j - 1) (by omega)).2
theorem cyc_inj {N : Nat} {ln : Nat → Nat} {L : Nat → Nat → Int} (hr : rgt N ln L = true) {u v k : Nat} (hv : v < N) (h : dt N ln L u v = (k : Int)) {i j : Nat} (hi : i ≤ k) (hj : j ≤ k) (e : cyc N ln L u v i = cyc N ln L u v j) : i = j := by
  have h1 := cyc_dt hr hv h hi
  have h2 := cyc_dt hr hv h hj
  rw [e, h2] at h1
  by_cases e1 : i = 0
  · by_cases e2 : j = 0
    · omega
    · rw [if_pos e1, if_neg e2] at h1; omega
  · by_cases e2 : j = 0
    · rw [if_neg e1, if_pos e2] at h1; omega
    · rw [if_neg e1, if_neg e2] at h1; omega
theorem cyc_edge {N : Nat} {ln : Nat → Nat} {L : Nat → Nat → Int} (hr : rgt N ln L = true) {u v k : Nat} (hv : v < N) (he : ebB (ln u) (L u) (v : Int) = true) (h : dt N ln L u v = (k : Int)) {j : Nat} (hj : j ≤ k) : ebB (ln (cyc N ln L u v j)) (L (cyc N ln L u v j)) (cyc N ln L u v ((j + 1) % (k + 1)) : Int) = true := by
  rw [cyc_wrap hr hv h hj]
  by_cases e : j = 0
  · subst e
    exact he
  · obtain ⟨i, rfl⟩ : ∃ i, j = i + 1 := ⟨j - 1, by omega⟩
    have hc : cyc N ln L u v (i + 1) = pth N ln L u v i := by unfold cyc; rw [if_neg e]; rfl
    rw [hc]
    have h1 := (pth_is hr hv h i (by omega)).2
    rw [show k - i = (k - (i + 1)) + 1 by omega] at h1
    obtain ⟨_, n1, n2, n3⟩ := (nx_is h1).1
    exact (ebB_iff _ _ _).2 ⟨n1, n2, n3⟩
end Go.Proofs.Ytjflnpcpnoccjaa
