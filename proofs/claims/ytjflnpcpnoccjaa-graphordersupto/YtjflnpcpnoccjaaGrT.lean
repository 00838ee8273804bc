import Derived.Test.YtjflnpcpnoccjaaGrD
import Derived.Test.YtjflnpcpnoccjaaGrK
import Derived.Test.YtjflnpcpnoccjaaGrP
namespace Go.Proofs.Ytjflnpcpnoccjaa
open Go.RowKit Go.Shelf
attribute [local go_sem] Oper.semAt_some
attribute [local simp] wide_fn
attribute [local go_sem] wide_fn

/-- THE EDGES AS THEY COME. -/
def pk (N : Nat) (L : Nat → Nat → Int) (u i : Nat) : Option (Ky N) := if h : u < 9007199254740992 ∧ (L u i).toNat < N then some ⟨(u, (L u i).toNat), h⟩ else none
def uptE (N : Nat) (ln : Nat → Nat) (L : Nat → Nat → Int) (u i : Nat) : List (Ky N) := ((List.range u).flatMap fun a => (List.range (ln a)).filterMap (pk N L a)) ++ (List.range i).filterMap (pk N L u)
theorem uptE_zero (N : Nat) (ln : Nat → Nat) (L : Nat → Nat → Int) : uptE N ln L 0 0 = [] := rfl
theorem uptE_next {N : Nat} {ln : Nat → Nat} {L : Nat → Nat → Int} {u i : Nat} {x : Ky N} (h : pk N L u i = some x) : uptE N ln L u (i + 1) = uptE N ln L u i ++ [x] := by
  unfold uptE
  rw [List.range_succ, List.filterMap_append]
  simp [h]
theorem uptE_row (N : Nat) (ln : Nat → Nat) (L : Nat → Nat → Int) (u : Nat) : uptE N ln L u (ln u) = uptE N ln L (u + 1) 0 := by
  unfold uptE
  rw [List.range_succ, List.flatMap_append]
  simp
theorem flat_len {N : Nat} {ln : Nat → Nat} {L : Nat → Nat → Int} {M : Nat} : ∀ u, (∀ k, k < u → ln k ≤ M) → ((List.range u).flatMap fun a => (List.range (ln a)).filterMap (pk N L a)).length ≤ u * M
  | 0, _ => by simp
  | u + 1, h => by
    rw [List.range_succ, List.flatMap_append, List.length_append]
    have h1 := flat_len (N := N) (L := L) u fun k hk => h k (by omega)
    have h2 : (List.flatMap (fun a => (List.range (ln a)).filterMap (pk N L a)) [u]).length ≤ M := by
      simp only [List.flatMap_cons, List.flatMap_nil, List.append_nil]
      refine Nat.le_trans (List.length_filterMap_le _ _) ?_
      rw [List.length_range]
      exact h u (by omega)
    rw [Nat.add_mul]
    omega
theorem uptE_len {N : Nat} {ln : Nat → Nat} {L : Nat → Nat → Int} {M u i : Nat} (h : ∀ k, k < u → ln k ≤ M) : (uptE N ln L u i).length ≤ u * M + i := by
  unfold uptE
  rw [List.length_append]
  have h1 := flat_len (N := N) (L := L) u h
  have h2 := List.length_filterMap_le (pk N L u) (List.range i)
  rw [List.length_range] at h2
  omega
theorem pk_some {N : Nat} {L : Nat → Nat → Int} {u i v : Nat} (hu : u < 9007199254740992) (hv : v < N) (e : L u i = (v : Int)) : ∃ h, pk N L u i = some ⟨(u, v), h⟩ := by
  have h : u < 9007199254740992 ∧ (L u i).toNat < N := ⟨hu, by rw [e]; simpa using hv⟩
  refine ⟨⟨hu, hv⟩, ?_⟩
  unfold pk
  rw [dif_pos h]
  congr 1
  apply Subtype.ext
  show (u, (L u i).toNat) = (u, v)
  rw [e, Int.toNat_natCast]
set_option maxHeartbeats 1000000 in
theorem edges_in (N : Nat) (na : Option Addr) (nc : Nat) (n : Nat) (w : World) :
    CallsIn Fence.wide n Try.prog 61 #[.slice na N nc] w fun e w' => e = .returned (.func (.func 70) #[] #[.pointer (some ⟨w.heap.size, 0, none⟩)]) ∧ w' = w.alloc (.cells #[.slice na N nc] 22) := by
  refine callsIn_of_wp Try.func61 rfl trivial ?_ rfl
  simp only [Try.ntmps61, List.size_toArray, List.length_cons, List.length_nil, Nat.reduceAdd, Nat.reduceSub, Array.replicate_succ, Array.replicate_zero, List.push_toArray, List.append_toArray, List.nil_append, List.cons_append]
  gi_wp2
  go_ret
  exact ⟨rfl, rfl⟩
set_option maxRecDepth 100000 in
set_option maxHeartbeats 4000000 in
theorem edges1_in {N : Nat} {ln : Nat → Nat} {L : Nat → Nat → Int} (hr : rgt N ln L = true) (hN : N ≤ 1048576) (hln : ∀ k, k < N → ln k ≤ 1048576) (n : Nat) (hn : 1 ≤ n) (l Bn : Nat) {na : Option Addr} {nc : Nat} {w : World} (hc : w.cell? ⟨Bn, 0, none⟩ = some (.slice na N nc)) (hR : Rr w na N ln L) (J Jx : List (Ky N) → World → Prop)
    (hY : ∀ pre x W, J pre W → pre.length < 1099511627776 → YieldAt Fence.wide (n - 1) Try.prog l (encK x) W fun e W' =>
      (e = .returned (.bool true) ∧ J (pre ++ [x]) W' ∧ Below w.heap.size W W') ∨ (e = .returned (.bool false) ∧ Jx (pre ++ [x]) W'))
    (W : World) (hW : Below w.heap.size w W) (h0 : J [] W) :
    CallsIn Fence.wide n Try.prog 70 #[.func (.yield l) #[] #[], .pointer (some ⟨Bn, 0, none⟩)] W fun e W' => (∃ v, e = .returned v) ∧ ((∃ xs, xs = uptE N ln L N 0 ∧ J xs W') ∨ (∃ pre, True ∧ Jx pre W')) := by
  have hBn := World.block_lt_of_cell? _ _ hc
  have hcW : W.cell? ⟨Bn, 0, none⟩ = some (.slice na N nc) := (hW.cell (p := ⟨Bn, 0, none⟩) hBn).trans hc
  have HRG := hide (fun u i (hu : u < N) (hi : i < ln u) => rgt_at hr hu hi)
  have HLN := hide hln
  have HR := hide hR
  have HY := hide hY
  have HW := hide hW
  have HJ := hide h0
  clear hr hln hR hY hW h0 hc hBn
  refine callsIn_of_wp Try.func70 rfl trivial ?_ rfl
  simp only [Try.ntmps70, List.size_toArray, List.length_cons, List.length_nil, Nat.reduceAdd, Nat.reduceSub, Array.replicate_succ, Array.replicate_zero, List.push_toArray, List.append_toArray, List.nil_append, List.cons_append]
  gi_wp2
  gi_loopg [3, 4, 6, 9] N (fun g1 _ _ _ vi wr => ∃ u : Nat, vi = .int .i64 u ∧ u ≤ N ∧ N - u ≤ g1 ∧ Hid (Below w.heap.size w wr) ∧ Hid (J (uptE N ln L u 0) wr))
  case atStart => exact ⟨0, by go_num, by omega, by omega, HW, HJ⟩
  case round =>
    clear HW HJ
    obtain ⟨u, rfl, hu, hg1, HW, HJ⟩ := hrel
    by_cases hlt : u < N
    · obtain ⟨b, o, ca, cc, rfl, hc, hri⟩ := ((unhide HR).later (unhide HW)).at hlt
      have hlu := unhide HLN u hlt
      have HRI := hide (show ∀ W2, Below w.heap.size w W2 → Ri W2 ca (ln u) (L u) from fun W2 hb2 => by
        obtain ⟨ca3, cc3, r1, r2⟩ := unhide HR
        obtain ⟨nb4, no4, e4, hl4, hc4⟩ := r1.at hlt
        cases e4
        have a1 := ((unhide HW).cell (p := ⟨b, o + u, none⟩) hl4).trans hc4
        rw [hc] at a1
        injection a1 with a1
        injection a1 with a1 a2 a3
        have := r2 u hlt
        rw [← a1] at this
        exact this.later hb2)
      clear hri
      gi_wp2
      gi_loopg [6, 16] (ln u) (fun g2 _ vi wr => ∃ i : Nat, vi = .int .i64 i ∧ i ≤ ln u ∧ ln u - i ≤ g2 ∧ Hid (Below w.heap.size w wr) ∧ Hid (J (uptE N ln L u i) wr))
      case atStart => exact ⟨0, by go_num, by omega, by omega, HW, HJ⟩
      case round =>
        clear HW HJ hc
        obtain ⟨i, rfl, hi, hg2, HW, HJ⟩ := hrel
        by_cases hil : i < ln u
        · obtain ⟨b2, o2, rfl, _, hc2⟩ := (unhide HRI wr (unhide HW)).at hil
          obtain ⟨v, hv, ev⟩ := unhide HRG u i hlt hil
          unfold iv at hc2
          rw [ev] at hc2
          obtain ⟨hp, epk⟩ := pk_some (N := N) (L := L) (u := u) (i := i) (by omega) hv ev
          have HEX := hide (uptE_next (ln := ln) epk)
          have hlen : (uptE N ln L u i).length < 1099511627776 := by
            have h1 := uptE_len (N := N) (ln := ln) (L := L) (M := 1048576) (u := u) (i := i) (fun k hk => unhide HLN k (by omega))
            have h2 : u * 1048576 ≤ 1048575 * 1048576 := Nat.mul_le_mul_right _ (by omega)
            omega
          have HYY := hide (unhide HY (uptE N ln L u i) ⟨(u, v), hp⟩ wr (unhide HJ) hlen)
          obtain ⟨fn, tmps, assign, body, hy, hR2⟩ := unhide HYY
          have HR2 := hide hR2
          clear hR2 HYY epk ev hlen
          generalize ln u = lu at *
          gi_wp2
          refine (unhide HR2).mono ?_
          rintro e W3 (⟨rfl, hJ3, hk3⟩ | ⟨rfl, hJx3⟩)
          · have HW3 := hide ((unhide HW).trans hk3)
            have HJ3 := hide hJ3
            rw [← unhide HEX] at HJ3
            clear hJ3 hk3
            gi_wp2
            gi_roundg (lu - (i + 1))
            case measure => omega
            case rel => exact ⟨i + 1, by go_num, by omega, by omega, HW3, HJ3⟩
          · gi_wp2
            refine bodyPost_ret (results_none rfl _ _ _) rfl ?_
            exact ⟨⟨_, rfl⟩, .inr ⟨_, trivial, hJx3⟩⟩
        · have HJ2 := hide (show J (uptE N ln L (u + 1) 0) wr from by
            have := unhide HJ
            obtain rfl : i = ln u := by omega
            rw [uptE_row] at this
            exact this)
          clear HJ
          generalize ln u = lu at *
          gi_wp2
          gi_roundg (N - (u + 1))
          case measure => omega
          case rel => exact ⟨u + 1, by go_num, by omega, by omega, HW, HJ2⟩
    · obtain rfl : u = N := by omega
      gi_wp2
      go_end0
      exact ⟨⟨_, rfl⟩, .inl ⟨_, rfl, unhide HJ⟩⟩
end Go.Proofs.Ytjflnpcpnoccjaa
