import Derived.Test.YtjflnpcpnoccjaaGrH
namespace Go.Proofs.Ytjflnpcpnoccjaa
open Go.RowKit

theorem ebB_snoc (n : Nat) (f : Nat → Int) (v : Int) : ebB (n + 1) f v = (ebB n f v || f n == v) := by
  apply b_eq
  rw [ebB_iff, Bool.or_eq_true, ebB_iff]
  constructor
  · rintro ⟨i, hi, e⟩
    by_cases q : i = n
    · subst q; exact .inr (by simpa using e)
    · exact .inl ⟨i, by omega, e⟩
  · rintro (⟨i, hi, e⟩ | e)
    · exact ⟨i, by omega, e⟩
    · exact ⟨n, by omega, by simpa using e⟩
theorem ebB_put (n : Nat) (f : Nat → Int) (u : Nat) (e : f n = (u : Int)) : (fun v : Nat => ebB (n + 1) f (v : Int)) = putB (fun v : Nat => ebB n f (v : Int)) u := by
  funext v
  rw [ebB_snoc]
  unfold putB
  by_cases q : v = u
  · subst q
    simp [e]
  · have : (f n == (v : Int)) = false := by rw [e]; simp; omega
    rw [this, if_neg q, Bool.or_false]
set_option maxRecDepth 100000 in
set_option maxHeartbeats 4000000 in
theorem rReach_any {N : Nat} {ln : Nat → Nat} {L : Nat → Nat → Int} {q : Nat} {fs : Nat → Int} {na pa : Option Addr} {nc pc : Nat} {w : World} (hN : N ≤ 1048576) (hln : ∀ k, k < N → ln k ≤ 1048576) (hq2 : q ≤ 1048576) (hR : Rr w na N ln L) (hF : Ri w pa q fs) :
    Calls Try.prog 15 #[.slice na N nc, .slice pa q pc] w fun x w' => ∃ ga gc, x = .returned (.tuple #[.slice ga (reN N ln L q fs) gc, .int .i64 (reE N ln L q fs)]) ∧ Rn w.heap.size w' ga (reN N ln L q fs) (bv (rb N ln L q fs)) ∧ Below w.heap.size w w' := by
  have c1 := hide (rRight_any N ln L na nc w (by omega) (fun k hk => by have := hln k hk; omega) hR)
  cases hr : rgt N ln L with
  | false =>
    rw [hr] at c1
    have e1 : reN N ln L q fs = 0 := if_neg (by simp [reO, hr])
    have e2 : reE N ln L q fs = 120 := if_neg (by simp [reO, hr])
    rw [e1, e2]
    clear hR hF hln e1 e2
    go_enter Try.func15, Try.ntmps15
    go_wp2_with (go_at_call 46; refine (unhide c1).mono ?_; rintro x1 w1 ⟨rfl, hw1⟩; rw [hw1]; clear hw1 w1)
    go_ret2
    exact ⟨none, 0, rfl, Rn.nil, Below.refl _ _⟩
  | true =>
    rw [hr] at c1
    have HNO := hide (show ∀ i, i < q → nd N (fs i) = false → reN N ln L q fs = 0 ∧ reE N ln L q fs = 120 from fun i hi h => by
      have : reO N ln L q fs ≠ true := by simp [reO, hr, bAll_no (p := fun i => nd N (fs i)) hi h]
      exact ⟨if_neg this, if_neg this⟩)
    have HYE := hide (show (∀ i, i < q → nd N (fs i) = true) → (reN N ln L q fs = N ∧ reE N ln L q fs = 0) ∧ ∀ v, Fr q fs v ↔ v < N ∧ (fun v : Nat => ebB q fs (v : Int)) v = true from fun h => by
      have : reO N ln L q fs = true := by
        unfold reO
        rw [hr, (bAll_iff _ _).2 h]
        rfl
      refine ⟨⟨if_pos this, if_pos this⟩, fun v => ?_⟩
      show Fr q fs v ↔ v < N ∧ ebB q fs (v : Int) = true
      rw [ebB_iff]
      constructor
      · rintro ⟨i, hi, e⟩
        have := (nd_iff _ _).1 (h i hi)
        exact ⟨by omega, i, hi, e⟩
      · rintro ⟨_, i, hi, e⟩
        exact ⟨i, hi, e⟩)
    have c2 := hide (fun (W : World) (hw : Below w.heap.size w W) (pa : Option Addr) (pc : Nat) (m0 : Nat → Bool) (hS : ∀ v, Fr q fs v ↔ v < N ∧ m0 v = true) (hF : Rt W pa N m0) => rfrom_any (nc := nc) (pc := pc) hr hS hN hln (hR.later hw) hF)
    have mk := makeT N (by omega) w
    obtain ⟨W0, hW0⟩ : ∃ W, W = w.alloc (.cells (madeCells #[.bool false] N) 4) := ⟨_, rfl⟩
    have HM0 := hide (show Mv w.heap.size N 4 (bv fun v : Nat => ebB 0 fs (v : Int)) W0 from by rw [hW0]; exact ⟨_, heap_new _ _, fun k hk => by rw [made_at _ _ _ hk]; rfl⟩)
    have HB0 := hide (show Below w.heap.size w W0 from by rw [hW0]; exact al w _)
    rw [← hW0] at mk
    have HF := hide hF
    clear hW0 hr hln hR hF
    go_enter Try.func15, Try.ntmps15
    go_wp2_with (go_at_call 46; refine (unhide c1).mono ?_; rintro x1 w1 ⟨rfl, hw1⟩; rw [hw1]; clear hw1 w1)
    obtain ⟨g, hg⟩ : ∃ x, x = w.heap.size := ⟨_, rfl⟩
    rw [← hg] at HM0 ⊢
    have HG := hide (show w.heap.size ≤ g from by rw [hg]; exact Nat.le_refl _)
    have HGE := hide hg
    clear hg mk
    go_loopg [8] q (fun g1 vi wr => ∃ k : Nat, vi = .int .i64 k ∧ k ≤ q ∧ q - k ≤ g1 ∧ Hid (∀ i, i < k → nd N (fs i) = true) ∧ Hid (Mv g N 4 (bv fun v : Nat => ebB k fs (v : Int)) wr) ∧ Hid (Below w.heap.size w wr))
    case atStart => exact ⟨0, by go_num, by omega, by omega, hide (fun i hi => by omega), HM0, HB0⟩
    case round =>
      clear HM0 HB0
      obtain ⟨k, rfl, hk, hg1, HA, HM, HB⟩ := hrel
      by_cases hlt : k < q
      · obtain ⟨b, o, rfl, _, hc⟩ := (Ri.later (unhide HF) (unhide HB)).at hlt
        unfold iv at hc
        cases hy : nd N (fs k) with
        | true =>
          have HA2 := hide (show ∀ j, j < k + 1 → nd N (fs j) = true from fun j hj => by
            by_cases e : j = k
            · subst e; exact hy
            · exact unhide HA j (by omega))
          obtain ⟨z0, z2⟩ := (nd_iff _ _).1 hy
          obtain ⟨v, hv⟩ : ∃ v : Nat, fs k = (v : Int) := ⟨(fs k).toNat, by omega⟩
          have HPU := hide (ebB_put k fs v hv)
          rw [hv] at hc z0 z2
          have hvN : v < N := by omega
          obtain ⟨cv, fv⟩ := (unhide HM).cell hvN
          unfold bv at cv
          have HM2 := hide (show Mv g N 4 (bv fun v : Nat => ebB (k + 1) fs (v : Int)) (wr.setCell ⟨g, v, none⟩ (.bool true)) from by rw [unhide HPU, ← bv_put]; exact (unhide HM).set hvN _)
          have HB2 := hide ((unhide HB).setCell (p := ⟨g, v, none⟩) (unhide HG) (.bool true))
          clear hy hv HM HB HPU
          generalize ebB k fs (v : Int) = bb at *
          go_wp2_with fail
          generalize wr.setCell ⟨g, v, none⟩ (.bool true) = w2 at *
          go_wp2_with fail
          go_roundg (q - (k + 1))
          case measure => omega
          case rel => exact ⟨k + 1, by go_num, by omega, by omega, HA2, HM2, HB2⟩
        | false =>
          have HZ : ¬ (0 ≤ fs k ∧ fs k < (N : Int)) := fun e => by rw [(nd_iff _ _).2 e] at hy; cases hy
          have HEE := hide (unhide HNO k hlt hy)
          clear hy
          generalize fs k = l at hc HZ
          go_wp2
          all_goals first | (exfalso; omega) | skip
          all_goals go_ret2
          all_goals (rw [(unhide HEE).1, (unhide HEE).2]; first | exact ⟨none, 0, rfl, Rn.nil, unhide HB⟩ | exact ⟨none, ⟨0, rfl⟩, Rn.nil, unhide HB⟩)
      · obtain rfl : k = q := by omega
        obtain ⟨e12, hS⟩ := unhide HYE (unhide HA)
        have HEE := hide e12
        have c3 := hide (unhide c2 wr (unhide HB) (some ⟨g, 0, none⟩) N (fun v : Nat => ebB k fs (v : Int)) hS (unhide HM).rv)
        have hsz := (unhide HB).size
        have HSZ := hide hsz
        clear e12 hS hsz
        go_wp2_with (go_at_call 47; refine (unhide c3).mono ?_; rintro x2 w2 ⟨ga, gc, rfl, hrn, hb2⟩; have HRN := hide (hrn.low (unhide HSZ)); have HB2 := hide (bl_t (unhide HB) hb2); clear hrn hb2)
        go_ret2
        rw [(unhide HEE).1, (unhide HEE).2]
        exact ⟨ga, gc, rfl, unhide HRN, unhide HB2⟩
end Go.Proofs.Ytjflnpcpnoccjaa
