import Derived.Test.YtdflllaahjahcaaGrY
namespace Go.Proofs.Ytdflllaahjahcaa
open Go.RowKit

/-- THE LEAST OF THOSE FROM y ON. -/
def Ld (p : Nat → Prop) (y : Nat) (r : Int) : Prop := (r = -1 ∧ ∀ c, y ≤ c → ¬ p c) ∨ ∃ b : Nat, r = (b : Int) ∧ p b ∧ ∀ c, y ≤ c → p c → b ≤ c
theorem Ld.take {p : Nat → Prop} {y : Nat} {r : Int} (_h : Ld p (y + 1) r) (hp : p y) : Ld p y (y : Int) := .inr ⟨y, rfl, hp, fun _ hc _ => hc⟩
theorem Ld.skip {p : Nat → Prop} {y : Nat} {r : Int} (h : Ld p (y + 1) r) (hp : ¬ p y) : Ld p y r := by
  rcases h with ⟨h1, h2⟩ | ⟨b, h1, h2, h3⟩
  · refine .inl ⟨h1, fun c hc => ?_⟩
    by_cases e : c = y
    · subst e; exact hp
    · exact h2 c (by omega)
  · refine .inr ⟨b, h1, h2, fun c hc hpc => ?_⟩
    by_cases e : c = y
    · subst e; exact absurd hpc hp
    · exact h3 c (by omega) hpc
set_option maxRecDepth 100000 in
set_option maxHeartbeats 4000000 in
theorem rCycle_any {N : Nat} {ln : Nat → Nat} {L : Nat → Nat → Int} {u v : Int} {na : Option Addr} {nc : Nat} {w : World} (hN : N ≤ 1048576) (hln : ∀ k, k < N → ln k ≤ 1048576) (hR : Rr w na N ln L) :
    Calls Try.prog 17 #[.slice na N nc, .int .i64 u, .int .i64 v] w fun x w' => ∃ la lc, x = .returned (.tuple #[.slice la (cyN N ln L u v) lc, .int .i64 (cyE N ln L u v)]) ∧ Rn w.heap.size w' la (cyN N ln L u v) (iv (cyF N ln L u v)) ∧ Below w.heap.size w w' := by
  have c1 := hide (rRight_any N ln L na nc w (by omega) (fun k hk => by have := hln k hk; omega) hR)
  cases hr : rgt N ln L with
  | false =>
    rw [hr] at c1
    have HC := hide (cy_bad (N := N) (ln := ln) (L := L) (u := u) (v := v) (by unfold cyO; rw [hr]; rfl))
    rw [(unhide HC).1, (unhide HC).2]
    clear hR hln
    go_enter Try.func17, Try.ntmps17
    go_wp2_with (go_at_call 46; refine (unhide c1).mono ?_; rintro x1 w1 ⟨rfl, hw1⟩; rw [hw1]; clear hw1 w1)
    go_ret2
    exact ⟨none, 0, rfl, Rn.nil, Below.refl _ _⟩
  | true =>
    rw [hr] at c1
    cases hnd : (nd N u && nd N v) with
    | false =>
      have HZ : ¬ ((0 ≤ u ∧ u < (N : Int)) ∧ 0 ≤ v ∧ v < (N : Int)) := fun e => by
        rw [(nd_iff _ _).2 e.1, (nd_iff _ _).2 e.2] at hnd
        cases hnd
      have HC := hide (cy_bad (N := N) (ln := ln) (L := L) (u := u) (v := v) (by unfold cyO; rw [hr, hnd]; rfl))
      rw [(unhide HC).1, (unhide HC).2]
      clear hR hln
      go_enter Try.func17, Try.ntmps17
      go_wp2_with (go_at_call 46; refine (unhide c1).mono ?_; rintro x1 w1 ⟨rfl, hw1⟩; rw [hw1]; clear hw1 w1)
      all_goals first | (exfalso; omega) | skip
      all_goals go_ret2
      all_goals first | exact ⟨none, 0, rfl, Rn.nil, Below.refl _ _⟩ | exact ⟨none, ⟨0, rfl⟩, Rn.nil, Below.refl _ _⟩
    | true =>
      have hnd2 := hnd
      rw [Bool.and_eq_true, nd_iff, nd_iff] at hnd2
      obtain ⟨⟨u0, u1⟩, v0, v1⟩ := hnd2
      obtain ⟨u, rfl⟩ : ∃ x : Nat, u = (x : Int) := ⟨u.toNat, by omega⟩
      obtain ⟨v, rfl⟩ : ∃ x : Nat, v = (x : Int) := ⟨v.toNat, by omega⟩
      have hu : u < N := by omega
      have hv : v < N := by omega
      have HCO := hide (show cyO N ln L (u : Int) (v : Int) = true from by unfold cyO; rw [hr, hnd]; rfl)
      have c3 := hide (rdist_any (nc := nc) hr hu hN hln hR)
      have c5 := hide (fun (a : Nat) (y : Int) (W : World) (ha : a < N) (hb : Below w.heap.size w W) => redge_any N ln L a y na nc W ha (by omega) (by have := hln a ha; omega) (hR.later hb))
      have HNX := hide (fun (a k : Nat) (ha : a < N) (hk : dt N ln L u a = ((k + 1 : Nat) : Int)) (r : Int) (h : Ld (fun c => Eg N ln L a c ∧ dt N ln L u c = (k : Int)) 0 r) => show r = ((nx N ln L u a : Nat) : Int) from by
        obtain ⟨n1, n2, n3⟩ := nx_is hk
        have e1 : dt N ln L u a - 1 = (k : Int) := by rw [hk]; omega
        rw [e1] at n2 n3
        rcases h with ⟨_, h2⟩ | ⟨b, rfl, ⟨b1, b2⟩, b3⟩
        · exact absurd ⟨n1, n2⟩ (h2 _ (Nat.zero_le _))
        · have := b3 _ (Nat.zero_le _) ⟨n1, n2⟩
          have := n3 b b1 b2
          omega)
      have HPT := hide (fun (k : Nat) (h : dt N ln L u v = (k : Int)) => pth_is hr hv h)
      have HDZ := hide (fun (x : Nat) => dt_zero (N := N) (ln := ln) (L := L) (u := u) (v := x))
      have HLT := hide (fun (k : Nat) (h : dt N ln L u v = (k : Int)) => ds_lt (fun a b (h : Ge N ln L a b) => Eg.lt hr h) hv h)
      have HCN := hide (fun (h2 : cyW N ln L (u : Int) (v : Int) = false) => cy_no (unhide HCO) h2)
      have HCY := hide (fun (k : Nat) (h2 : cyW N ln L (u : Int) (v : Int) = true) (hk : dt N ln L u v = (k : Int)) => cy_yes (unhide HCO) h2 hk)
      have HCW := hide (show cyW N ln L (u : Int) (v : Int) = (ebB (ln u) (L u) (v : Int) && (dt N ln L u v != -1)) from rfl)
      have HVL := hide (fun j => cyL_vl N ln L u v j)
      have HCX := hide (fun j => cyL_next N ln L u v j)
      have HGE := hide (ds_ge (Ge N ln L) (fun x => x = u) v)
      have HEB := hide (fun (a c : Nat) (ha : a < N) => show ebB (ln a) (L a) (c : Int) = true ↔ Eg N ln L a c from by
        rw [ebB_iff]
        exact ⟨fun h => ⟨ha, h⟩, fun h => h.2⟩)
      have HEL := hide (fun (a c : Nat) (h : Eg N ln L a c) => Eg.lt hr h)
      change Hid (-1 ≤ dt N ln L u v) at HGE
      clear hR hr hln hnd
      obtain ⟨i0, hi0, hz0, hz1, hz2⟩ := info_parts infoI
      obtain ⟨D, hD⟩ : ∃ D, D = dt N ln L u := ⟨_, rfl⟩
      rw [← hD] at c3 HNX HPT HDZ HLT HCY HCW HGE
      clear hD
      go_enter Try.func17, Try.ntmps17
      go_upto_region 5 with (first | (go_at_call 46; refine (unhide c1).mono ?_; rintro x1 w1 ⟨rfl, hw1⟩; rw [hw1]; clear hw1 w1) | (go_at_call 51; refine (unhide c3).mono ?_; rintro x4 w4 ⟨gf, gc, rfl, hgf, hmf, hb4⟩; have HMF := hide hmf; have HB4 := hide hb4; clear hgf hmf hb4))
      clear c1 c3
      have c7 := hide (unhide c5 u (v : Int) w4 hu (unhide HB4))
      obtain ⟨cv, _⟩ := (unhide HMF).cell hv
      unfold iv at cv
      cases hE : ebB (ln u) (L u) (v : Int) with
      | false =>
        rw [hE] at c7
        have HC := hide (unhide HCN (by rw [unhide HCW, hE]; rfl))
        go_wp2_with (go_at_call 52; refine (unhide c7).mono ?_; rintro x5 w5 ⟨rfl, hw5⟩; rw [hw5]; clear hw5 w5)
        go_ret2
        rw [(unhide HC).1, (unhide HC).2]
        exact ⟨none, 0, rfl, Rn.nil, unhide HB4⟩
      | true =>
        rw [hE] at c7
        by_cases hdv : D v = -1
        · have HC := hide (unhide HCN (by rw [unhide HCW, hdv]; simp))
          rw [hdv] at cv
          go_wp2_with (go_at_call 52; refine (unhide c7).mono ?_; rintro x5 w5 ⟨rfl, hw5⟩; rw [hw5]; clear hw5 w5)
          go_ret2
          rw [(unhide HC).1, (unhide HC).2]
          exact ⟨none, 0, rfl, Rn.nil, unhide HB4⟩
        · obtain ⟨k, hk⟩ : ∃ k : Nat, D v = (k : Int) := ⟨(D v).toNat, by have := unhide HGE; omega⟩
          have HC := hide (unhide HCY k (by rw [unhide HCW, hE, Bool.true_and]; simpa using hdv) hk)
          have hkN := unhide HLT k hk
          have HP := hide (unhide HPT k hk)
          rw [hk] at cv
          have hk0 : ¬ (k : Int) < 0 := by omega
          have HO0 := hide (World.ownsRow_lit (base := w4.heap.size) (e := 3) (size := 1) w4 #[.int .i64 (u : Int)] 1 (Nat.le_refl _) (by unfold maxLen; omega) (by simp))
          have HL4 := hide (unhide HMF).lt
          have HM1 := hide ((unhide HMF).later (al w4 (.cells #[.int .i64 (u : Int)] 3)))
          have HB5 := hide (bl_t (unhide HB4) (al w4 (.cells #[.int .i64 (u : Int)] 3)))
          have HS5 := hide (show w4.heap.size ≤ (w4.alloc (.cells #[.int .i64 (u : Int)] 3)).heap.size from by simp)
          have HW4 := hide (unhide HB4).size
          clear HCN HCY HPT HLT hE hdv hk HGE HCW
          go_wp2_with (go_at_call 52; refine (unhide c7).mono ?_; rintro x5 w5 ⟨rfl, hw5⟩; rw [hw5]; clear hw5 w5)
          clear cv c7 HMF
          obtain ⟨lo, hlo⟩ : ∃ lo, lo = w4.heap.size := ⟨_, rfl⟩
          rw [← hlo] at HO0 HL4 HS5 HW4 ⊢
          clear hlo
          generalize w4.alloc (.cells #[.int .i64 (u : Int)] 3) = W5 at *
          go_loopg [11, 12, 13, 14, 15] k (fun g1 vc va _ _ _ wr => ∃ (j : Nat) (la : Option Addr) (lc : Nat), vc = .slice la (j + 1) lc ∧ va = .int .i64 ((pth N ln L u v j : Nat) : Int) ∧ j ≤ k ∧ k - j ≤ g1 ∧ Hid (wr.ownsRow lo 3 1 (.slice la (j + 1) lc) (j + 1) (tV (cyL N ln L u v j))) ∧ Hid (Mv gf N 3 (iv D) wr) ∧ Hid (Below w.heap.size w wr) ∧ Hid (lo ≤ wr.heap.size))
          case atStart => exact ⟨0, _, _, rfl, rfl, by omega, by omega, HO0, HM1, HB5, HS5⟩
          case round =>
            clear HO0 HM1 HB5 HS5
            obtain ⟨j, la, lc, rfl, rfl, hj, hg1, HO, HM, HB, HS⟩ := hrel
            obtain ⟨p1, p2⟩ := unhide HP j hj
            have HNN := hide (show pth N ln L u v (j + 1) = nx N ln L u (pth N ln L u v j) from rfl)
            have HCX2 := hide (unhide HCX j)
            generalize pth N ln L u v j = a at *
            by_cases hlt : j < k
            · have hau : ((a : Int) != (u : Int)) = true := by
                simp
                intro q
                have := (unhide HDZ a).2 (by omega)
                omega
              have hzz := unhide HS
              obtain ⟨t, ht⟩ : ∃ t, k - j = t + 1 := ⟨k - j - 1, by omega⟩
              have hda : D a = ((t + 1 : Nat) : Int) := by rw [p2, ht]
              have HNA := hide (unhide HNX a t p1 hda)
              rw [← unhide HNN] at HNA
              have ha2 : (a : Int) < (N : Int) := by omega
              have hrow : ∀ q, (Value.slice la (j + 1) lc).ownBlock = some q → lo ≤ q := fun q e => ((unhide HO).lt q e).1
              have HROW := hide hrow
              clear hrow
              have jn : IntKind.i64.wrap ((N : Int) - 1) = (N : Int) - 1 := IntWalk.i64_in _ (by omega)
              go_wp2_with (at_builtin; go_must (refine wpList_append_lies _ rfl _ _ 23 rfl lo 3 i0 (.int .i64 0) 1 8 Try.underlying23 hi0 hz0 hz1 hz2 rfl (by decide) (.slice la (j + 1) lc) (j + 1) (tV (cyL N ln L u v j)) rfl ((unhide HO).alloc _) ⟨wr.heap.size, 0, none⟩ 1 1 [.int .i64 (a : Int)] rfl rfl (cell_one_new _ _ _) (by simp [Value.oneCell']) (by decide) (by unfold maxLen; omega) (by omega) (by simp; omega) _ rfl ?_); intro gg c9 w9 hown hgrow hat _; have HO9 := hide hown; have HGR := hide hgrow; clear hown hgrow hat)
              have HM9 := hide (show Mv gf N 3 (iv D) w9 from ((unhide HM).later (al wr (.cells #[.int .i64 (a : Int)] 3))).same ((unhide HGR).block _ ((unhide HM).later (al wr (.cells #[.int .i64 (a : Int)] 3))).lt fun e => by have := unhide HROW _ e.symm; have := unhide HL4; omega))
              have HB9 := hide (show Below w.heap.size w w9 from (bl_t (unhide HB) (al wr (.cells #[.int .i64 (a : Int)] 3))).grown (unhide HGR) (bl_t (unhide HB) (al wr (.cells #[.int .i64 (a : Int)] 3))).size (fun q e => Nat.le_trans (unhide HW4) (unhide HROW q e)))
              have HS9 := hide (show lo ≤ w9.heap.size from by have := (unhide HGR).size; simp at this; omega)
              have HO10 := hide (show w9.ownsRow lo 3 1 (.slice (some ⟨gg, 0, none⟩) (j + 1 + 1) c9) (j + 1 + 1) (tV (cyL N ln L u v (j + 1))) from by rw [unhide HCX2, tV_snoc]; exact unhide HO9)
              clear HO HM HB HS HO9 HGR
              go_loopg [13, 14, 15] N (fun g2 vr vi _ wr => ∃ (y : Nat) (r : Int), vi = .int .i64 ((y : Int) - 1) ∧ vr = .int .i64 r ∧ y ≤ N ∧ y ≤ g2 ∧ Hid (Ld (fun c => c < N ∧ Eg N ln L a c ∧ D c = (t : Int)) y r) ∧ Hid (Below w9.heap.size w9 wr))
              case atStart => exact ⟨N, -1, by go_num, rfl, by omega, by omega, hide (.inl ⟨rfl, fun c hc q => by have := q.1; omega⟩), hide (Below.refl _ _)⟩
              case round =>
                obtain ⟨y, r, rfl, rfl, hy, hg2, HLD, HBW⟩ := hrel
                by_cases hy0 : 0 < y
                · obtain ⟨y, rfl⟩ : ∃ y', y = y' + 1 := ⟨y - 1, by omega⟩
                  have hyN : y < N := by omega
                  have j0 : ((y + 1 : Nat) : Int) - 1 = (y : Int) := by omega
                  have hy2 : (y : Int) < (N : Int) := by omega
                  have HBX := hide (bl_t (unhide HB9) (unhide HBW))
                  have c8 := hide (unhide c5 a (y : Int) wr p1 (unhide HBX))
                  obtain ⟨cy, _⟩ := ((unhide HM9).later (unhide HBW)).cell hyN
                  obtain ⟨ca, _⟩ := ((unhide HM9).later (unhide HBW)).cell p1
                  unfold iv at cy ca
                  rw [hda] at ca
                  have j1 : ((t + 1 : Nat) : Int) - 1 = (t : Int) := by omega
                  have j2 : IntKind.i64.wrap (t : Int) = (t : Int) := IntWalk.i64_in _ (by omega)
                  have j3 : IntKind.i64.wrap ((y : Int) - 1) = (y : Int) - 1 := IntWalk.i64_in _ (by omega)
                  have j5 : ¬ (y : Int) < 0 := by omega
                  have HEB2 := hide (unhide HEB a y p1)
                  rw [j0]
                  cases hE : ebB (ln a) (L a) (y : Int) with
                  | false =>
                    rw [hE] at c8
                    have HLD2 := hide ((unhide HLD).skip (fun q => by have := (unhide HEB2).2 q.2.1; rw [hE] at this; cases this))
                    clear HLD hE
                    go_wp2_with (go_at_call 52; refine (unhide c8).mono ?_; rintro x5 w5 ⟨rfl, hw5⟩; rw [hw5]; clear hw5 w5)
                    go_quiet (fail)
                    have HBW2 := hide (bl_t (unhide HBW) (bl_drewN wr nq))
                    clear cy ca c8 HBW HBX
                    generalize wr.drewN nq = W6 at *
                    go_wp2
                    go_roundg y
                    case measure => omega
                    case rel => exact ⟨y, r, by go_num, rfl, by omega, by omega, HLD2, HBW2⟩
                  | true =>
                    rw [hE] at c8
                    have HEG := hide ((unhide HEB2).1 hE)
                    by_cases hD : D y = (t : Int)
                    · have HLD2 := hide ((unhide HLD).take ⟨hyN, unhide HEG, hD⟩)
                      have hz : (D y == (t : Int)) = true := by simpa using hD
                      clear HLD hE hD
                      generalize D y = dy at *
                      go_wp2_with (go_at_call 52; refine (unhide c8).mono ?_; rintro x5 w5 ⟨rfl, hw5⟩; rw [hw5]; clear hw5 w5)
                      go_quiet (fail)
                      have HBW2 := hide (bl_t (unhide HBW) (bl_drewN wr nq))
                      clear cy ca c8 HBW HBX
                      generalize wr.drewN nq = W6 at *
                      go_wp2
                      go_roundg y
                      case measure => omega
                      case rel => exact ⟨y, _, by go_num, rfl, by omega, by omega, HLD2, HBW2⟩
                    · have HLD2 := hide ((unhide HLD).skip (fun q => hD q.2.2))
                      have hz : (D y == (t : Int)) = false := by simpa using hD
                      clear HLD hE hD
                      generalize D y = dy at *
                      go_wp2_with (go_at_call 52; refine (unhide c8).mono ?_; rintro x5 w5 ⟨rfl, hw5⟩; rw [hw5]; clear hw5 w5)
                      go_quiet (fail)
                      have HBW2 := hide (bl_t (unhide HBW) (bl_drewN wr nq))
                      clear cy ca c8 HBW HBX
                      generalize wr.drewN nq = W6 at *
                      go_wp2
                      go_roundg y
                      case measure => omega
                      case rel => exact ⟨y, r, by go_num, rfl, by omega, by omega, HLD2, HBW2⟩
                · obtain rfl : y = 0 := by omega
                  have HR2 := hide (show r = ((pth N ln L u v (j + 1) : Nat) : Int) from unhide HNA r (by
                    rcases unhide HLD with ⟨q1, q2⟩ | ⟨b, q1, q2, q3⟩
                    · exact .inl ⟨q1, fun c hc q => q2 c hc ⟨unhide HEL a c q.1, q⟩⟩
                    · exact .inr ⟨b, q1, q2.2, fun c hc q => q3 c hc ⟨unhide HEL a c q.1, q⟩⟩))
                  have HO11 := hide (owns_below (unhide HO10) (unhide HBW))
                  have HM11 := hide ((unhide HM9).later (unhide HBW))
                  have HB11 := hide (bl_t (unhide HB9) (unhide HBW))
                  have HS11 := hide (Nat.le_trans (unhide HS9) (unhide HBW).size)
                  have j6 : ((0 : Nat) : Int) - 1 < 0 := by omega
                  clear HLD HBW HO10 HM9 HB9 HS9
                  go_wp2
                  go_roundg (k - (j + 1))
                  case measure => omega
                  case rel => exact ⟨j + 1, _, _, rfl, by rw [unhide HR2], by omega, by omega, HO11, HM11, HB11, HS11⟩
            · obtain rfl : j = k := by omega
              have hau : ((a : Int) != (u : Int)) = false := by
                have := (unhide HDZ a).1 (by rw [p2]; simp)
                rw [this]
                simp
              have HOF := hide (show Rn w.heap.size wr la (j + 1) (iv (cyF N ln L (u : Int) (v : Int))) from Rn.of_owns (by rw [← unhide HVL]; exact own_up (unhide HO) (unhide HW4)))
              clear HO HM HS
              go_wp2
              go_ret2
              rw [(unhide HC).1, (unhide HC).2]
              exact ⟨la, lc, rfl, unhide HOF, unhide HB⟩
end Go.Proofs.Ytdflllaahjahcaa
