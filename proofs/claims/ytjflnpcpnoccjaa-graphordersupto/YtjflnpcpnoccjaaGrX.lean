import Derived.Test.YtjflnpcpnoccjaaGrV
import Derived.Test.YtjflnpcpnoccjaaGrW
namespace Go.Proofs.Ytjflnpcpnoccjaa
open Go.RowKit

set_option maxHeartbeats 2000000 in
theorem leastAt_any {m N : Nat} {f D : Nat → Int} {n : Int} (hf : ∀ i, i < m → ∃ v : Nat, v < N ∧ f i = (v : Int)) {pa fa : Option Addr} {pc fc : Nat} {w : World} (hm : m ≤ 1048576) (h1 : Ri w pa m f) (h2 : Ri w fa N D) :
    Calls Try.prog 50 #[.slice pa m pc, .slice fa N fc, .int .i64 n] w fun x w' => (∃ r : Int, x = .returned (.int .i64 r) ∧ (r = (N : Int) ∨ ∃ i, i < m ∧ f i = r ∧ D r.toNat = n) ∧ ∀ i, i < m → D (f i).toNat = n → r ≤ f i) ∧ w' = w := by
  have H1 := hide h1
  have H2 := hide h2
  have HF := hide hf
  clear h1 h2 hf
  go_enter Try.func50, Try.ntmps50
  go_wp2
  go_loop [7, 9, 14] (fun vr _ vi => ∃ (k : Nat) (r : Int), k ≤ m ∧ vi = .int .i64 k ∧ vr = .int .i64 r ∧ Hid ((r = (N : Int) ∨ ∃ i, i < m ∧ f i = r ∧ D r.toNat = n) ∧ ∀ i, i < k → D (f i).toNat = n → r ≤ f i)) (fun _ _ i => m - (intOf i).toNat)
  case atStart => exact ⟨0, _, Nat.zero_le _, rfl, rfl, hide ⟨.inl rfl, fun i hi => by omega⟩⟩
  case round =>
    obtain ⟨k, r, hk, rfl, rfl, HI⟩ := hrel
    by_cases hlt : k < m
    · obtain ⟨b, o, rfl, _, hc⟩ := (unhide H1).at hlt
      obtain ⟨v, hv, ev⟩ := unhide HF k hlt
      obtain ⟨b2, o2, rfl, _, hc2⟩ := (unhide H2).at hv
      unfold iv at hc hc2
      rw [ev] at hc
      have hv2 : (v : Int) < (N : Int) := by omega
      by_cases hd : D v = n
      · have hz : (D v == n) = true := by simpa using hd
        by_cases hrv : r ≤ (v : Int)
        · have hmin : ¬ (v : Int) < r := by omega
          have HI2 := hide (show (r = (N : Int) ∨ ∃ i, i < m ∧ f i = r ∧ D r.toNat = n) ∧ ∀ i, i < k + 1 → D (f i).toNat = n → r ≤ f i from ⟨(unhide HI).1, fun i hi e => by
            by_cases q : i = k
            · subst q; rw [ev]; exact hrv
            · exact (unhide HI).2 i (by omega) e⟩)
          clear HI ev hd
          generalize D v = dv at *
          go_wp2
          go_round
          case rel => exact ⟨k + 1, _, by omega, by go_num, rfl, HI2⟩
          case measure => simp [intOf]; omega
        · have hmin : (v : Int) < r := by omega
          have HI2 := hide (show ((v : Int) = (N : Int) ∨ ∃ i, i < m ∧ f i = (v : Int) ∧ D (v : Int).toNat = n) ∧ ∀ i, i < k + 1 → D (f i).toNat = n → (v : Int) ≤ f i from ⟨.inr ⟨k, hlt, ev, by rw [Int.toNat_natCast]; exact hd⟩, fun i hi e => by
            by_cases q : i = k
            · subst q; rw [ev]; exact Int.le_refl _
            · have := (unhide HI).2 i (by omega) e
              omega⟩)
          clear HI ev hd
          generalize D v = dv at *
          go_wp2
          go_round
          case rel => exact ⟨k + 1, _, by omega, by go_num, rfl, HI2⟩
          case measure => simp [intOf]; omega
      · have hz : (D v == n) = false := by simpa using hd
        have HI2 := hide (show (r = (N : Int) ∨ ∃ i, i < m ∧ f i = r ∧ D r.toNat = n) ∧ ∀ i, i < k + 1 → D (f i).toNat = n → r ≤ f i from ⟨(unhide HI).1, fun i hi e => by
          by_cases q : i = k
          · subst q
            rw [ev, Int.toNat_natCast] at e
            exact absurd e hd
          · exact (unhide HI).2 i (by omega) e⟩)
        clear HI ev hd
        generalize D v = dv at *
        go_wp2
        go_round
        case rel => exact ⟨k + 1, _, by omega, by go_num, rfl, HI2⟩
        case measure => simp [intOf]; omega
    · have HI2 := hide (show (r = (N : Int) ∨ ∃ i, i < m ∧ f i = r ∧ D r.toNat = n) ∧ ∀ i, i < m → D (f i).toNat = n → r ≤ f i from ⟨(unhide HI).1, fun i hi => (unhide HI).2 i (by omega)⟩)
      clear HI
      go_wp2
      go_ret
      exact ⟨⟨_, rfl, (unhide HI2).1, (unhide HI2).2⟩, rfl⟩
theorem least_nx {N : Nat} {ln : Nat → Nat} {L : Nat → Nat → Int} {u a b : Nat} (h : Nx N ln L u a b) (hb : b < N) {r : Int} (hL : ∀ i, i < ln a → 0 ≤ L a i) (h1 : r = (N : Int) ∨ ∃ i, i < ln a ∧ L a i = r ∧ dt N ln L u r.toNat = dt N ln L u a - 1) (h2 : ∀ i, i < ln a → dt N ln L u (L a i).toNat = dt N ln L u a - 1 → r ≤ L a i) : r = (b : Int) := by
  obtain ⟨⟨n0, i, hi, ei⟩, n2, n3⟩ := h
  have h3 := h2 i hi (by rw [ei, Int.toNat_natCast]; exact n2)
  rw [ei] at h3
  rcases h1 with rfl | ⟨j, hj, ej, ed⟩
  · omega
  · have h4 := hL j hj
    have := n3 r.toNat ⟨n0, j, hj, by omega⟩ ed
    omega
/-- Steps over the edges turned about tell how far it is. -/
theorem dt_turn {N : Nat} {ln : Nat → Nat} {L : Nat → Nat → Int} (hr : rgt N ln L = true) (hN : N ≤ 1048576) (u : Nat) : ds (Eg N (twN N ln L) (twL N ln L)) (fun v : Nat => ∃ i, i < 1 ∧ (fun _ => (u : Int)) i = (v : Int)) = dt N ln L u := by
  have e1 : Eg N (twN N ln L) (twL N ln L) = Ge N ln L := by
    funext a b
    exact propext (tw_eg hr hN b a)
  have e2 : (fun v : Nat => ∃ i, i < 1 ∧ (fun _ : Nat => (u : Int)) i = (v : Int)) = fun x => x = u := by
    funext v
    refine propext ⟨?_, ?_⟩
    · rintro ⟨_, _, e⟩
      have : (u : Int) = (v : Int) := e
      omega
    · rintro rfl
      exact ⟨0, by omega, rfl⟩
  rw [e1, e2]
  rfl
theorem nd_two (N : Nat) (u v : Int) : (bAll 2 fun i => nd N (if i = 0 then u else v)) = (nd N u && nd N v) := by
  apply b_eq
  rw [bAll_iff, Bool.and_eq_true]
  constructor
  · intro h
    exact ⟨h 0 (by omega), h 1 (by omega)⟩
  · rintro ⟨h1, h2⟩ k hk
    by_cases e : k = 0
    · rw [if_pos e]; exact h1
    · rw [if_neg e]; exact h2
theorem ri_two {W : World} {x : Nat} {u v : Int} (h : W.heap[x]? = some (.cells #[.int .i64 u, .int .i64 v] 3 (0, 0))) : Ri W (some ⟨x, 0, none⟩) 2 (fun i => if i = 0 then u else v) := fun _ => ⟨x, 0, rfl, blk_lt h, fun i hi => by
  rw [Nat.zero_add, (cell_blk h i).1]
  match i, hi with
  | 0, _ => rfl
  | 1, _ => rfl⟩
set_option maxRecDepth 100000 in
set_option maxHeartbeats 4000000 in
theorem Cycle_any {N : Nat} {ln : Nat → Nat} {L : Nat → Nat → Int} {u v : Int} {na : Option Addr} {nc : Nat} {w : World} (hN : N ≤ 1048576) (hln : ∀ k, k < N → ln k ≤ 1048576) (hR : Rr w na N ln L) :
    Calls Try.prog 16 #[.slice na N nc, .int .i64 u, .int .i64 v] w fun x w' => ∃ la lc, x = .returned (.tuple #[.slice la (cyN N ln L u v) lc, .int .i64 (cyE N ln L u v)]) ∧ w'.ownsRow w.heap.size 3 1 (.slice la (cyN N ln L u v) lc) (cyN N ln L u v) (vl (cyN N ln L u v) (iv (cyF N ln L u v))) ∧ Below w.heap.size w w' := by
  have c1 := hide (isRight_any N ln L na nc w (by omega) (fun k hk => by have := hln k hk; omega) hR)
  have c2 := hide (areNodes_any N 2 (fun i => if i = 0 then u else v) na (some ⟨w.heap.size, 0, none⟩) nc 2 (w.alloc (.cells #[.int .i64 u, .int .i64 v] 3)) (by omega) (by omega) (ri_two (heap_new _ _)))
  rw [nd_two] at c2
  cases hr : rgt N ln L with
  | false =>
    rw [hr] at c1
    have HC := hide (cy_bad (N := N) (ln := ln) (L := L) (u := u) (v := v) (by unfold cyO; rw [hr]; rfl))
    rw [(unhide HC).1, (unhide HC).2]
    clear hR hln
    go_enter Try.func16, Try.ntmps16
    go_wp2_with (go_at_call 43; refine (unhide c1).mono ?_; rintro x1 w1 ⟨rfl, hw1⟩; rw [hw1]; clear hw1 w1)
    go_ret2
    exact ⟨none, 0, rfl, World.ownsRow_nil _ _ _ _, Below.refl _ _⟩
  | true =>
    rw [hr] at c1
    cases hnd : (nd N u && nd N v) with
    | false =>
      rw [hnd] at c2
      have HC := hide (cy_bad (N := N) (ln := ln) (L := L) (u := u) (v := v) (by unfold cyO; rw [hr, hnd]; rfl))
      rw [(unhide HC).1, (unhide HC).2]
      have HB1 := hide (al w (.cells #[.int .i64 u, .int .i64 v] 3))
      clear hR hln
      go_enter Try.func16, Try.ntmps16
      go_wp2_with (first | (go_at_call 43; refine (unhide c1).mono ?_; rintro x1 w1 ⟨rfl, hw1⟩; rw [hw1]; clear hw1 w1) | (go_at_call 44; refine (unhide c2).mono ?_; rintro x1 w1 ⟨rfl, hw1⟩; rw [hw1]; clear hw1 w1))
      go_ret2
      exact ⟨none, 0, rfl, World.ownsRow_nil _ _ _ _, unhide HB1⟩
    | true =>
      rw [hnd] at c2
      have hnd2 := hnd
      rw [Bool.and_eq_true, nd_iff, nd_iff] at hnd2
      obtain ⟨⟨u0, u1⟩, v0, v1⟩ := hnd2
      obtain ⟨u, rfl⟩ : ∃ x : Nat, u = (x : Int) := ⟨u.toNat, by omega⟩
      obtain ⟨v, rfl⟩ : ∃ x : Nat, v = (x : Int) := ⟨v.toNat, by omega⟩
      have hu : u < N := by omega
      have hv : v < N := by omega
      have HCO := hide (show cyO N ln L (u : Int) (v : Int) = true from by unfold cyO; rw [hr, hnd]; rfl)
      have HC2 := hide (al w (.cells #[.int .i64 (u : Int), .int .i64 (v : Int)] 3))
      have c3 := hide (turned_any (nc := nc) hr hN hln (hR.later (unhide HC2)))
      have c4 := hide (fun (W : World) (R : Nat) (ga : Nat → Option Addr) (gc : Nat → Nat) (h : Gs (R + 2) N R (tw N ln L) ga gc W) => steps_any (N := N) (nc := N) (pc := 1) (q := 1) (fs := fun _ => (u : Int)) (na := some ⟨R, 0, none⟩) (pa := some ⟨W.heap.size, 0, none⟩) (w := W.alloc (.cells #[.int .i64 (u : Int)] 3)) (tw_rgt hr hN) (fun i _ => by rw [nd_iff]; omega) hN (fun k _ => Nat.le_trans (twN_le hr hN k) hN) (by omega) ((h.later (al _ _)).rr) (ri_one (heap_new _ _)))
      rw [dt_turn hr hN u] at c4
      have c5 := hide (fun (W : World) (hb : Below w.heap.size w W) (pa : Option Addr) (pc : Nat) (h : Ri W pa (ln u) (L u)) => contains_any (ln u) (L u) (v : Int) pa pc W (by have := hln u hu; omega) h)
      have c6 := hide (fun (a b k : Nat) (W : World) (pa fa : Option Addr) (pc fc : Nat) (ha : a < N) (hk : dt N ln L u a = ((k + 1 : Nat) : Int)) (h : Ri W pa (ln a) (L a)) (h2 : Ri W fa N (dt N ln L u)) => (leastAt_any (n := dt N ln L u a - 1) (pc := pc) (fc := fc) (fun i hi => rgt_at hr ha hi) (hln a ha) h h2).mono (R' := fun x w' => x = .returned (.int .i64 ((nx N ln L u a : Nat) : Int)) ∧ w' = W) fun x w' hx => by
        obtain ⟨⟨r, rfl, q1, q2⟩, hw⟩ := hx
        have hnx := nx_is hk
        rw [least_nx hnx (Eg.lt hr hnx.1) (fun i hi => by obtain ⟨z, _, ez⟩ := rgt_at hr ha hi; omega) q1 q2]
        exact ⟨rfl, hw⟩)
      have HR := hide hR
      have HLN := hide hln
      have HPT := hide (fun (k : Nat) (h : dt N ln L u v = (k : Int)) => pth_is hr hv h)
      have HDZ := hide (fun (x : Nat) => dt_zero (N := N) (ln := ln) (L := L) (u := u) (v := x))
      have HLT := hide (fun (k : Nat) (h : dt N ln L u v = (k : Int)) => ds_lt (fun a b (h : Ge N ln L a b) => Eg.lt hr h) hv h)
      have HCN := hide (fun (h2 : cyW N ln L (u : Int) (v : Int) = false) => cy_no (unhide HCO) h2)
      have HCY := hide (fun (k : Nat) (h2 : cyW N ln L (u : Int) (v : Int) = true) (hk : dt N ln L u v = (k : Int)) => cy_yes (unhide HCO) h2 hk)
      have HCW := hide (show cyW N ln L (u : Int) (v : Int) = (ebB (ln u) (L u) (v : Int) && (dt N ln L u v != -1)) from rfl)
      have HVL := hide (fun j => cyL_vl N ln L u v j)
      have HCX := hide (fun j => cyL_next N ln L u v j)
      have HGE := hide (ds_ge (Ge N ln L) (fun x => x = u) v)
      change Hid (-1 ≤ dt N ln L u v) at HGE
      clear hR hr hln hnd
      obtain ⟨i0, hi0, hz0, hz1, hz2⟩ := info_parts infoI
      obtain ⟨D, hD⟩ : ∃ D, D = dt N ln L u := ⟨_, rfl⟩
      rw [← hD] at c4 c6 HPT HDZ HLT HCY HCW HGE
      clear hD
      go_enter Try.func16, Try.ntmps16
      go_upto_region 4 with (first | (go_at_call 43; refine (unhide c1).mono ?_; rintro x1 w1 ⟨rfl, hw1⟩; rw [hw1]; clear hw1 w1) | (go_at_call 44; refine (unhide c2).mono ?_; rintro x1 w1 ⟨rfl, hw1⟩; rw [hw1]; clear hw1 w1) | (go_at_call 48; refine (unhide c3).mono ?_; rintro x3 w3 ⟨R, ga, gc, rfl, hR3, hg3, hb3⟩; have HG3 := hide hg3; have HB3 := hide (bl_t (unhide HC2) hb3); clear hR3 hg3 hb3) | (go_at_call 45; refine (unhide c4 _ _ _ _ (unhide HG3)).mono ?_; rintro x4 w4 ⟨gf, rfl, hgf, hmf, hb4⟩; have HMF := hide hmf; have HB4 := hide (bl_t (bl_t (unhide HB3) (al _ _)) hb4); clear hgf hmf hb4))
      clear c1 c2 c3 c4 HG3 HB3 HC2
      obtain ⟨nb, no, ca, cc, rfl, hcn, hri⟩ := ((unhide HR).later (unhide HB4)).at hu
      have c7 := hide (unhide c5 w4 (unhide HB4) ca cc hri)
      obtain ⟨cv, _⟩ := (unhide HMF).cell hv
      unfold iv at cv
      clear c5 hri
      cases hE : ebB (ln u) (L u) (v : Int) with
      | false =>
        rw [hE] at c7
        have HC := hide (unhide HCN (by rw [unhide HCW, hE]; rfl))
        generalize ln u = lu at *
        go_wp2_with (go_at_call 49; refine (unhide c7).mono ?_; rintro x5 w5 ⟨rfl, hw5⟩; rw [hw5]; clear hw5 w5)
        go_ret2
        rw [(unhide HC).1, (unhide HC).2]
        exact ⟨none, 0, rfl, World.ownsRow_nil _ _ _ _, unhide HB4⟩
      | true =>
        rw [hE] at c7
        by_cases hdv : D v = -1
        · have HC := hide (unhide HCN (by rw [unhide HCW, hdv]; simp))
          rw [hdv] at cv
          generalize ln u = lu at *
          go_wp2_with (go_at_call 49; refine (unhide c7).mono ?_; rintro x5 w5 ⟨rfl, hw5⟩; rw [hw5]; clear hw5 w5)
          go_ret2
          rw [(unhide HC).1, (unhide HC).2]
          exact ⟨none, 0, rfl, World.ownsRow_nil _ _ _ _, unhide HB4⟩
        · obtain ⟨k, hk⟩ : ∃ k : Nat, D v = (k : Int) := ⟨(D v).toNat, by have := unhide HGE; omega⟩
          have HC := hide (unhide HCY k (by rw [unhide HCW, hE, Bool.true_and]; simpa using hdv) hk)
          have hkN := unhide HLT k hk
          have HP := hide (unhide HPT k hk)
          rw [hk] at cv
          have hk0 : ((k : Int) == -1) = false := by simp
          have HO0 := hide (World.ownsRow_lit (base := w4.heap.size) (e := 3) (size := 1) w4 #[.int .i64 (u : Int)] 1 (Nat.le_refl _) (by unfold maxLen; omega) (by simp))
          have HL4 := hide (unhide HMF).lt
          have HM1 := hide ((unhide HMF).later (al w4 (.cells #[.int .i64 (u : Int)] 3)))
          have HB5 := hide (bl_t (unhide HB4) (al w4 (.cells #[.int .i64 (u : Int)] 3)))
          have HS5 := hide (show w4.heap.size ≤ (w4.alloc (.cells #[.int .i64 (u : Int)] 3)).heap.size from by simp)
          have HW4 := hide (unhide HB4).size
          clear HCN HCY HPT HLT hE hdv hk HGE HCW
          generalize hlu : ln u = lu at c7 hcn
          clear hlu
          go_wp2_with (go_at_call 49; refine (unhide c7).mono ?_; rintro x5 w5 ⟨rfl, hw5⟩; rw [hw5]; clear hw5 w5)
          clear hcn cv c7 HMF
          obtain ⟨lo, hlo⟩ : ∃ lo, lo = w4.heap.size := ⟨_, rfl⟩
          rw [← hlo] at HO0 HL4 HS5 HW4 ⊢
          clear hlo
          generalize w4.alloc (.cells #[.int .i64 (u : Int)] 3) = W5 at *
          go_loopg [9, 10] k (fun g1 vc va wr => ∃ (j : Nat) (la : Option Addr) (lc : Nat), vc = .slice la (j + 1) lc ∧ va = .int .i64 ((pth N ln L u v j : Nat) : Int) ∧ j ≤ k ∧ k - j ≤ g1 ∧ Hid (wr.ownsRow lo 3 1 (.slice la (j + 1) lc) (j + 1) (tV (cyL N ln L u v j))) ∧ Hid (Mv gf N 3 (iv D) wr) ∧ Hid (Below w.heap.size w wr) ∧ Hid (lo ≤ wr.heap.size))
          case atStart => exact ⟨0, _, _, rfl, rfl, by omega, by omega, HO0, HM1, HB5, HS5⟩
          case round =>
            clear HO0 HM1 HB5 HS5
            obtain ⟨j, la, lc, rfl, rfl, hj, hg1, HO, HM, HB, HS⟩ := hrel
            obtain ⟨p1, p2⟩ := unhide HP j hj
            have HNX := hide (show pth N ln L u v (j + 1) = nx N ln L u (pth N ln L u v j) from rfl)
            have HCX2 := hide (unhide HCX j)
            generalize pth N ln L u v j = a at *
            by_cases hlt : j < k
            · have hau : ((a : Int) != (u : Int)) = true := by
                simp
                intro q
                have := (unhide HDZ a).2 (by omega)
                omega
              have hzz := unhide HS
              have HK1 := hide (show D a = (((k - j - 1) + 1 : Nat) : Int) from by rw [p2]; congr 1; omega)
              obtain ⟨t, ht⟩ : ∃ t, k - j = t + 1 := ⟨k - j - 1, by omega⟩
              have hda : D a = ((t + 1 : Nat) : Int) := by rw [p2, ht]
              have c8 := hide (fun (W : World) (pa fa : Option Addr) (pc fc : Nat) (h : Ri W pa (ln a) (L a)) (h2 : Ri W fa N D) => unhide c6 a 0 (k - j - 1) W pa fa pc fc p1 (unhide HK1) h h2)
              have HRA := hide (fun (W : World) (hb : Below w.heap.size w W) => ((unhide HR).later hb).at p1)
              have ha2 : (a : Int) < (N : Int) := by omega
              go_upto_region 9 with (at_builtin; go_must (refine wpList_append_lies _ rfl _ _ 23 rfl lo 3 i0 (.int .i64 0) 1 8 Try.underlying23 hi0 hz0 hz1 hz2 rfl (by decide) (.slice la (j + 1) lc) (j + 1) (tV (cyL N ln L u v j)) rfl ((unhide HO).alloc _) ⟨wr.heap.size, 0, none⟩ 1 1 [.int .i64 (a : Int)] rfl rfl (cell_one_new _ _ _) (by simp [Value.oneCell']) (by decide) (by unfold maxLen; omega) (by omega) (by simp; omega) _ rfl ?_); intro gg c9 w9 hown hgrow hat _; have HO9 := hide hown; have HGR := hide hgrow; clear hown hgrow hat)
              have e8 : D a - 1 = (t : Int) := by rw [hda]; omega
              rw [e8] at c8
              have j1 : ((t + 1 : Nat) : Int) - 1 = (t : Int) := by omega
              have j2 : IntKind.i64.wrap (t : Int) = (t : Int) := IntWalk.i64_in _ (by omega)
              have hrow : ∀ q, (Value.slice la (j + 1) lc).ownBlock = some q → lo ≤ q := fun q e => ((unhide HO).lt q e).1
              have HM9 := hide (show Mv gf N 3 (iv D) w9 from ((unhide HM).later (al wr (.cells #[.int .i64 (a : Int)] 3))).same ((unhide HGR).block _ ((unhide HM).later (al wr (.cells #[.int .i64 (a : Int)] 3))).lt fun e => by have := hrow _ e.symm; have := unhide HL4; omega))
              have HB9 := hide (show Below w.heap.size w w9 from (bl_t (unhide HB) (al wr (.cells #[.int .i64 (a : Int)] 3))).grown (unhide HGR) (bl_t (unhide HB) (al wr (.cells #[.int .i64 (a : Int)] 3))).size (fun q e => Nat.le_trans (unhide HW4) (hrow q e)))
              have HS9 := hide (show lo ≤ w9.heap.size from by have := (unhide HGR).size; simp at this; omega)
              have HO10 := hide (show w9.ownsRow lo 3 1 (.slice (some ⟨gg, 0, none⟩) (j + 1 + 1) c9) (j + 1 + 1) (tV (cyL N ln L u v (j + 1))) from by rw [unhide HCX2, tV_snoc]; exact unhide HO9)
              obtain ⟨nb2, no2, ca2, cc2, e2, hcn2, hri2⟩ := unhide HRA w9 (unhide HB9)
              cases e2
              obtain ⟨cba, _⟩ := (unhide HM9).cell p1
              unfold iv at cba
              rw [hda] at cba
              have c9' := hide (fun d => unhide c8 (w9.drewN d) ca2 (some ⟨gf, 0, none⟩) cc2 N (Ri.later hri2 (bl_drewN w9 d)) ((unhide HM9).rv.later (bl_drewN w9 d)))
              clear HO HM HB HS HO9 HGR hri2 c8 HRA hrow e8 hda p2
              rw [← unhide HNX] at c9'
              generalize ln a = la2 at *
              go_quiet (first | (go_at_call 50; exact Calls.quiet_of_same (unhide c9' _)))
              have HO11 := hide (owns_below (unhide HO10) (bl_drewN w9 nq))
              have HM11 := hide ((unhide HM9).later (bl_drewN w9 nq))
              have HB11 := hide (bl_t (unhide HB9) (bl_drewN w9 nq))
              have HS11 := hide (Nat.le_trans (unhide HS9) (bl_drewN w9 nq).size)
              clear HO10 HM9 HB9 HS9 hcn2 cba c9'
              generalize w9.drewN nq = W11 at *
              go_wp2
              go_roundg (k - (j + 1))
              case measure => omega
              case rel => exact ⟨j + 1, _, _, rfl, rfl, by omega, by omega, HO11, HM11, HB11, HS11⟩
            · obtain rfl : j = k := by omega
              have hau : ((a : Int) != (u : Int)) = false := by
                have := (unhide HDZ a).1 (by rw [p2]; simp)
                rw [this]
                simp
              have HOF := hide (show wr.ownsRow w.heap.size 3 1 (.slice la (j + 1) lc) (j + 1) (vl (j + 1) (iv (cyF N ln L (u : Int) (v : Int)))) from by rw [← unhide HVL]; exact own_up (unhide HO) (unhide HW4))
              clear HO HM HS
              go_wp2
              go_ret2
              rw [(unhide HC).1, (unhide HC).2]
              exact ⟨la, lc, rfl, unhide HOF, unhide HB⟩
end Go.Proofs.Ytjflnpcpnoccjaa
