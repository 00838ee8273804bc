import Derived.Test.YtjflnpcpnoccjaaHcA
namespace Go.Proofs.Ytjflnpcpnoccjaa
open Go.RowKit

theorem dt_nat {N : Nat} {ln : Nat → Nat} {L : Nat → Nat → Int} {u v : Nat} (h : (dt N ln L u v != -1) = true) : ∃ k : Nat, dt N ln L u v = (k : Int) := by
  rcases ds_is (Ge N ln L) (fun x => x = u) v with ⟨e, _⟩ | ⟨k, e, _⟩
  · rw [show dt N ln L u v = -1 from e] at h
    simp at h
  · exact ⟨k, e⟩
theorem own_cells {W : World} {lo n c : Nat} {la : Option Addr} {F : Nat → Int} (h : W.ownsRow lo 3 1 (.slice la n c) n (vl n (iv F))) (hn : 0 < n) : ∃ lg, la = some ⟨lg, 0, none⟩ ∧ lg < W.heap.size ∧ ∀ W2, Below W.heap.size W W2 → ∀ j, j < n → W2.cell? ⟨lg, j, none⟩ = some (.int .i64 (F j)) := by
  rcases h.2 with ⟨_, q⟩ | ⟨g, cap, cur, q1, _, q3, _⟩
  · omega
  · cases q1
    refine ⟨g, rfl, blk_lt q3, fun W2 hb j hj => ?_⟩
    rw [hb.cell (p := ⟨g, j, none⟩) (blk_lt q3)]
    exact owns_at h j _ (vl_at n (iv F) j hj)
def metB (c : Nat → Nat) (i x : Nat) : Bool := !bAll i fun j => !(c j == x)
theorem metB_iff (c : Nat → Nat) (i x : Nat) : metB c i x = true ↔ ∃ j, j < i ∧ c j = x := by
  unfold metB
  cases h : bAll i fun j => !(c j == x) with
  | true =>
    rw [bAll_iff] at h
    constructor
    · intro q; cases q
    · rintro ⟨j, hj, e⟩
      have := h j hj
      rw [e] at this
      simp at this
  | false =>
    constructor
    · intro _
      apply Classical.byContradiction
      intro q
      have : (bAll i fun j => !(c j == x)) = true := (bAll_iff _ _).2 fun j hj => by
        have : ¬ c j = x := fun e => q ⟨j, hj, e⟩
        simp [this]
      rw [this] at h
      cases h
    · intro _; rfl
theorem metB_next (c : Nat → Nat) (i : Nat) : (fun x => if x = c i then Value.bool true else bv (metB c i) x) = bv (metB c (i + 1)) := by
  funext x
  unfold bv
  by_cases e : x = c i
  · rw [if_pos e]
    congr 1
    exact ((metB_iff c (i + 1) x).2 ⟨i, by omega, e.symm⟩).symm
  · rw [if_neg e]
    congr 1
    refine b_eq ?_
    rw [metB_iff, metB_iff]
    constructor
    · rintro ⟨j, hj, q⟩; exact ⟨j, by omega, q⟩
    · rintro ⟨j, hj, q⟩
      refine ⟨j, ?_, q⟩
      by_cases e2 : j = i
      · subst e2; exact absurd q.symm e
      · omega
set_option maxRecDepth 100000 in
set_option maxHeartbeats 16000000 in
theorem cycles_walk (N : Nat) (ln : Nat → Nat) (L : Nat → Nat → Int) (u v : Int) (na : Option Addr) (nc : Nat) (w : World) (hN : N ≤ 1048576) (hln : ∀ k, k < N → ln k ≤ 1048576) (hR : Rr w na N ln L) :
    Calls Try.prog 7 #[.slice na N nc, .int .i64 u, .int .i64 v] w fun x w' => x = .returned (.bool true) ∧ Below w.heap.size w w' := by
  have cT := hide (fun (W : World) (h : Below w.heap.size w W) => twin_any N ln L na nc W (by omega) (fun k hk => by have := hln k hk; omega) (hR.later h))
  have cRt := hide (fun (W : World) (h : Below w.heap.size w W) => lright_any N ln L na nc W (by omega) (fun k hk => by have := hln k hk; omega) (hR.later h))
  cases ho : cyO N ln L u v with
  | false =>
    have cCy := hide (fun (W : World) (ga : Option Addr) (gc : Nat) (h1 : Rr W ga N ln L) => Cycle_any (nc := gc) (u := u) (v := v) hN hln h1)
    rw [(cy_bad ho).1, (cy_bad ho).2] at cCy
    unfold cyO at ho
    have hcase : rgt N ln L = false ∨ (rgt N ln L = true ∧ (u < 0 ∨ (¬ u < 0 ∧ (N : Int) ≤ u) ∨ (¬ u < 0 ∧ ¬ (N : Int) ≤ u ∧ v < 0) ∨ (¬ u < 0 ∧ ¬ (N : Int) ≤ u ∧ ¬ v < 0 ∧ (N : Int) ≤ v))) := by
      cases hr : rgt N ln L with
      | false => exact .inl rfl
      | true =>
        refine .inr ⟨rfl, ?_⟩
        rw [hr, Bool.true_and] at ho
        apply Classical.byContradiction
        intro q
        have h1 : nd N u = true := (nd_iff _ _).2 (by omega)
        have h2 : nd N v = true := (nd_iff _ _).2 (by omega)
        rw [h1, h2] at ho
        cases ho
    clear ho hR hln
    rcases hcase with hr | ⟨hr, h | ⟨h1, h2⟩ | ⟨h1, h2, h3⟩ | ⟨h1, h2, h3, h4⟩⟩
    all_goals rw [hr] at cRt
    all_goals clear hr
    all_goals go_enter Try.func7, Try.ntmps7
    all_goals go_wp2_with (first | (go_at_call 25; refine (lives_any _).mono ?_; rintro x0 w0 ⟨rfl, hb⟩; have B0 := hide hb; clear hb) | (go_at_call 10; refine (unhide cT _ (unhide B0)).mono ?_; rintro x1 w1 ⟨B, cB, g, cp, rfl, htw, hb⟩; have T1 := hide htw.rr; have B1 := hide (bl_t (unhide B0) hb); clear htw hb) | (go_at_call 16; refine (unhide cCy _ _ _ (unhide T1)).mono ?_; rintro x2 w2 ⟨la, lc, rfl, hq, hb⟩; have B2 := hide (bl_t (unhide B1) hb); clear hq hb) | (go_at_call 28; refine (unhide cRt _ (unhide B2)).mono ?_; rintro x3 w3 ⟨rfl, hw⟩; rw [hw]; clear hw w3))
    all_goals go_ret
    all_goals exact ⟨rfl, unhide B2⟩
  | true =>
    have ho2 := ho
    unfold cyO at ho2
    simp only [Bool.and_eq_true, nd_iff] at ho2
    obtain ⟨hr, ⟨hu0, hu1⟩, hv0, hv1⟩ := ho2
    obtain ⟨a, rfl⟩ : ∃ a : Nat, u = (a : Int) := ⟨u.toNat, by omega⟩
    obtain ⟨b, rfl⟩ : ∃ b : Nat, v = (b : Int) := ⟨v.toNat, by omega⟩
    have ha : a < N := by omega
    have hb : b < N := by omega
    rw [hr] at cRt
    have hro : reO N ln L 1 (fun _ => (b : Int)) = true := by
      unfold reO
      rw [hr, Bool.true_and, bAll_iff]
      exact fun _ _ => (nd_iff _ _).2 ⟨hv0, hv1⟩
    have cRe := hide (fun (W : World) (ga : Option Addr) (gc : Nat) (h1 : Rr W ga N ln L) => Reach_any (nc := gc) (pc := 1) (q := 1) (fs := fun _ => (b : Int)) hN hln (by omega) (h1.later (al W (.cells #[.int .i64 (b : Int)] 3))) (ri_one (heap_new W (.cells #[.int .i64 (b : Int)] 3))))
    rw [show reN N ln L 1 (fun _ => (b : Int)) = N from if_pos hro, show reE N ln L 1 (fun _ => (b : Int)) = 0 from if_pos hro] at cRe
    have HRB := hide (rb_one N ln L b a)
    have cEd := hide (fun (W : World) (h : Below w.heap.size w W) (x : Nat) (y : Int) (hx : x < N) => ledge_any N ln L x y na nc W hx (by omega) (by have := hln x hx; omega) (hR.later h))
    have cCy0 := hide (fun (W : World) (ga : Option Addr) (gc : Nat) (h1 : Rr W ga N ln L) => Cycle_any (nc := gc) (u := (a : Int)) (v := (b : Int)) hN hln h1)
    have f1 : ¬ (a : Int) < 0 := by omega
    have f2 : ¬ (N : Int) ≤ (a : Int) := by omega
    have f3 : ¬ (b : Int) < 0 := by omega
    have f4 : ¬ (N : Int) ≤ (b : Int) := by omega
    have HHO := hide ho
    have HRG := hide hr
    clear hu0 hv0 hro ho hr hR hln
    cases hw : cyW N ln L (a : Int) (b : Int) with
    | false =>
      have cCy := cCy0
      rw [(cy_no (unhide HHO) hw).1, (cy_no (unhide HHO) hw).2] at cCy
      clear cCy0
      unfold cyW at hw
      rw [Int.toNat_natCast, Int.toNat_natCast] at hw
      have cE1 := hide (fun (W : World) (h : Below w.heap.size w W) => unhide cEd W h a (b : Int) ha)
      cases he : ebB (ln a) (L a) (b : Int) with
      | false =>
        rw [he] at cE1
        clear he hw cEd HRB
        go_enter Try.func7, Try.ntmps7
        go_wp2_with (first | (go_at_call 25; refine (lives_any _).mono ?_; rintro x0 w0 ⟨rfl, hb⟩; have B0 := hide hb; have G1 := hide trivial; clear hb) | (go_at_call 10; have _u := G1; clear _u G1; refine (unhide cT _ (unhide B0)).mono ?_; rintro x1 w1 ⟨B, cB, g, cp, rfl, htw, hb⟩; have T1 := hide htw.rr; have B1 := hide (bl_t (unhide B0) hb); clear htw hb) | (go_at_call 16; refine (unhide cCy _ _ _ (unhide T1)).mono ?_; rintro x2 w2 ⟨la, lc, rfl, hq, hb⟩; have B2 := hide (bl_t (unhide B1) hb); clear hq hb) | (go_at_call 28; refine (unhide cRt _ (unhide B2)).mono ?_; rintro x3 w3 ⟨rfl, hw⟩; rw [hw]; clear hw w3) | (go_at_call 10; refine (unhide cT _ (unhide B2)).mono ?_; rintro x4 w4 ⟨B4, cB4, g4, cp4, rfl, htw, hb⟩; have T4 := hide htw.rr; have B4 := hide (bl_t (unhide B2) hb); clear htw hb) | (go_at_call 13; refine (unhide cRe _ _ _ (unhide T4)).mono ?_; rintro x5 w5 ⟨ra, rg, rfl, hq, hb⟩; have B5 := hide (bl_t (bl_t (unhide B4) (al _ _)) hb); clear hq hb) | (go_at_call 37; refine (unhide cE1 _ (unhide B5)).mono ?_; rintro x6 w6 ⟨rfl, hw⟩; rw [hw]; clear hw w6))
        go_ret
        exact ⟨rfl, unhide B5⟩
      | true =>
        rw [he, Bool.true_and] at hw
        rw [he] at cE1
        have HRU := hide (show rb N ln L 1 (fun _ => (b : Int)) a = false from by rw [unhide HRB]; exact hw)
        have ha2 : (a : Int) < (N : Int) := by omega
        clear he hw cEd HRB
        generalize rb N ln L 1 (fun _ => (b : Int)) = rF at *
        go_enter Try.func7, Try.ntmps7
        go_wp2_with (first | (go_at_call 25; refine (lives_any _).mono ?_; rintro x0 w0 ⟨rfl, hb⟩; have B0 := hide hb; have G1 := hide trivial; clear hb) | (go_at_call 10; have _u := G1; clear _u G1; refine (unhide cT _ (unhide B0)).mono ?_; rintro x1 w1 ⟨B, cB, g, cp, rfl, htw, hb⟩; have T1 := hide htw.rr; have B1 := hide (bl_t (unhide B0) hb); clear htw hb) | (go_at_call 16; refine (unhide cCy _ _ _ (unhide T1)).mono ?_; rintro x2 w2 ⟨la, lc, rfl, hq, hb⟩; have B2 := hide (bl_t (unhide B1) hb); clear hq hb) | (go_at_call 28; refine (unhide cRt _ (unhide B2)).mono ?_; rintro x3 w3 ⟨rfl, hw⟩; rw [hw]; clear hw w3) | (go_at_call 10; refine (unhide cT _ (unhide B2)).mono ?_; rintro x4 w4 ⟨B4, cB4, g4, cp4, rfl, htw, hb⟩; have T4 := hide htw.rr; have B4 := hide (bl_t (unhide B2) hb); clear htw hb) | (go_at_call 13; refine (unhide cRe _ _ _ (unhide T4)).mono ?_; rintro x5 w5 ⟨ra, rg, rfl, hq, hb⟩; obtain ⟨rb1, ro1, e5, _, cr⟩ := (hq.rv).at ha; subst e5; unfold bv at cr; rw [unhide HRU] at cr; have B5 := hide (bl_t (bl_t (unhide B4) (al _ _)) hb); clear hq hb) | (go_at_call 37; refine (unhide cE1 _ (unhide B5)).mono ?_; rintro x6 w6 ⟨rfl, hw⟩; rw [hw]; clear hw w6))
        go_ret
        exact ⟨rfl, unhide B5⟩
    | true =>
      have hw2 := hw
      unfold cyW at hw2
      rw [Int.toNat_natCast, Int.toNat_natCast, Bool.and_eq_true] at hw2
      obtain ⟨he, hdt⟩ := hw2
      obtain ⟨k, hk⟩ := dt_nat hdt
      have cCy := cCy0
      rw [(cy_yes (unhide HHO) hw hk).1, (cy_yes (unhide HHO) hw hk).2] at cCy
      have cE1 := hide (fun (W : World) (h : Below w.heap.size w W) => unhide cEd W h a (b : Int) ha)
      rw [he] at cE1
      have HRU := hide (show rb N ln L 1 (fun _ => (b : Int)) a = true from by rw [unhide HRB]; exact hdt)
      have ha2 : (a : Int) < (N : Int) := by omega
      have HCLT := hide (fun (j : Nat) (hj : j < k + 1) => cyc_lt (unhide HRG) ha hb hk (show j ≤ k by omega))
      have HCIN := hide (fun (i j : Nat) (hi : i < k + 1) (hj : j < k + 1) (e : cyc N ln L a b i = cyc N ln L a b j) => cyc_inj (unhide HRG) hb hk (show i ≤ k by omega) (show j ≤ k by omega) e)
      have HCED := hide (fun (j : Nat) (hj : j < k + 1) => cyc_edge (unhide HRG) hb he hk (show j ≤ k by omega))
      have HC0 := hide (show cyc N ln L a b 0 = a from rfl)
      have HC1 := hide (show cyc N ln L a b 1 = b from rfl)
      have HK0 := hide (show k = 0 ↔ b = a from by
        have q := dt_zero (N := N) (ln := ln) (L := L) (u := a) (v := b)
        rw [hk] at q
        exact ⟨fun h => q.1 (by rw [h]; rfl), fun h => by have := q.2 h; omega⟩)
      rw [show cyF N ln L (a : Int) (b : Int) = fun j => (cyc N ln L a b j : Int) from funext fun j => cyc_F N ln L a b j] at cCy
      have hkN : k + 1 ≤ N + 1 := by
        have := cyN_le N ln L (a : Int) (b : Int)
        rw [(cy_yes (unhide HHO) hw hk).2] at this
        exact this
      clear cCy0 hw he hdt hk HRB HHO
      generalize cyc N ln L a b = cy at *
      generalize rb N ln L 1 (fun _ => (b : Int)) = rF at *
      obtain ⟨n, hn⟩ : ∃ n, n = k + 1 := ⟨_, rfl⟩
      rw [← hn] at cCy HCLT HCIN HCED hkN
      have HNK := hide hn
      have hn0 : ((n : Int) == 0) = false := by simp; omega
      have hnp : 0 < n := by omega
      clear hn
      have mk := makeT N (by omega)
      by_cases hk0 : k = 0
      · have hba : b = a := (unhide HK0).1 hk0
        have d1 : ((a : Int) == (b : Int)) = true := by rw [hba]; simp
        have d2 : ((a : Int) != (b : Int)) = false := by rw [hba]; simp
        have d3 : ((n : Int) == 1) = true := by have := unhide HNK; simp; omega
        clear hba hk0 HK0 HC1
        go_enter Try.func7, Try.ntmps7
        go_upto_region 15 with (first | (go_at_call 25; refine (lives_any _).mono ?_; rintro x0 w0 ⟨rfl, hb⟩; have B0 := hide hb; have G1 := hide trivial; clear hb) | (go_at_call 10; have _u := G1; clear _u G1; refine (unhide cT _ (unhide B0)).mono ?_; rintro x1 w1 ⟨B, cB, g, cp, rfl, htw, hb⟩; have T1 := hide htw.rr; have B1 := hide (bl_t (unhide B0) hb); clear htw hb) | (go_at_call 16; refine (unhide cCy _ _ _ (unhide T1)).mono ?_; rintro x2 w2 ⟨la, lc, rfl, hq, hb⟩; obtain ⟨lg, hla, _, hcl⟩ := own_cells hq hnp; subst hla; have HCL := hide hcl; have B2 := hide (bl_t (unhide B1) hb); clear hq hb hcl) | (go_at_call 28; refine (unhide cRt _ (unhide B2)).mono ?_; rintro x3 w3 ⟨rfl, hw⟩; rw [hw]; clear hw w3) | (go_at_call 10; refine (unhide cT _ (unhide B2)).mono ?_; rintro x4 w4 ⟨B4, cB4, g4, cp4, rfl, htw, hb⟩; have T4 := hide htw.rr; have B4 := hide (bl_t (unhide B2) hb); have C4 := hide hb; clear htw hb) | (go_at_call 13; refine (unhide cRe _ _ _ (unhide T4)).mono ?_; rintro x5 w5 ⟨ra, rg, rfl, hq, hb⟩; obtain ⟨rb1, ro1, e5, _, cr⟩ := (hq.rv).at ha; subst e5; unfold bv at cr; rw [unhide HRU] at cr; have B5 := hide (bl_t (bl_t (unhide B4) (al _ _)) hb); have C5 := hide (bl_t (unhide C4) (bl_t (al _ _) hb)); have cl0 := unhide HCL w5 (unhide C5) 0 hnp; rw [unhide HC0] at cl0; clear hq hb) | (go_at_call 37; refine (unhide cE1 _ (unhide B5)).mono ?_; rintro x6 w6 ⟨rfl, hw⟩; rw [hw]; clear hw w6))
        have HM0 := hide (show Mv w5.heap.size N 4 (bv (metB cy 0)) (w5.alloc (.cells (madeCells #[.bool false] N) 4)) from ⟨_, heap_new _ _, fun k hk => by rw [made_at _ _ _ hk]; rfl⟩)
        have HBM := hide (al w5 (.cells (madeCells #[.bool false] N) 4))
        obtain ⟨gm, hgm⟩ : ∃ x, x = w5.heap.size := ⟨_, rfl⟩
        rw [← hgm] at HM0
        have HGM := hide (show w5.heap.size ≤ gm from by omega)
        obtain ⟨W6, hW6⟩ : ∃ x, x = w5.alloc (.cells (madeCells #[.bool false] N) 4) := ⟨_, rfl⟩
        rw [← hW6] at HM0 HBM
        rw [← hgm]
        try rw [← hW6]
        clear hgm hW6 cl0 cr mk
        go_wp2_with fail
        go_loopg [12, 13] n (fun g1 vi _ wr => ∃ i : Nat, vi = .int .i64 i ∧ i ≤ n ∧ n - i ≤ g1 ∧ Hid (Mv gm N 4 (bv (metB cy i)) wr) ∧ Hid (Below w5.heap.size w5 wr))
        case atStart => exact ⟨0, by go_num, by omega, by omega, HM0, HBM⟩
        case round =>
          clear HM0 HBM
          obtain ⟨i, rfl, hi, hg1, HM, HBM⟩ := hrel
          by_cases hlt : i < n
          · obtain ⟨j, hj⟩ : ∃ j, j = (i + 1) % n := ⟨_, rfl⟩
            have hjn : j < n := by rw [hj]; exact Nat.mod_lt _ hnp
            have cli := unhide HCL wr (bl_t (unhide C5) (unhide HBM)) i hlt
            have clj := unhide HCL wr (bl_t (unhide C5) (unhide HBM)) j hjn
            have hci := unhide HCLT i hlt
            have hcj := unhide HCLT j hjn
            have cEi := hide (unhide cEd wr (bl_t (unhide B5) (unhide HBM)) (cy i) (cy j : Int) hci)
            have hed := unhide HCED i hlt
            rw [← hj] at hed
            rw [hed] at cEi
            obtain ⟨cm, fm⟩ := (unhide HM).cell hci
            unfold bv at cm
            rw [show metB cy i (cy i) = false from by
              cases q : metB cy i (cy i) with
              | false => rfl
              | true =>
                obtain ⟨z, hz, e⟩ := (metB_iff _ _ _).1 q
                exact absurd (unhide HCIN z i (by omega) hlt e) (by omega)] at cm
            have q1 : IntKind.i64.wrap ((i : Int) + 1) = (i : Int) + 1 := IntWalk.i64_in _ (by omega)
            have q2 : ((i : Int) + 1).tmod (n : Int) = (j : Int) := by
              rw [Int.tmod_eq_emod_of_nonneg (by omega), hj, Int.natCast_emod]
              rfl
            have q3 : IntKind.i64.wrap (j : Int) = (j : Int) := IntWalk.i64_in _ (by omega)
            have HM2 := hide (show Mv gm N 4 (bv (metB cy (i + 1))) (wr.setCell ⟨gm, cy i, none⟩ (.bool true)) from by
              rw [← metB_next]
              exact (unhide HM).set hci _)
            have HB2 := hide ((unhide HBM).setCell (p := ⟨gm, cy i, none⟩) (unhide HGM) (.bool true))
            have z1 : (j : Int) < (n : Int) := by omega
            have z2 : (i : Int) < (n : Int) := by omega
            have z3 : ¬ (cy i : Int) < 0 := by omega
            have z4 : ¬ (N : Int) ≤ (cy i : Int) := by omega
            have z5 : ¬ (cy j : Int) < 0 := by omega
            have z6 : ¬ (N : Int) ≤ (cy j : Int) := by omega
            have z7 : (cy i : Int) < (N : Int) := by omega
            clear HM HBM hed hj
            generalize cy i = ci at *
            generalize cy j = cj at *
            go_wp2_with (go_at_call 37; refine (unhide cEi).mono ?_; rintro x7 w7 ⟨rfl, hw⟩; rw [hw]; clear hw w7)
            go_roundg (n - (i + 1))
            case measure => omega
            case rel => exact ⟨i + 1, by go_num, by omega, by omega, HM2, HB2⟩
          · obtain rfl : i = n := by omega
            go_wp2_with fail
            go_ret
            exact ⟨rfl, bl_t (unhide B5) (unhide HBM)⟩
      · have hba : b ≠ a := fun e => hk0 ((unhide HK0).2 e)
        have d1 : ((a : Int) == (b : Int)) = false := by simp; omega
        have d2 : ((a : Int) != (b : Int)) = true := by simp; omega
        have d3 : ((n : Int) == 1) = false := by have := unhide HNK; simp; omega
        have h1n : 1 < n := by have := unhide HNK; omega
        have d4 : (1 : Int) < (n : Int) := by omega
        clear hba hk0 HK0
        go_enter Try.func7, Try.ntmps7
        go_upto_region 15 with (first | (go_at_call 25; refine (lives_any _).mono ?_; rintro x0 w0 ⟨rfl, hb⟩; have B0 := hide hb; have G1 := hide trivial; clear hb) | (go_at_call 10; have _u := G1; clear _u G1; refine (unhide cT _ (unhide B0)).mono ?_; rintro x1 w1 ⟨B, cB, g, cp, rfl, htw, hb⟩; have T1 := hide htw.rr; have B1 := hide (bl_t (unhide B0) hb); clear htw hb) | (go_at_call 16; refine (unhide cCy _ _ _ (unhide T1)).mono ?_; rintro x2 w2 ⟨la, lc, rfl, hq, hb⟩; obtain ⟨lg, hla, _, hcl⟩ := own_cells hq hnp; subst hla; have HCL := hide hcl; have B2 := hide (bl_t (unhide B1) hb); clear hq hb hcl) | (go_at_call 28; refine (unhide cRt _ (unhide B2)).mono ?_; rintro x3 w3 ⟨rfl, hw⟩; rw [hw]; clear hw w3) | (go_at_call 10; refine (unhide cT _ (unhide B2)).mono ?_; rintro x4 w4 ⟨B4, cB4, g4, cp4, rfl, htw, hb⟩; have T4 := hide htw.rr; have B4 := hide (bl_t (unhide B2) hb); have C4 := hide hb; clear htw hb) | (go_at_call 13; refine (unhide cRe _ _ _ (unhide T4)).mono ?_; rintro x5 w5 ⟨ra, rg, rfl, hq, hb⟩; obtain ⟨rb1, ro1, e5, _, cr⟩ := (hq.rv).at ha; subst e5; unfold bv at cr; rw [unhide HRU] at cr; have B5 := hide (bl_t (bl_t (unhide B4) (al _ _)) hb); have C5 := hide (bl_t (unhide C4) (bl_t (al _ _) hb)); have cl0 := unhide HCL w5 (unhide C5) 0 hnp; rw [unhide HC0] at cl0; have cl1 := unhide HCL w5 (unhide C5) 1 h1n; rw [unhide HC1] at cl1; clear hq hb) | (go_at_call 37; refine (unhide cE1 _ (unhide B5)).mono ?_; rintro x6 w6 ⟨rfl, hw⟩; rw [hw]; clear hw w6))
        have HM0 := hide (show Mv w5.heap.size N 4 (bv (metB cy 0)) (w5.alloc (.cells (madeCells #[.bool false] N) 4)) from ⟨_, heap_new _ _, fun k hk => by rw [made_at _ _ _ hk]; rfl⟩)
        have HBM := hide (al w5 (.cells (madeCells #[.bool false] N) 4))
        obtain ⟨gm, hgm⟩ : ∃ x, x = w5.heap.size := ⟨_, rfl⟩
        rw [← hgm] at HM0
        have HGM := hide (show w5.heap.size ≤ gm from by omega)
        obtain ⟨W6, hW6⟩ : ∃ x, x = w5.alloc (.cells (madeCells #[.bool false] N) 4) := ⟨_, rfl⟩
        rw [← hW6] at HM0 HBM
        rw [← hgm]
        try rw [← hW6]
        clear hgm hW6 cl0 cr mk cl1
        go_wp2_with fail
        go_loopg [12, 13] n (fun g1 vi _ wr => ∃ i : Nat, vi = .int .i64 i ∧ i ≤ n ∧ n - i ≤ g1 ∧ Hid (Mv gm N 4 (bv (metB cy i)) wr) ∧ Hid (Below w5.heap.size w5 wr))
        case atStart => exact ⟨0, by go_num, by omega, by omega, HM0, HBM⟩
        case round =>
          clear HM0 HBM
          obtain ⟨i, rfl, hi, hg1, HM, HBM⟩ := hrel
          by_cases hlt : i < n
          · obtain ⟨j, hj⟩ : ∃ j, j = (i + 1) % n := ⟨_, rfl⟩
            have hjn : j < n := by rw [hj]; exact Nat.mod_lt _ hnp
            have cli := unhide HCL wr (bl_t (unhide C5) (unhide HBM)) i hlt
            have clj := unhide HCL wr (bl_t (unhide C5) (unhide HBM)) j hjn
            have hci := unhide HCLT i hlt
            have hcj := unhide HCLT j hjn
            have cEi := hide (unhide cEd wr (bl_t (unhide B5) (unhide HBM)) (cy i) (cy j : Int) hci)
            have hed := unhide HCED i hlt
            rw [← hj] at hed
            rw [hed] at cEi
            obtain ⟨cm, fm⟩ := (unhide HM).cell hci
            unfold bv at cm
            rw [show metB cy i (cy i) = false from by
              cases q : metB cy i (cy i) with
              | false => rfl
              | true =>
                obtain ⟨z, hz, e⟩ := (metB_iff _ _ _).1 q
                exact absurd (unhide HCIN z i (by omega) hlt e) (by omega)] at cm
            have q1 : IntKind.i64.wrap ((i : Int) + 1) = (i : Int) + 1 := IntWalk.i64_in _ (by omega)
            have q2 : ((i : Int) + 1).tmod (n : Int) = (j : Int) := by
              rw [Int.tmod_eq_emod_of_nonneg (by omega), hj, Int.natCast_emod]
              rfl
            have q3 : IntKind.i64.wrap (j : Int) = (j : Int) := IntWalk.i64_in _ (by omega)
            have HM2 := hide (show Mv gm N 4 (bv (metB cy (i + 1))) (wr.setCell ⟨gm, cy i, none⟩ (.bool true)) from by
              rw [← metB_next]
              exact (unhide HM).set hci _)
            have HB2 := hide ((unhide HBM).setCell (p := ⟨gm, cy i, none⟩) (unhide HGM) (.bool true))
            have z1 : (j : Int) < (n : Int) := by omega
            have z2 : (i : Int) < (n : Int) := by omega
            have z3 : ¬ (cy i : Int) < 0 := by omega
            have z4 : ¬ (N : Int) ≤ (cy i : Int) := by omega
            have z5 : ¬ (cy j : Int) < 0 := by omega
            have z6 : ¬ (N : Int) ≤ (cy j : Int) := by omega
            have z7 : (cy i : Int) < (N : Int) := by omega
            clear HM HBM hed hj
            generalize cy i = ci at *
            generalize cy j = cj at *
            go_wp2_with (go_at_call 37; refine (unhide cEi).mono ?_; rintro x7 w7 ⟨rfl, hw⟩; rw [hw]; clear hw w7)
            go_roundg (n - (i + 1))
            case measure => omega
            case rel => exact ⟨i + 1, by go_num, by omega, by omega, HM2, HB2⟩
          · obtain rfl : i = n := by omega
            go_wp2_with fail
            go_ret
            exact ⟨rfl, bl_t (unhide B5) (unhide HBM)⟩
end Go.Proofs.Ytjflnpcpnoccjaa
