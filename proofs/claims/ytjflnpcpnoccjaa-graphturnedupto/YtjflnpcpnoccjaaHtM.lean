import Derived.Test.YtjflnpcpnoccjaaHcA
namespace Go.Proofs.Ytjflnpcpnoccjaa
open Go.RowKit

def tuN (N : Nat) (ln : Nat → Nat) (L : Nat → Nat → Int) : Nat := if rgt N ln L = true then N else 0
set_option maxRecDepth 100000 in
set_option maxHeartbeats 4000000 in
theorem Turned_any {N : Nat} {ln : Nat → Nat} {L : Nat → Nat → Int} {na : Option Addr} {nc : Nat} {w : World} (hN : N ≤ 1048576) (hln : ∀ k, k < N → ln k ≤ 1048576) (hR : Rr w na N ln L) :
    Calls Try.prog 36 #[.slice na N nc] w fun x w' => ∃ ga, x = .returned (.tuple #[.slice ga (tuN N ln L) (tuN N ln L), .int .i64 (ptE N ln L)]) ∧ AnL w.heap.size w'.heap.size ga (tuN N ln L) (tw N ln L) w' ∧ Below w.heap.size w w' := by
  have c1 := hide (isRight_any N ln L na nc w (by omega) (fun k hk => by have := hln k hk; omega) hR)
  unfold tuN ptE
  cases hr : rgt N ln L with
  | false =>
    rw [hr] at c1
    rw [if_neg (by simp), if_neg (by simp)]
    clear hR hln
    go_enter Try.func36, Try.ntmps36
    go_wp2_with (go_at_call 43; refine (unhide c1).mono ?_; rintro x1 w1 ⟨rfl, hw1⟩; rw [hw1]; clear hw1 w1)
    go_ret2
    exact ⟨none, rfl, .inl ⟨rfl, rfl⟩, Below.refl _ _⟩
  | true =>
    rw [hr] at c1
    rw [if_pos rfl, if_pos rfl]
    have c2 := hide (turned_any (nc := nc) hr hN hln hR)
    clear hR hln hr
    go_enter Try.func36, Try.ntmps36
    go_wp2_with (first | (go_at_call 43; refine (unhide c1).mono ?_; rintro x1 w1 ⟨rfl, hw1⟩; rw [hw1]; clear hw1 w1) | (go_at_call 48; refine (unhide c2).mono ?_; rintro x2 w2 ⟨R, ga, gc, rfl, q1, q2, q3⟩; have HX := hide (AnG.anl (.inr ⟨rfl, q1, q2⟩)); have HB := hide q3; clear q1 q2 q3))
    go_ret2
    exact ⟨_, rfl, unhide HX, unhide HB⟩
/-! Turned, the parts are the same. -/
theorem rch_tw {N : Nat} {ln : Nat → Nat} {L : Nat → Nat → Int} (hr : rgt N ln L = true) (hN : N ≤ 1048576) (i j : Nat) : Rch (Eg N (twN N ln L) (twL N ln L)) i j ↔ Rch (Eg N ln L) j i :=
  ⟨rch_turn fun x y h => (tw_eg hr hN y x).1 h, rch_turn fun x y h => (tw_eg hr hN x y).2 h⟩
theorem mu_tw {N : Nat} {ln : Nat → Nat} {L : Nat → Nat → Int} (hr : rgt N ln L = true) (hN : N ≤ 1048576) (i j : Nat) : Mu N (twN N ln L) (twL N ln L) i j ↔ Mu N ln L i j := by
  have h1 := rch_tw hr hN i j
  have h2 := rch_tw hr hN j i
  exact ⟨fun h => ⟨h2.1 h.2, h1.1 h.1⟩, fun h => ⟨h1.2 h.2, h2.2 h.1⟩⟩
theorem pn_tw {N : Nat} {ln : Nat → Nat} {L : Nat → Nat → Int} (hr : rgt N ln L = true) (hN : N ≤ 1048576) {i : Nat} (hi : i < N) : pn N (twN N ln L) (twL N ln L) i = pn N ln L i := no_congr (kd_mu _ _ _) (kd_mu _ _ _) (fun i j _ _ => mu_tw hr hN i j) hi
theorem pc_tw {N : Nat} {ln : Nat → Nat} {L : Nat → Nat → Int} (hr : rgt N ln L = true) (hN : N ≤ 1048576) : pc N (twN N ln L) (twL N ln L) = pc N ln L := nds_congr (fun i j _ _ => mu_tw hr hN i j) N (Nat.le_refl _)
theorem ptL_tw {N : Nat} {ln : Nat → Nat} {L : Nat → Nat → Int} (hr : rgt N ln L = true) (hN : N ≤ 1048576) : ptL (pn N (twN N ln L) (twL N ln L)) N = ptL (pn N ln L) N := by
  funext p
  unfold ptL
  apply List.filter_congr
  intro i hi
  rw [pn_tw hr hN (List.mem_range.1 hi)]
theorem eb_tw {N : Nat} {ln : Nat → Nat} {L : Nat → Nat → Int} (hr : rgt N ln L = true) (hN : N ≤ 1048576) {u v : Nat} (hu : u < N) (hv : v < N) : ebB (twN N ln L v) (twL N ln L v) (u : Int) = ebB (ln u) (L u) (v : Int) := by
  refine b_eq ?_
  rw [ebB_iff, ebB_iff]
  have h := tw_eg hr hN u v
  exact ⟨fun q => (h.1 ⟨hv, q⟩).2, fun q => (h.2 ⟨hu, q⟩).2⟩
/-! Who is reached by what is reached is reached. -/
theorem wk_more {E : Nat → Nat → Prop} {S T : Nat → Prop} (h : ∀ x, T x → ∃ j, Wk E S j x) : ∀ k y, Wk E T k y → ∃ m, Wk E S m y
  | 0, y, hy => h y hy
  | k + 1, y, ⟨x, hx, he⟩ => by
    obtain ⟨m, hm⟩ := wk_more h k x hx
    exact ⟨m + 1, x, hm, he⟩
theorem rb_iff (N : Nat) (ln : Nat → Nat) (L : Nat → Nat → Int) (q : Nat) (fs : Nat → Int) (v : Nat) : rb N ln L q fs v = true ↔ ∃ k, Wk (Eg N ln L) (Fr q fs) k v := by
  unfold rb
  rw [bne_iff_ne]
  constructor
  · intro h
    rcases ds_is (Eg N ln L) (Fr q fs) v with ⟨e, _⟩ | ⟨k, _, hk, _⟩
    · exact absurd e h
    · exact ⟨k, hk⟩
  · rintro ⟨k, hk⟩ e
    obtain ⟨j, _, ej⟩ := ds_of hk
    omega
def mL (F : Nat → Bool) (k : Nat) : List Nat := (List.range k).filter F
theorem mL_len (F : Nat → Bool) (k : Nat) : (mL F k).length ≤ k := by
  have := List.length_filter_le F (List.range k)
  rwa [List.length_range] at this
theorem mL_yes {F : Nat → Bool} {k : Nat} (h : F k = true) : mL F (k + 1) = mL F k ++ [k] := by
  unfold mL
  rw [List.range_succ, List.filter_append]
  simp [h]
theorem mL_no {F : Nat → Bool} {k : Nat} (h : F k = false) : mL F (k + 1) = mL F k := by
  unfold mL
  rw [List.range_succ, List.filter_append]
  simp [h]
def mV (F : Nat → Bool) (N j : Nat) : Int := (((mL F N).getD j 0 : Nat) : Int)
theorem mV_fr (F : Nat → Bool) (N x : Nat) : Fr (mL F N).length (mV F N) x ↔ x < N ∧ F x = true := by
  constructor
  · rintro ⟨i, hi, e⟩
    have h1 : mV F N i = (((mL F N)[i] : Nat) : Int) := by unfold mV; simp [hi]
    rw [h1] at e
    have h2 : (mL F N)[i] = x := by omega
    have h3 := List.getElem_mem hi
    rw [h2] at h3
    obtain ⟨a1, a2⟩ := List.mem_filter.1 h3
    exact ⟨List.mem_range.1 a1, a2⟩
  · rintro ⟨hx, hF⟩
    have h3 : x ∈ mL F N := List.mem_filter.2 ⟨List.mem_range.2 hx, hF⟩
    obtain ⟨i, hi, e⟩ := List.getElem_of_mem h3
    exact ⟨i, hi, by unfold mV; simp [hi, e]⟩
theorem rb_more (N : Nat) (ln : Nat → Nat) (L : Nat → Nat → Int) (q : Nat) (fs : Nat → Int) {y : Nat} (hy : y < N) : rb N ln L (mL (rb N ln L q fs) N).length (mV (rb N ln L q fs) N) y = rb N ln L q fs y := by
  refine b_eq ?_
  rw [rb_iff, rb_iff]
  constructor
  · rintro ⟨k, hk⟩
    exact wk_more (fun x hx => (rb_iff _ _ _ _ _ _).1 ((mV_fr _ _ _).1 hx).2) k y hk
  · intro h
    exact ⟨0, (mV_fr _ _ _).2 ⟨hy, (rb_iff _ _ _ _ _ _).2 h⟩⟩
theorem reO_more {N : Nat} {ln : Nat → Nat} {L : Nat → Nat → Int} (hr : rgt N ln L = true) (F : Nat → Bool) : reO N ln L (mL F N).length (mV F N) = true := by
  unfold reO
  rw [hr, Bool.true_and, bAll_iff]
  intro i hi
  rw [nd_iff]
  have h1 : mV F N i = (((mL F N)[i] : Nat) : Int) := by unfold mV; simp [hi]
  have h3 := (List.mem_filter.1 (List.getElem_mem hi)).1
  have := List.mem_range.1 h3
  rw [h1]
  omega
end Go.Proofs.Ytjflnpcpnoccjaa

namespace Go.Proofs.Ytjflnpcpnoccjaa
open Go.RowKit

theorem tw_len (N : Nat) (ln : Nat → Nat) (L : Nat → Nat → Int) : (lnL (tw N ln L) = twN N ln L) ∧ (LL (tw N ln L) = twL N ln L) := ⟨rfl, rfl⟩
theorem ttw_srt (N : Nat) (ln : Nat → Nat) (L : Nat → Nat → Int) (u i : Nat) (h : i + 1 < (tw N ln L u).length) : LL (tw N ln L) u i < LL (tw N ln L) u (i + 1) := by
  have h1 := List.pairwise_iff_getElem.1 (tw_srt N ln L u) i (i + 1) (by omega) h (by omega)
  have e1 : (tw N ln L u).getD i 0 = (tw N ln L u)[i] := by simp [show i < (tw N ln L u).length by omega]
  have e2 : (tw N ln L u).getD (i + 1) 0 = (tw N ln L u)[i + 1] := by simp [h]
  show (((tw N ln L u).getD i 0 : Nat) : Int) < (((tw N ln L u).getD (i + 1) 0 : Nat) : Int)
  rw [e1, e2]
  omega
set_option maxRecDepth 100000 in
set_option maxHeartbeats 16000000 in
theorem turned_walk (N : Nat) (ln : Nat → Nat) (L : Nat → Nat → Int) (q : Nat) (fs : Nat → Int) (na pa : Option Addr) (nc pcc : Nat) (w : World) (hN : N ≤ 1048576) (hln : ∀ k, k < N → ln k ≤ 1048576) (hq : q ≤ 1048576) (hR : Rr w na N ln L) (hF : Ri w pa q fs) :
    Calls Try.prog 6 #[.slice na N nc, .slice pa q pcc] w fun x w' => x = .returned (.bool true) ∧ Below w.heap.size w w' := by
  have cT := hide (fun (W : World) (h : Below w.heap.size w W) => twin_any N ln L na nc W (by omega) (fun k hk => by have := hln k hk; omega) (hR.later h))
  have cRt := hide (fun (W : World) (h : Below w.heap.size w W) => lright_any N ln L na nc W (by omega) (fun k hk => by have := hln k hk; omega) (hR.later h))
  have cTu := hide (fun (W : World) (ga : Option Addr) (gc : Nat) (h1 : Rr W ga N ln L) => Turned_any (nc := gc) hN hln h1)
  cases hr : rgt N ln L with
  | false =>
    rw [hr] at cRt
    rw [show tuN N ln L = 0 from if_neg (by rw [hr]; simp), show ptE N ln L = 120 from if_neg (by rw [hr]; simp)] at cTu
    clear hr hR hF hln
    go_enter Try.func6, Try.ntmps6
    go_wp2_with (first | (go_at_call 25; refine (lives_any _).mono ?_; rintro x0 w0 ⟨rfl, hb⟩; have B0 := hide hb; clear hb) | (go_at_call 10; refine (unhide cT _ (unhide B0)).mono ?_; rintro x1 w1 ⟨B, cB, g, cp, rfl, htw, hb⟩; have T1 := hide htw.rr; have B1 := hide (bl_t (unhide B0) hb); clear htw hb) | (go_at_call 36; refine (unhide cTu _ _ _ (unhide T1)).mono ?_; rintro x2 w2 ⟨ga, rfl, ha, hb⟩; have B2 := hide (bl_t (unhide B1) hb); clear ha hb) | (go_at_call 28; refine (unhide cRt _ (unhide B2)).mono ?_; rintro x3 w3 ⟨rfl, hw⟩; rw [hw]; clear hw w3))
    go_ret
    exact ⟨rfl, unhide B2⟩
  | true =>
    have hr2 := tw_rgt hr hN
    have hln2 : ∀ k, k < N → twN N ln L k ≤ 1048576 := fun k _ => Nat.le_trans (twN_le hr hN k) hN
    rw [hr] at cRt
    rw [show tuN N ln L = N from if_pos hr, show ptE N ln L = 0 from if_pos hr] at cTu
    have cTu2 := hide (fun (W : World) (ga : Option Addr) (gc : Nat) (h1 : Rr W ga N (twN N ln L) (twL N ln L)) => Turned_any (nc := gc) hN hln2 h1)
    rw [show tuN N (twN N ln L) (twL N ln L) = N from if_pos hr2, show ptE N (twN N ln L) (twL N ln L) = 0 from if_pos hr2] at cTu2
    have cP := hide (fun (W : World) (ga : Option Addr) (gc : Nat) (h1 : Rr W ga N ln L) => Parts_L (nc := gc) hN hln h1)
    have cP2 := hide (fun (W : World) (ga : Option Addr) (gc : Nat) (h1 : Rr W ga N (twN N ln L) (twL N ln L)) => Parts_L (nc := gc) hN hln2 h1)
    rw [show ptN N (twN N ln L) (twL N ln L) = ptN N ln L from by unfold ptN; rw [hr, hr2, pc_tw hr hN], show ptE N (twN N ln L) (twL N ln L) = 0 from if_pos hr2, ptL_tw hr hN] at cP2
    rw [show ptE N ln L = 0 from if_pos hr] at cP
    have hnn := ptN_le N ln L
    have HL1 := hide (ptL_len (pn N ln L) N)
    have cE := hide (fun (W : World) (h : Below w.heap.size w W) (u v : Nat) (hu : u < N) => ledge_any N ln L u (v : Int) na nc W hu (by omega) (by have := hln u hu; omega) (hR.later h))
    have cEa := hide (fun (W : World) (ga : Option Addr) (gc : Nat) (h1 : Rr W ga N (twN N ln L) (twL N ln L)) (u v : Nat) (hu : u < N) (hv : v < N) => show Calls Try.prog 37 #[.slice ga N gc, .int .i64 (v : Int), .int .i64 (u : Int)] W fun x w' => x = .returned (.bool (ebB (ln u) (L u) (v : Int))) ∧ w' = W from by
      rw [← eb_tw hr hN hu hv]
      exact ledge_any N _ _ v (u : Int) ga gc W hv (by omega) (by have := hln2 v hv; omega) h1)
    have cEb := hide (fun (W : World) (ga : Option Addr) (gc : Nat) (h1 : Rr W ga N (twN N (twN N ln L) (twL N ln L)) (twL N (twN N ln L) (twL N ln L))) (u v : Nat) (hu : u < N) (hv : v < N) => show Calls Try.prog 37 #[.slice ga N gc, .int .i64 (u : Int), .int .i64 (v : Int)] W fun x w' => x = .returned (.bool (ebB (ln u) (L u) (v : Int))) ∧ w' = W from by
      rw [← eb_tw hr hN hu hv, ← eb_tw hr2 hN hv hu]
      exact ledge_any N _ _ u (v : Int) ga gc W hu (by omega) (by have := twN_le hr2 hN u; omega) h1)
    have cRe := hide (fun (W : World) (ga : Option Addr) (gc : Nat) (h1 : Rr W ga N ln L) (h2 : Below w.heap.size w W) => Reach_any (nc := gc) (pc := pcc) hN hln hq h1 (Ri.later hF h2))
    have cRm := hide (fun (W : World) (ga ma : Option Addr) (gc mc : Nat) (F : Nat → Bool) (h1 : Rr W ga N ln L) (h2 : Ri W ma (mL F N).length (mV F N)) => show Calls Try.prog 13 #[.slice ga N gc, .slice ma (mL F N).length mc] W fun x w' => ∃ ga g, x = .returned (.tuple #[.slice ga N N, .int .i64 0]) ∧ An W.heap.size ga g N 4 (bv (rb N ln L (mL F N).length (mV F N))) w' ∧ Below W.heap.size W w' from by
      have h := Reach_any (nc := gc) (pc := mc) hN hln (Nat.le_trans (mL_len F N) hN) h1 h2
      rw [show reN N ln L (mL F N).length (mV F N) = N from if_pos (reO_more hr F), show reE N ln L (mL F N).length (mV F N) = 0 from if_pos (reO_more hr F)] at h
      exact h)
    have HRB := hide (fun y hy => rb_more N ln L q fs (y := y) hy)
    have HSRT := hide (ttw_srt N (twN N ln L) (twL N ln L))
    have HTL := hide (fun u => twN_le hr2 hN u)
    have HRG := hide hr
    clear hr hr2 hln2 hR hF hln
    generalize hgn : ptN N ln L = pn1 at *
    generalize hgl : ptL (pn N ln L) N = pl1 at *
    clear hgn hgl
    obtain ⟨tb, htb⟩ : ∃ t, t = tw N (twN N ln L) (twL N ln L) := ⟨_, rfl⟩
    rw [← htb] at cTu2
    go_enter Try.func6, Try.ntmps6
    have G1 := hide trivial
    have G2 := hide trivial
    have G3 := hide trivial
    go_upto_region 11 with (first | (go_at_call 25; refine (lives_any _).mono ?_; rintro x0 w0 ⟨rfl, hb⟩; have B0 := hide hb; clear hb) | (go_at_call 10; have _u := G1; clear _u G1; refine (unhide cT _ (unhide B0)).mono ?_; rintro x1 w1 ⟨B, cB, g, cp, rfl, htw, hb⟩; have T1 := hide htw.rr; have B1 := hide (bl_t (unhide B0) hb); clear htw hb) | (go_at_call 36; have _u := G2; clear _u G2; refine (unhide cTu _ _ _ (unhide T1)).mono ?_; rintro x2 w2 ⟨ga, rfl, ha, hb⟩; have A2 := hide (show Rr w2 ga N (twN N ln L) (twL N ln L) from ha.rr); have B2 := hide (bl_t (unhide B1) hb); clear ha hb) | (go_at_call 28; refine (unhide cRt _ (unhide B2)).mono ?_; rintro x3 w3 ⟨rfl, hw⟩; rw [hw]; clear hw w3) | (go_at_call 36; refine (unhide cTu2 _ _ _ (unhide A2)).mono ?_; rintro x4 w4 ⟨gb, rfl, ha, hb⟩; have A4 := hide ha.rr; have C4 := hide hb; have B4 := hide (bl_t (unhide B2) hb); clear ha hb) | (go_at_call 30; have _u := G3; clear _u G3; refine (unhide cP2 _ _ _ ((unhide A2).later (unhide C4))).mono ?_; rintro x5 w5 ⟨gp, rfl, ha, hb⟩; have A5 := hide ha.rr; have C5 := hide hb; have B5 := hide (bl_t (unhide B4) hb); clear ha hb) | (go_at_call 10; refine (unhide cT _ (unhide B5)).mono ?_; rintro x6 w6 ⟨B6', cB6, g6, cp6, rfl, htw, hb⟩; have T6 := hide htw.rr; have C6 := hide hb; have B6 := hide (bl_t (unhide B5) hb); clear htw hb) | (go_at_call 30; refine (unhide cP _ _ _ (unhide T6)).mono ?_; rintro x7 w7 ⟨gq, rfl, ha, hb⟩; have A7 := hide ha.rr; have C7 := hide (bl_t (unhide C6) hb); have B7 := hide (bl_t (unhide B6) hb); clear ha hb) | (go_at_call 35; refine (lists_any pn1 (lnL pl1) (LL pl1) gp gq pn1 pn1 _ (by omega) (le_big hN (unhide HL1) _) ((unhide A5).later (unhide C7)) (unhide A7)).mono ?_; rintro x8 w8 ⟨rfl, hb⟩; have B8 := hide (bl_t (unhide B7) hb); have A8 := hide ((unhide A2).later (bl_t (unhide C4) (bl_t (unhide C5) (bl_t (unhide C7) hb)))); have D8 := hide ((unhide A4).later (bl_t (unhide C5) (bl_t (unhide C7) hb))); clear hb))
    have HSRB := hide (show ∀ u i, i + 1 < lnL tb u → LL tb u i < LL tb u (i + 1) from fun u i h => by rw [htb] at h ⊢; exact unhide HSRT u i h)
    have HTLB := hide (show ∀ u, lnL tb u ≤ N from fun u => by rw [htb]; exact unhide HTL u)
    have D9 := hide (show Rr w8 gb N (twN N (twN N ln L) (twL N ln L)) (twL N (twN N ln L) (twL N ln L)) from by have := unhide D8; rw [htb] at this; exact this)
    clear A2 A4 A5 A7 B0 B1 B2 B4 B5 B6 B7 C4 C5 C6 C7 T1 T6 cP cP2 cTu cTu2 HL1 HSRT HTL htb
    go_wp2_with fail
    go_loopg [13, 14, 15, 16] N (fun g1 vu _ _ _ wr => ∃ u : Nat, vu = .int .i64 u ∧ u ≤ N ∧ N - u ≤ g1 ∧ Hid (Below w8.heap.size w8 wr))
    case atStart => exact ⟨0, by go_num, by omega, by omega, hide (Below.refl _ _)⟩
    case round =>
      obtain ⟨u, rfl, hu, hg1, HB⟩ := hrel
      by_cases hlt : u < N
      · have hlt2 : (u : Int) < (N : Int) := by omega
        obtain ⟨bb, oo, ca, cc, e1, hrow⟩ := (unhide D8).row hlt
        subst e1
        have HROW := hide hrow
        clear hrow
        have hbl := unhide HTLB u
        have HSR := hide (unhide HSRB u)
        go_wp2_with fail
        go_loopg [14, 15] N (fun g2 vv _ wr => ∃ v : Nat, vv = .int .i64 v ∧ v ≤ N ∧ N - v ≤ g2 ∧ Hid (Below w8.heap.size w8 wr))
        case atStart => exact ⟨0, by go_num, by omega, by omega, HB⟩
        case round =>
          clear HB
          obtain ⟨v, rfl, hv, hg2, HB⟩ := hrel
          by_cases hvl : v < N
          · have cE1 := hide (unhide cE wr (bl_t (unhide B8) (unhide HB)) u v hlt)
            have cE2 := hide (unhide cEb wr _ N ((unhide D9).later (unhide HB)) u v hlt hvl)
            have cE3 := hide (unhide cEa wr _ N ((unhide A8).later (unhide HB)) u v hlt hvl)
            have hvl2 : (v : Int) < (N : Int) := by omega
            generalize ebB (ln u) (L u) (v : Int) = y at *
            have hy : (y != y) = false := by simp
            have G1 := hide trivial
            have G2 := hide trivial
            go_wp2_with (first | (go_at_call 37; have _u := G1; clear _u G1; refine (unhide cE1).mono ?_; rintro x9 w9 ⟨rfl, hw⟩; rw [hw]; clear hw w9) | (go_at_call 37; have _u := G2; clear _u G2; refine (unhide cE2).mono ?_; rintro x9 w9 ⟨rfl, hw⟩; rw [hw]; clear hw w9) | (go_at_call 37; refine (unhide cE3).mono ?_; rintro x9 w9 ⟨rfl, hw⟩; rw [hw]; clear hw w9))
            go_roundg (N - (v + 1))
            case measure => omega
            case rel => exact ⟨v + 1, by go_num, by omega, by omega, HB⟩
          · have hvl2 : ¬ (v : Int) < (N : Int) := by omega
            go_wp2_with fail
            go_loopg [16] (lnL tb u) (fun g3 vi wr => ∃ i : Nat, vi = .int .i64 i ∧ 1 ≤ i ∧ lnL tb u - i ≤ g3 ∧ i ≤ N + 1 ∧ Hid (Below w8.heap.size w8 wr))
            case atStart => exact ⟨1, by go_num, by omega, by omega, by omega, HB⟩
            case round =>
              clear HB
              obtain ⟨i, rfl, hi1, hg3, hiN, HB⟩ := hrel
              obtain ⟨cr, hri⟩ := unhide HROW wr (unhide HB)
              by_cases hil : i < lnL tb u
              · obtain ⟨j, rfl⟩ : ∃ j, i = j + 1 := ⟨i - 1, by omega⟩
                obtain ⟨b1, o1, e1, _, c1⟩ := hri.at hil
                obtain ⟨b2, o2, e2, _, c2⟩ := hri.at (show j < lnL tb u by omega)
                rw [e1] at e2
                injection e2 with e2
                injection e2 with e2 e3 _
                subst e2
                subst e3
                subst e1
                unfold iv at c1 c2
                have hs := unhide HSR j hil
                have z1 : ¬ LL tb u (j + 1) ≤ LL tb u j := by omega
                have z2 : decide (LL tb u (j + 1) ≤ LL tb u j) = false := decide_eq_false z1
                have z3 : ((j + 1 : Nat) : Int) < (lnL tb u : Int) := by omega
                have z4 : (j : Int) < (lnL tb u : Int) := by omega
                have z5 : IntKind.i64.wrap ((j : Int) + 1 - 1) = (j : Int) := by rw [show (j : Int) + 1 - 1 = (j : Int) by omega]; exact IntWalk.i64_in _ (by omega)
                have HB2 := hide (fun t => bl_t (unhide HB) (bl_drewN wr t))
                clear hs HB hri
                generalize LL tb u (j + 1) = y1 at *
                generalize LL tb u j = y2 at *
                generalize lnL tb u = bl at *
                go_wp2_with fail
                go_quiet (fail)
                have HB3 := hide (unhide HB2 nq)
                clear HB2 c1 c2 cr
                generalize wr.drewN nq = W2 at *
                go_wp2_with fail
                go_roundg (bl - (j + 1 + 1))
                case measure => omega
                case rel => exact ⟨j + 1 + 1, by go_num, by omega, by omega, by omega, HB3⟩
              · have z3 : ¬ (i : Int) < (lnL tb u : Int) := by omega
                clear hri
                generalize lnL tb u = bl at *
                go_wp2_with fail
                go_roundg (N - (u + 1))
                case measure => omega
                case rel => exact ⟨u + 1, by go_num, by omega, by omega, HB⟩
      · have eN : N = u := by omega
        subst eN
        have B9 := hide (bl_t (unhide B8) (unhide HB))
        clear cE cEa cEb A8 D8 D9 HSRB HTLB HB B8 hg1 hu hlt
        cases ho : reO N ln L q fs with
        | false =>
          rw [show reN N ln L q fs = 0 from if_neg (by rw [ho]; simp), show reE N ln L q fs = 120 from if_neg (by rw [ho]; simp)] at cRe
          clear ho
          go_wp2_with (first | (go_at_call 10; refine (unhide cT _ (unhide B9)).mono ?_; rintro x10 w10 ⟨B, cB, g, cp, rfl, htw, hb⟩; have T10 := hide htw.rr; have B10 := hide (bl_t (unhide B9) hb); clear htw hb) | (go_at_call 13; refine (unhide cRe _ _ _ (unhide T10) (unhide B10)).mono ?_; rintro x11 w11 ⟨ra, rg, rfl, ha, hb⟩; have B11 := hide (bl_t (unhide B10) hb); clear ha hb))
          go_ret
          exact ⟨rfl, unhide B11⟩
        | true =>
          rw [show reN N ln L q fs = N from if_pos ho, show reE N ln L q fs = 0 from if_pos ho] at cRe
          clear ho
          generalize hF : rb N ln L q fs = F at *
          go_upto_region 30 with (first | (go_at_call 10; refine (unhide cT _ (unhide B9)).mono ?_; rintro x10 w10 ⟨B, cB, g, cp, rfl, htw, hb⟩; have T10 := hide htw.rr; have B10 := hide (bl_t (unhide B9) hb); clear htw hb) | (go_at_call 13; refine (unhide cRe _ _ _ (unhide T10) (unhide B10)).mono ?_; rintro x11 w11 ⟨ra, rg, rfl, ha, hb⟩; have A11 := hide ha.rv; have B11 := hide (bl_t (unhide B10) hb); clear ha hb))
          obtain ⟨i0, hi0, hz0, hz1, hz2⟩ := info_parts infoI
          go_wp2_with fail
          go_loopg [19, 20] N (fun g1 vm vu wr => ∃ (u m : Nat) (ma : Option Addr) (mc : Nat), vu = .int .i64 u ∧ vm = .slice ma m mc ∧ u ≤ N ∧ N - u ≤ g1 ∧ m ≤ u ∧ Hid (m = (mL F u).length) ∧ Hid (wr.ownsRow w11.heap.size 3 1 (.slice ma m mc) m (tV (nI (mL F u)))) ∧ Hid (Below w11.heap.size w11 wr))
          case atStart => exact ⟨0, 0, none, 0, by go_num, rfl, by omega, by omega, by omega, hide rfl, hide (World.ownsRow_nil _ _ _ _), hide (Below.refl _ _)⟩
          case round =>
            obtain ⟨u, m, ma, mc, rfl, rfl, hu, hg1, hmu, HM, HO, HB⟩ := hrel
            have hsz := (unhide HB).size
            by_cases hlt : u < N
            · obtain ⟨b1, o1, e1, _, c1⟩ := ((unhide A11).later (unhide HB)).at hlt
              subst e1
              unfold bv at c1
              have hlt2 : (u : Int) < (N : Int) := by omega
              cases hFu : F u with
              | true =>
                rw [hFu] at c1
                have HM2 := hide (show m + 1 = (mL F (u + 1)).length from by rw [mL_yes hFu, List.length_append, unhide HM]; rfl)
                have HE2 := hide (show tV (nI (mL F u)) ++ [.int .i64 (u : Int)] = tV (nI (mL F (u + 1))) from by rw [mL_yes hFu]; simp [tV, nI])
                clear hFu
                generalize tV (nI (mL F u)) = xs at *
                go_wp2_with (at_builtin; go_must (refine wpList_append_lies _ rfl _ _ 23 rfl w11.heap.size 3 i0 (.int .i64 0) 1 8 Try.underlying23 hi0 hz0 hz1 hz2 rfl (by decide) (.slice ma m mc) m xs rfl ((unhide HO).alloc _) ⟨wr.heap.size, 0, none⟩ 1 1 [.int .i64 (u : Int)] rfl rfl (cell_one_new _ _ _) (by simp [Value.oneCell']) (by decide) (by unfold maxLen; omega) (by omega) (by simp; omega) _ rfl ?_); intro gg c9 w9 hown hgrow hat _; have HO9 := hide hown; have HB9 := hide (((bl_t (unhide HB) (al wr (.cells #[.int .i64 (u : Int)] 3)))).grown hgrow (by simp; omega) (fun j e => ((unhide HO).lt j e).1)); rw [unhide HE2] at HO9; clear hown hgrow hat)
                go_roundg (N - (u + 1))
                case measure => omega
                case rel => exact ⟨u + 1, m + 1, _, c9, by go_num, rfl, by omega, by omega, by omega, HM2, HO9, HB9⟩
              | false =>
                rw [hFu] at c1
                have HM2 := hide (show m = (mL F (u + 1)).length from by rw [mL_no hFu]; exact unhide HM)
                have HO2 := hide (show wr.ownsRow w11.heap.size 3 1 (.slice ma m mc) m (tV (nI (mL F (u + 1)))) from by rw [mL_no hFu]; exact unhide HO)
                clear hFu HM HO
                go_wp2_with fail
                go_roundg (N - (u + 1))
                case measure => omega
                case rel => exact ⟨u + 1, m, ma, mc, by go_num, rfl, by omega, by omega, by omega, HM2, HO2, HB⟩
            · have eN : N = u := by omega
              subst eN
              have HRI := hide (show Ri wr ma (mL F N).length (mV F N) from by
                have q := unhide HO
                rw [tV_vl, nI_len, unhide HM] at q
                refine (Rv.of_owns q).congr fun j hj => ?_
                unfold iv nI mV
                congr 1
                simp [hj])
              have HMM := unhide HM
              have B12 := hide (bl_t (unhide B11) (unhide HB))
              have A12 := hide ((unhide A11).later (unhide HB))
              subst HMM
              have cRm2 := hide (fun (W : World) (ga : Option Addr) (gc : Nat) (h1 : Rr W ga N ln L) (hb : Below wr.heap.size wr W) => unhide cRm W ga ma gc mc F h1 (Rv.later (unhide HRI) hb))
              have HRB2 := hide (show ∀ y, y < N → rb N ln L (mL F N).length (mV F N) y = F y from fun y hy => unhide HRB y hy)
              clear HO HM HRI cRm cRe hmu HRB
              generalize rb N ln L (mL F N).length (mV F N) = F2 at *
              generalize (mL F N).length = ml at *
              go_wp2_with (first | (go_at_call 10; refine (unhide cT _ (unhide B12)).mono ?_; rintro x13 w13 ⟨B13', cB3, g3, cp3, rfl, htw, hb⟩; have T13 := hide htw.rr; have C13 := hide hb; clear htw hb) | (go_at_call 13; refine (unhide cRm2 _ _ _ (unhide T13) (unhide C13)).mono ?_; rintro x14 w14 ⟨sa, sg, rfl, ha, hb⟩; have A14 := hide (show Rt w14 sa N F from ha.rv.congr fun y hy => by unfold bv; rw [unhide HRB2 y hy]); have C14 := hide (bl_t (unhide C13) hb); clear ha hb) | (go_at_call 18; refine (bools_any N F _ sa N N _ (by omega) ((unhide A12).later (unhide C14)) (unhide A14)).mono ?_; rintro x15 w15 ⟨rfl, hb⟩; have C15 := hide (bl_t (unhide C14) hb); clear hb))
              go_ret
              exact ⟨rfl, bl_t (unhide B12) (unhide C15)⟩
end Go.Proofs.Ytjflnpcpnoccjaa

