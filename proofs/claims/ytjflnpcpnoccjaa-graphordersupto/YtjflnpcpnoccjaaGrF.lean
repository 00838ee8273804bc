import Derived.Test.YtjflnpcpnoccjaaGrP
import Derived.Test.YtjflnpcpnoccjaaGrE
namespace Go.Proofs.Ytjflnpcpnoccjaa
open Go.RowKit

/-- WHAT steps HOLDS BETWEEN TWO LAYERS. -/
structure Sl (w : World) (G N : Nat) (E : Nat → Nat → Prop) (S : Nat → Prop) (n : Nat) (f : Nat → Int) (q : Nat) (la : Nat → Int) (pa : Option Addr) (W : World) : Prop where
  ly : Ly E S N n f q la
  far : Mv G N 3 (iv f) W
  lay : Ra G W pa q (iv la)
  bel : Below w.heap.size w W
/-- WITHIN A LAYER. -/
structure Si (w : World) (G N : Nat) (E : Nat → Nat → Prop) (S : Nat → Prop) (n : Nat) (f : Nat → Int) (q : Nat) (la : Nat → Int) (pa : Option Addr) (lo i : Nat) (nx : List Int) (k : Nat) (na : Option Addr) (nc : Nat) (W : World) : Prop where
  lx : Lx E S N n f q la i nx
  far : Mv G N 3 (iv f) W
  lay : Ra G W pa q (iv la)
  bel : Below w.heap.size w W
  own : W.ownsRow lo 3 1 (.slice na k nc) k (tV nx)
  len : nx.length = k
  low : G < lo ∧ lo ≤ W.heap.size
  old : ∀ b o, pa = some ⟨b, o, none⟩ → 0 < q → b < lo
theorem tV_vl' (n : Nat) (f : Nat → Int) : vl n (iv f) = tV ((List.range n).map f) := by simp [vl, tV, iv]
theorem tV_two (a b : List Int) : tV (a ++ b) = tV a ++ tV b := by simp [tV]
theorem iv_put (f : Nat → Int) (u : Nat) (x : Int) : (fun j => if j = u then Value.int .i64 x else iv f j) = iv (put f u x) := by
  funext j
  unfold iv put
  by_cases e : j = u
  · rw [if_pos e, if_pos e]
  · rw [if_neg e, if_neg e]
theorem Si.skip {w : World} {G N : Nat} {E : Nat → Nat → Prop} {S : Nat → Prop} {n : Nat} {f : Nat → Int} {q : Nat} {la : Nat → Int} {pa : Option Addr} {lo i : Nat} {nx : List Int} {k : Nat} {na : Option Addr} {nc : Nat} {W : World} (h : Si w G N E S n f q la pa lo i nx k na nc W) {u : Nat} (e : la i = (u : Int)) (hf : f u ≠ -1) : Si w G N E S n f q la pa lo (i + 1) nx k na nc W :=
  ⟨h.lx.skip e hf, h.far, h.lay, h.bel, h.own, h.len, h.low, h.old⟩
/-- Behind the store. -/
theorem Si.stored {w : World} {G N : Nat} {E : Nat → Nat → Prop} {S : Nat → Prop} {n : Nat} {f : Nat → Int} {q : Nat} {la : Nat → Int} {pa : Option Addr} {lo i : Nat} {nx : List Int} {k : Nat} {na : Option Addr} {nc : Nat} {W : World} (h : Si w G N E S n f q la pa lo i nx k na nc W) (hw : w.heap.size ≤ G) {u : Nat} (hu : u < N) :
    Mv G N 3 (iv (put f u n)) (W.setCell ⟨G, u, none⟩ (.int .i64 (n : Int))) ∧ Ra G (W.setCell ⟨G, u, none⟩ (.int .i64 (n : Int))) pa q (iv la) ∧ Below w.heap.size w (W.setCell ⟨G, u, none⟩ (.int .i64 (n : Int))) ∧ (W.setCell ⟨G, u, none⟩ (.int .i64 (n : Int))).ownsRow lo 3 1 (.slice na k nc) k (tV nx) := by
  refine ⟨?_, h.lay.set _ _, h.bel.setCell (p := ⟨G, u, none⟩) hw _, own_far h.low.1 h.own⟩
  rw [← iv_put]
  exact h.far.set hu _
theorem Si.took {w : World} {G N : Nat} {E : Nat → Nat → Prop} {S : Nat → Prop} {n : Nat} {f : Nat → Int} {q : Nat} {la : Nat → Int} {pa : Option Addr} {lo i : Nat} {nx : List Int} {k : Nat} {na na2 : Option Addr} {nc nc2 m : Nat} {F : Nat → Int} {W W2 : World} (h : Si w G N E S n f q la pa lo i nx k na nc W) (hw : w.heap.size ≤ G) {u : Nat} (hi : i < q) (hu : u < N) (e : la i = (u : Int)) (hf : f u = -1)
    (hE1 : ∀ j, j < m → ∃ v : Nat, v < N ∧ F j = (v : Int) ∧ E u v) (hE2 : ∀ v, E u v → ∃ j, j < m ∧ F j = (v : Int))
    (ho : W2.ownsRow lo 3 1 (.slice na2 (k + m) nc2) (k + m) (tV nx ++ vl m (iv F))) (hg : (W.setCell ⟨G, u, none⟩ (.int .i64 (n : Int))).grownBy W2 (Value.slice na k nc).ownBlock) :
    Si w G N E S n (put f u n) q la pa lo (i + 1) (nx ++ (List.range m).map F) (k + m) na2 nc2 W2 := by
  obtain ⟨s1, s2, s3, s4⟩ := h.stored hw hu
  have hrow : ∀ j, (Value.slice na k nc).ownBlock = some j → lo ≤ j := fun j ej => (s4.lt j ej).1
  refine ⟨h.lx.take hi hu e hf (fun x hx => ?_) (fun v hv => ?_), ?_, ?_, ?_, ?_, by simp [h.len], ⟨h.low.1, ?_⟩, h.old⟩
  · obtain ⟨j, hj, rfl⟩ := List.mem_map.1 hx
    exact hE1 j (List.mem_range.1 hj)
  · obtain ⟨j, hj, ej⟩ := hE2 v hv
    exact List.mem_map.2 ⟨j, List.mem_range.2 hj, ej⟩
  · exact s1.same (hg.block _ s1.lt fun q => by have := hrow G q.symm; have := h.low.1; omega)
  · exact s2.grown hg hrow h.old
  · exact s3.grown hg s3.size (fun j ej => by have := hrow j ej; have := h.low.1; omega)
  · rw [tV_two, ← tV_vl']; exact ho
  · have := hg.size
    rw [set_size] at this
    exact Nat.le_trans h.low.2 this
theorem Sl.into {w : World} {G N : Nat} {E : Nat → Nat → Prop} {S : Nat → Prop} {n : Nat} {f : Nat → Int} {q : Nat} {la : Nat → Int} {pa : Option Addr} {W : World} (h : Sl w G N E S n f q la pa W) : Si w G N E S n f q la pa W.heap.size 0 [] 0 none 0 W :=
  ⟨h.ly.into, h.far, h.lay, h.bel, World.ownsRow_nil _ _ _ _, rfl, ⟨h.far.lt, Nat.le_refl _⟩, fun b o e h0 => by
    obtain ⟨b2, o2, e2, _, hl, _⟩ := h.lay h0
    rw [e2] at e
    cases e
    exact hl⟩
theorem Si.next {w : World} {G N : Nat} {E : Nat → Nat → Prop} {S : Nat → Prop} {n : Nat} {f : Nat → Int} {q : Nat} {la : Nat → Int} {pa : Option Addr} {lo : Nat} {nx : List Int} {k : Nat} {na : Option Addr} {nc : Nat} {W : World} (h : Si w G N E S n f q la pa lo q nx k na nc W) (hE : ∀ u v, E u v → u < N) : Sl w G N E S (n + 1) f k (fun i => nx.getD i 0) na W := by
  obtain ⟨h1, h2, h3, h4, h5, h6, h7, _⟩ := h
  subst h6
  refine ⟨h1.next hE, h2, ?_, h4⟩
  rw [tV_vl] at h5
  exact Ra.of_owns h5 h7.1
set_option maxRecDepth 100000 in
set_option maxHeartbeats 4000000 in
theorem steps_any {N : Nat} {ln : Nat → Nat} {L : Nat → Nat → Int} (hr : rgt N ln L = true) {q : Nat} {fs : Nat → Int} (hq : ∀ i, i < q → nd N (fs i) = true) {na pa : Option Addr} {nc pc : Nat} {w : World} (hN : N ≤ 1048576) (hln : ∀ k, k < N → ln k ≤ 1048576) (hq2 : q ≤ 1048576) (hR : Rr w na N ln L) (hF : Ri w pa q fs) :
    Calls Try.prog 45 #[.slice na N nc, .slice pa q pc] w fun x w' => ∃ g, x = .returned (.slice (some ⟨g, 0, none⟩) N N) ∧ w.heap.size ≤ g ∧ Mv g N 3 (iv (ds (Eg N ln L) (fun v : Nat => ∃ i, i < q ∧ fs i = (v : Int)))) w' ∧ Below w.heap.size w w' := by
  obtain ⟨S, hS⟩ : ∃ S : Nat → Prop, S = fun v : Nat => ∃ i, i < q ∧ fs i = (v : Int) := ⟨_, rfl⟩
  rw [← hS]
  have HLY := hide (show Ly (Eg N ln L) S N 0 (fun _ => -1) q fs from Ly.start (fun i hi => by
    have := (nd_iff _ _).1 (hq i hi)
    exact ⟨(fs i).toNat, by omega, by omega⟩) (fun v => by rw [hS]))
  have HEE := hide (show ∀ u v, Eg N ln L u v → u < N from fun u v h => h.1)
  have HE1 := hide (show ∀ u, u < N → ∀ j, j < ln u → ∃ v : Nat, v < N ∧ L u j = (v : Int) ∧ Eg N ln L u v from fun u hu j hj => by
    obtain ⟨v, hv, e⟩ := rgt_at hr hu hj
    exact ⟨v, hv, e, hu, j, hj, e⟩)
  have HE2 := hide (show ∀ u v, Eg N ln L u v → ∃ j, j < ln u ∧ L u j = (v : Int) from fun u v h => h.2)
  clear hS hq hr
  generalize Eg N ln L = E at *
  have mk := makeI N (by omega)
  obtain ⟨i0, hi0, hz0, hz1, hz2⟩ := info_parts infoI
  have HR := hide hR
  have HF := hide hF
  have HLN := hide hln
  clear hR hF hln
  obtain ⟨W0, hW0⟩ : ∃ W, W = w.alloc (.cells (madeCells #[.int .i64 0] N) 3) := ⟨_, rfl⟩
  have HM0 := hide (show Mv w.heap.size N 3 (fun j => if j < 0 then .int .i64 (-1) else .int .i64 0) W0 from by rw [hW0]; exact ⟨_, heap_new _ _, fun k hk => by rw [made_at _ _ _ hk]; simp⟩)
  have HB0 := hide (show Below w.heap.size w W0 from by rw [hW0]; exact al w _)
  go_enter Try.func45, Try.ntmps45
  go_wp2_with fail
  rw [← hW0]
  obtain ⟨g, hg⟩ : ∃ x, x = w.heap.size := ⟨_, rfl⟩
  rw [← hg]
  rw [← hg] at HM0
  have HG := hide (show w.heap.size ≤ g from by rw [hg]; exact Nat.le_refl _)
  clear hg hW0 mk
  go_loopg [6, 17] N (fun g1 _ vi wr => ∃ k : Nat, vi = .int .i64 k ∧ k ≤ N ∧ N - k ≤ g1 ∧ Hid (Mv g N 3 (fun j => if j < k then .int .i64 (-1) else .int .i64 0) wr) ∧ Hid (Below w.heap.size w wr))
  case atStart => exact ⟨0, by go_num, by omega, by omega, HM0, HB0⟩
  case round =>
    obtain ⟨k, rfl, hk, hg1, HM, HB⟩ := hrel
    by_cases hlt : k < N
    · obtain ⟨ck, fk⟩ := (unhide HM).cell hlt
      have HM2 := hide (show Mv g N 3 (fun j => if j < k + 1 then .int .i64 (-1) else .int .i64 0) (wr.setCell ⟨g, k, none⟩ (.int .i64 (-1))) from ((unhide HM).set hlt (.int .i64 (-1))).congr fun j hj => by
        by_cases e : j = k
        · subst e; rw [if_pos rfl, if_pos (by omega)]
        · rw [if_neg e]
          by_cases e2 : j < k
          · rw [if_pos e2, if_pos (by omega)]
          · rw [if_neg e2, if_neg (by omega)])
      have HB2 := hide ((unhide HB).setCell (p := ⟨g, k, none⟩) (unhide HG) (.int .i64 (-1)))
      rw [if_neg (Nat.lt_irrefl k)] at ck
      clear HM HB
      go_wp2_with fail
      generalize wr.setCell ⟨g, k, none⟩ (.int .i64 (-1)) = w2 at *
      go_wp2_with fail
      go_roundg (N - (k + 1))
      case measure => omega
      case rel => exact ⟨k + 1, by go_num, by omega, by omega, HM2, HB2⟩
    · have HS0 := hide (show Sl w g N E S 0 (fun _ => -1) q fs pa wr from ⟨unhide HLY, (unhide HM).congr fun j hj => by rw [if_pos (by omega)]; rfl, (Ra.of (unhide HF) (unhide HG)).later (unhide HB), unhide HB⟩)
      have HC0 := hide (cnt_le (fun _ => (-1 : Int)) N)
      clear HM HB HLY hg1
      go_wp2_with fail
      go_loopg [7, 8, 9, 11] (2 * N + 1) (fun g1 vl_ vn _ _ wr => ∃ (n q : Nat) (f la : Nat → Int) (pa : Option Addr) (pc : Nat), vn = .int .i64 n ∧ vl_ = .slice pa q pc ∧ q ≤ 1099511627776 ∧ n ≤ N + 1 ∧ Hid (n + cnt f N ≤ N + (if q = 0 then 1 else 0)) ∧ Hid (2 * cnt f N + (if q = 0 then 0 else 1) ≤ g1) ∧ Hid (Sl w g N E S n f q la pa wr))
      case atStart => exact ⟨0, q, _, _, pa, pc, by go_num, rfl, by omega, by omega, hide (by have := unhide HC0; omega), hide (by have := unhide HC0; split <;> omega), HS0⟩
      case round =>
        clear HS0 HC0 HF
        obtain ⟨n, q, f, la, pa, pc, rfl, rfl, hq, hn, HNC, HMS, HS⟩ := hrel
        by_cases hq0 : 0 < q
        · have hn2 : n ≤ N := by have := unhide HNC; rw [if_neg (by omega)] at this; omega
          have HI0 := hide (unhide HS).into
          have HSZ := hide (show wr.heap.size ≤ wr.heap.size from Nat.le_refl _)
          obtain ⟨lo, hlo⟩ : ∃ x, x = wr.heap.size := ⟨_, rfl⟩
          rw [← hlo] at HI0
          clear hlo HSZ
          go_wp2_with fail
          go_loopg [9, 11, 32] q (fun g2 vx _ vi wr => ∃ (i k : Nat) (nx : List Int) (f2 : Nat → Int) (xa : Option Addr) (xc : Nat), vi = .int .i64 i ∧ vx = .slice xa k xc ∧ i ≤ q ∧ q - i ≤ g2 ∧ k ≤ 1099511627776 ∧ Hid (cnt f2 N ≤ cnt f N ∧ k ≤ (cnt f N - cnt f2 N) * 1048576) ∧ Hid (Si w g N E S n f2 q la pa lo i nx k xa xc wr))
          case atStart => exact ⟨0, 0, [], f, none, 0, by go_num, rfl, by omega, by omega, by omega, hide ⟨Nat.le_refl _, by omega⟩, HI0⟩
          case round =>
            clear HI0 HS
            obtain ⟨i, k, nx, f2, xa, xc, rfl, rfl, hi, hg2, hk, HC, HI⟩ := hrel
            by_cases hil : i < q
            · obtain ⟨u, hu, eu, _⟩ := (unhide HI).lx.nod i hil
              obtain ⟨lb, lof, rfl, hcl⟩ := (unhide HI).lay.at hil
              obtain ⟨cu, fu⟩ := (unhide HI).far.cell hu
              unfold iv at hcl cu
              rw [eu] at hcl
              have hu2 : (u : Int) < (N : Int) := by omega
              have HEU := hide eu
              clear eu
              by_cases hfu : f2 u = -1
              · obtain ⟨nb, no, ca, cc, rfl, hcn, hri⟩ := ((unhide HR).later (unhide HI).bel).at hu
                have hlu := unhide HLN u hu
                have HST := hide ((unhide HI).stored (unhide HG) hu)
                have hcn2 : (wr.setCell ⟨g, u, none⟩ (.int .i64 (n : Int))).cell? ⟨nb, no + u, none⟩ = some (.slice ca (ln u) cc) := by
                  obtain ⟨nb2, no2, ca2, cc2, e2, hcn3, hri3⟩ := ((unhide HR).later (unhide HST).2.2.1).at hu
                  obtain ⟨nb4, no4, e4, hl4, hc4⟩ := (unhide HR).choose_spec.choose_spec.1.at hu
                  cases e2
                  cases e4
                  have a1 := ((unhide HI).bel.cell (p := ⟨nb, no + u, none⟩) hl4)
                  have a2 := ((unhide HST).2.2.1.cell (p := ⟨nb, no + u, none⟩) hl4)
                  rw [a2, ← a1]; exact hcn
                have HRI := hide (show Ri (wr.setCell ⟨g, u, none⟩ (.int .i64 (n : Int))) ca (ln u) (L u) from by
                  obtain ⟨ca3, cc3, r1, r2⟩ := unhide HR
                  obtain ⟨nb4, no4, e4, hl4, hc4⟩ := r1.at hu
                  cases e4
                  have a1 := ((unhide HI).bel.cell (p := ⟨nb, no + u, none⟩) hl4).trans hc4
                  rw [hcn] at a1
                  injection a1 with a1
                  injection a1 with a1 a2 a3
                  have := r2 u hu
                  rw [← a1] at this
                  exact this.later (unhide HST).2.2.1)
                have hkk : k + ln u ≤ 1099511627776 ∧ cnt (put f2 u n) N ≤ cnt f N ∧ k + ln u ≤ (cnt f N - cnt (put f2 u n) N) * 1048576 := by
                  have h1 := cnt_put (N := N) (x := (n : Int)) (by omega) hfu hu
                  obtain ⟨h2, h3⟩ := unhide HC
                  have h4 := cnt_le f N
                  have h5 : (cnt f N - cnt (put f2 u n) N) * 1048576 = (cnt f N - cnt f2 N) * 1048576 + 1048576 := by rw [← h1]; omega
                  refine ⟨?_, by omega, by omega⟩
                  have h6 : (cnt f N - cnt (put f2 u n) N) * 1048576 ≤ 1048576 * 1048576 := Nat.mul_le_mul_right _ (by omega)
                  omega
                have HKK := hide hkk
                have hk1 := hkk.1
                clear hkk
                have HHS : Hid (lo ≤ (wr.setCell ⟨g, u, none⟩ (.int .i64 (n : Int))).heap.size) := by rw [set_size]; exact (unhide HI).low.2
                have HFU := hide hfu
                have hz : (f2 u == -1) = true := by simp [hfu]
                clear hri hcn hfu
                have HE1u := hide (unhide HE1 u hu)
                have HE2u := hide (unhide HE2 u)
                generalize ln u = lu at *
                generalize f2 u = fv at cu hz
                go_wp2_with (at_builtin; go_must (refine wpList_append_any rfl _ _ 23 rfl lo 3 i0 (.int .i64 0) 8 Try.underlying23 hi0 hz0 hz1 hz2 rfl xa k xc (tV nx) rfl (unhide HST).2.2.2 ca lu cc (iv (L u)) rfl (unhide HRI) (fun _ => rfl) (by unfold maxLen; omega) (by omega) (unhide HHS) ?_); intro xa9 xc9 w9 hown hgrow; have HI9 := hide ((unhide HI).took (unhide HG) hil hu (unhide HEU) (unhide HFU) (unhide HE1u) (unhide HE2u) hown hgrow); clear hown hgrow)
                go_roundg (q - (i + 1))
                case measure => omega
                case rel => exact ⟨i + 1, k + lu, _, _, xa9, xc9, by go_num, rfl, by omega, by omega, by omega, hide (unhide HKK).2, HI9⟩
              · have hz : (f2 u == -1) = false := by simpa using hfu
                have HI2 := hide ((unhide HI).skip (unhide HEU) hfu)
                clear hfu
                generalize f2 u = fv at *
                go_wp2
                go_roundg (q - (i + 1))
                case measure => omega
                case rel => exact ⟨i + 1, k, nx, f2, xa, xc, by go_num, rfl, by omega, by omega, by omega, HC, HI2⟩
            · obtain rfl : i = q := by omega
              have HS2 := hide ((unhide HI).next (unhide HEE))
              have HN2 := hide (show (n + 1) + cnt f2 N ≤ N + (if k = 0 then 1 else 0) ∧ 2 * cnt f2 N + (if k = 0 then 0 else 1) < 2 * cnt f N + (if i = 0 then 0 else 1) from by
                obtain ⟨h1, h2⟩ := unhide HC
                have h3 := unhide HNC
                rw [if_neg (by omega)] at h3
                rw [if_neg (by omega : ¬ i = 0)]
                by_cases e : k = 0
                · rw [if_pos e, if_pos e]; omega
                · rw [if_neg e, if_neg e]
                  have : cnt f2 N ≠ cnt f N := fun q => by rw [q] at h2; omega
                  omega)
              clear HI HC
              go_wp2_with fail
              go_roundg (2 * cnt f2 N + (if k = 0 then 0 else 1))
              case measure => have := (unhide HN2).2; have := unhide HMS; omega
              case rel => exact ⟨n + 1, k, f2, _, xa, xc, by go_num, rfl, by omega, by omega, hide (unhide HN2).1, hide (Nat.le_refl _), HS2⟩
        · obtain rfl : q = 0 := by omega
          have HFN := hide (show Mv g N 3 (iv (ds E S)) wr from (unhide HS).far.congr fun k hk => by unfold iv; rw [(unhide HS).ly.end (unhide HEE) hk])
          have HB := hide (unhide HS).bel
          clear HS HNC HMS
          go_wp2
          go_ret
          exact ⟨g, rfl, unhide HG, unhide HFN, unhide HB⟩
end Go.Proofs.Ytjflnpcpnoccjaa
