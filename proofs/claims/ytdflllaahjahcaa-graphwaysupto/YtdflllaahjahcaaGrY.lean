import Derived.Test.YtdflllaahjahcaaGrI
import Derived.Test.YtdflllaahjahcaaGrV
namespace Go.Proofs.Ytdflllaahjahcaa
open Go.RowKit

/-- WHAT IS KNOWN BEHIND SO MANY ROUNDS. -/
def dl (D : Nat → Int) (r : Nat) (v : Nat) : Int := if 0 ≤ D v ∧ D v < (r : Int) then D v else -1
theorem dl_cases (D : Nat → Int) (r v : Nat) : (0 ≤ D v ∧ D v < (r : Int) ∧ dl D r v = D v) ∨ (¬ (0 ≤ D v ∧ D v < (r : Int)) ∧ dl D r v = -1) := by
  unfold dl
  by_cases h : 0 ≤ D v ∧ D v < (r : Int)
  · rw [if_pos h]; exact .inl ⟨h.1, h.2, rfl⟩
  · rw [if_neg h]; exact .inr ⟨h, rfl⟩
/-- WITHIN A NODE'S EDGES. -/
structure Dk (D : Nat → Int) (ln : Nat → Nat) (L : Nat → Nat → Int) (N s v i : Nat) (f : Nat → Int) : Prop where
  lo : ∀ x, x < v → f x = dl D (s + 2) x
  hi : ∀ x, v < x → x < N → f x = dl D (s + 1) x
  me : v < N → (f v = dl D (s + 1) v ∧ (dl D (s + 1) v = -1 → ∀ j, j < i → D (L v j).toNat ≠ (s : Int))) ∨ (f v = ((s + 1 : Nat) : Int) ∧ dl D (s + 1) v = -1 ∧ ∃ j, j < i ∧ D (L v j).toNat = (s : Int))
theorem Dk.look {D : Nat → Int} {ln : Nat → Nat} {L : Nat → Nat → Int} {N s v i : Nat} {f : Nat → Int} (h : Dk D ln L N s v i f) (hm : f v = -1) {x : Nat} (hx : x < N) : f x = (s : Int) ↔ D x = (s : Int) := by
  by_cases e1 : x < v
  · rw [h.lo x e1]
    rcases dl_cases D (s + 2) x with ⟨a, b, c⟩ | ⟨a, b⟩
    · rw [c]
    · rw [b]; omega
  · by_cases e2 : v < x
    · rw [h.hi x e2 hx]
      rcases dl_cases D (s + 1) x with ⟨a, b, c⟩ | ⟨a, b⟩
      · rw [c]
      · rw [b]; omega
    · obtain rfl : x = v := by omega
      rw [hm]
      rcases h.me hx with ⟨a, _⟩ | ⟨a, _⟩
      · rcases dl_cases D (s + 1) x with ⟨b1, b2, b3⟩ | ⟨b1, b2⟩
        · omega
        · omega
      · omega
theorem Dk.no {D : Nat → Int} {ln : Nat → Nat} {L : Nat → Nat → Int} {N s v i : Nat} {f : Nat → Int} (h : Dk D ln L N s v i f) (hn : f v = -1 → D (L v i).toNat ≠ (s : Int)) : Dk D ln L N s v (i + 1) f := by
  refine ⟨h.lo, h.hi, fun hv => ?_⟩
  rcases h.me hv with ⟨a, b⟩ | ⟨a, b, j, hj, e⟩
  · refine .inl ⟨a, fun q j hj => ?_⟩
    by_cases e : j = i
    · subst e; exact hn (by rw [a, q])
    · exact b q j (by omega)
  · exact .inr ⟨a, b, j, by omega, e⟩
theorem Dk.yes {D : Nat → Int} {ln : Nat → Nat} {L : Nat → Nat → Int} {N s v i : Nat} {f : Nat → Int} (h : Dk D ln L N s v i f) (hm : f v = -1) (e : D (L v i).toNat = (s : Int)) : Dk D ln L N s v (i + 1) (put f v ((s + 1 : Nat) : Int)) := by
  refine ⟨fun x hx => ?_, fun x hx hN => ?_, fun hv => .inr ⟨if_pos rfl, ?_, i, by omega, e⟩⟩
  · unfold put; rw [if_neg (by omega)]; exact h.lo x hx
  · unfold put; rw [if_neg (by omega)]; exact h.hi x hx hN
  · rcases h.me hv with ⟨a, _⟩ | ⟨a, _⟩
    · omega
    · omega
/-- A node's edges have been gone through. -/
theorem Dk.next {N : Nat} {ln : Nat → Nat} {L : Nat → Nat → Int} (hr : rgt N ln L = true) {u s v : Nat} {f : Nat → Int} (hv : v < N) (h : Dk (dt N ln L u) ln L N s v (ln v) f) : Dk (dt N ln L u) ln L N s (v + 1) 0 f := by
  have hs : dt N ln L u v = ((s + 1 : Nat) : Int) ↔ dl (dt N ln L u) (s + 1) v = -1 ∧ ∃ j, j < ln v ∧ dt N ln L u (L v j).toNat = (s : Int) := by
    constructor
    · intro e
      obtain ⟨b, hb, eb⟩ := ds_back (E := Ge N ln L) (S := fun x => x = u) e
      obtain ⟨_, j, hj, ej⟩ := hb
      refine ⟨?_, j, hj, by rw [ej, Int.toNat_natCast]; exact eb⟩
      rcases dl_cases (dt N ln L u) (s + 1) v with ⟨b1, b2, b3⟩ | ⟨b1, b2⟩
      · omega
      · exact b2
    · rintro ⟨a, j, hj, ej⟩
      obtain ⟨x, hx, ex⟩ := rgt_at hr hv hj
      rw [ex, Int.toNat_natCast] at ej
      obtain ⟨m, hm, em⟩ := ds_edge (E := Ge N ln L) (S := fun x => x = u) (u := x) (v := v) ej ⟨hv, j, hj, ex⟩
      have em2 : dt N ln L u v = (m : Int) := em
      rcases dl_cases (dt N ln L u) (s + 1) v with ⟨b1, b2, b3⟩ | ⟨b1, b2⟩
      · omega
      · obtain rfl : m = s + 1 := by
          apply Classical.byContradiction
          intro q
          exact b1 (by omega)
        exact em2
  refine ⟨fun x hx => ?_, fun x hx hN => h.hi x (by omega) hN, ?_⟩
  · by_cases e : x = v
    · subst e
      rcases h.me hv with ⟨a, b⟩ | ⟨a, b, c⟩
      · rw [a]
        rcases dl_cases (dt N ln L u) (s + 1) x with ⟨b1, b2, b3⟩ | ⟨b1, b2⟩
        · rcases dl_cases (dt N ln L u) (s + 2) x with ⟨c1, c2, c3⟩ | ⟨c1, c2⟩
          · rw [b3, c3]
          · exact absurd (by omega) c1
        · rcases dl_cases (dt N ln L u) (s + 2) x with ⟨c1, c2, c3⟩ | ⟨c1, c2⟩
          · have e1 : dt N ln L u x = ((s + 1 : Nat) : Int) := by omega
            obtain ⟨_, j, hj, ej⟩ := hs.1 e1
            exact absurd ej (b b2 j hj)
          · rw [b2, c2]
      · have e1 := hs.2 ⟨b, c⟩
        rcases dl_cases (dt N ln L u) (s + 2) x with ⟨c1, c2, c3⟩ | ⟨c1, c2⟩
        · rw [a, c3, e1]
        · exact absurd (by omega) c1
    · exact h.lo x (by omega)
  · exact fun hvn => .inl ⟨h.hi (v + 1) (by omega) hvn, fun _ j hj => by omega⟩
theorem dl_one {N : Nat} {ln : Nat → Nat} {L : Nat → Nat → Int} (u : Nat) : put (fun _ => -1) u 0 = dl (dt N ln L u) 1 := by
  funext v
  unfold put
  by_cases e : v = u
  · rw [if_pos e]
    have := (dt_zero (N := N) (ln := ln) (L := L)).2 e
    rcases dl_cases (dt N ln L u) 1 v with ⟨c1, c2, c3⟩ | ⟨c1, c2⟩
    · rw [c3, this]
    · exact absurd (by omega) c1
  · rw [if_neg e]
    rcases dl_cases (dt N ln L u) 1 v with ⟨c1, c2, c3⟩ | ⟨c1, c2⟩
    · exact absurd ((dt_zero (N := N) (ln := ln) (L := L)).1 (by omega)) e
    · exact c2.symm
theorem dl_all {N : Nat} {ln : Nat → Nat} {L : Nat → Nat → Int} (hr : rgt N ln L = true) (u : Nat) {v : Nat} (hv : v < N) : dl (dt N ln L u) N v = dt N ln L u v := by
  rcases dl_cases (dt N ln L u) N v with ⟨c1, c2, c3⟩ | ⟨c1, c2⟩
  · exact c3
  · rw [c2]
    rcases ds_is (Ge N ln L) (fun x => x = u) v with ⟨e, _⟩ | ⟨k, e, _⟩
    · exact e.symm
    · have := ds_lt (fun a b (h : Ge N ln L a b) => Eg.lt hr h) hv e
      have e2 : dt N ln L u v = (k : Int) := e
      exact absurd (by omega) c1
theorem Dk.start (D : Nat → Int) (ln : Nat → Nat) (L : Nat → Nat → Int) (N s : Nat) {f : Nat → Int} (h : ∀ x, x < N → f x = dl D (s + 1) x) : Dk D ln L N s 0 0 f :=
  ⟨fun x hx => by omega, fun x _ hN => h x hN, fun h0 => .inl ⟨h 0 h0, fun _ j hj => by omega⟩⟩
theorem Dk.end {D : Nat → Int} {ln : Nat → Nat} {L : Nat → Nat → Int} {N s i : Nat} {f : Nat → Int} (h : Dk D ln L N s N i f) : ∀ x, x < N → f x = dl D (s + 1 + 1) x := fun x hx => h.lo x hx
set_option maxRecDepth 100000 in
set_option maxHeartbeats 4000000 in
theorem rdist_any {N : Nat} {ln : Nat → Nat} {L : Nat → Nat → Int} (hr : rgt N ln L = true) {u : Nat} (hu : u < N) {na : Option Addr} {nc : Nat} {w : World} (hN : N ≤ 1048576) (hln : ∀ k, k < N → ln k ≤ 1048576) (hR : Rr w na N ln L) :
    Calls Try.prog 51 #[.slice na N nc, .int .i64 (u : Int)] w fun x w' => ∃ g gc, x = .returned (.slice (some ⟨g, 0, none⟩) N gc) ∧ w.heap.size ≤ g ∧ Mv g N 3 (iv (dt N ln L u)) w' ∧ Below w.heap.size w w' := by
  obtain ⟨i0, hi0, hz0, hz1, hz2⟩ := info_parts infoI
  have HR := hide hR
  have HLN := hide hln
  have HRG := hide (fun a i (ha : a < N) (hi : i < ln a) => rgt_at hr ha hi)
  have HNX := hide (fun (s v : Nat) (f : Nat → Int) (hv : v < N) (h : Dk (dt N ln L u) ln L N s v (ln v) f) => Dk.next hr hv h)
  have HAL := hide (fun v (hv : v < N) => dl_all hr u hv)
  have HON := hide (dl_one (N := N) (ln := ln) (L := L) u)
  have hu2 : (u : Int) < (N : Int) := by omega
  clear hR hln hr
  obtain ⟨D, hD⟩ : ∃ D, D = dt N ln L u := ⟨_, rfl⟩
  rw [← hD] at HNX HAL HON ⊢
  clear hD
  go_enter Try.func51, Try.ntmps51
  go_wp2_with fail
  go_loopg [5, 6] N (fun g1 vd vi wr => ∃ (k : Nat) (la : Option Addr) (lc : Nat), vi = .int .i64 k ∧ vd = .slice la k lc ∧ k ≤ N ∧ N - k ≤ g1 ∧ Hid (wr.ownsRow w.heap.size 3 1 (.slice la k lc) k (vl k (iv fun _ => -1))) ∧ Hid (Below w.heap.size w wr))
  case atStart => exact ⟨0, none, 0, by go_num, rfl, by omega, by omega, hide (World.ownsRow_nil _ _ _ _), hide (Below.refl _ _)⟩
  case round =>
    obtain ⟨k, la, lc, rfl, rfl, hk, hg1, HO, HB⟩ := hrel
    have hsz := (unhide HB).size
    by_cases hlt : k < N
    · go_wp2_with (at_builtin; go_must (refine wpList_append_lies _ rfl _ _ 23 rfl w.heap.size 3 i0 (.int .i64 0) 1 8 Try.underlying23 hi0 hz0 hz1 hz2 rfl (by decide) (.slice la k lc) k _ rfl ((unhide HO).alloc _) ⟨wr.heap.size, 0, none⟩ 1 1 [.int .i64 (-1)] rfl rfl (cell_one_new _ _ _) (by simp [Value.oneCell']) (by decide) (by unfold maxLen; omega) (by omega) (by simp; omega) _ rfl ?_); intro gg c9 w9 hown hgrow hat _; have HO9 := hide hown; have HB9 := hide (((unhide HB).alloc hsz _).grown hgrow (by simp; omega) (fun j e => ((unhide HO).lt j e).1)); clear hown hgrow hat)
      have HO10 := hide (show w9.ownsRow w.heap.size 3 1 (.slice (some ⟨gg, 0, none⟩) (k + 1) c9) (k + 1) (vl (k + 1) (iv fun _ => -1)) from by rw [vl_succ]; exact unhide HO9)
      go_roundg (N - (k + 1))
      case measure => omega
      case rel => exact ⟨k + 1, _, _, by go_num, rfl, by omega, by omega, HO10, HB9⟩
    · obtain rfl : k = N := by omega
      obtain ⟨g, hla⟩ : ∃ g, la = some ⟨g, 0, none⟩ := by
        rcases (unhide HO).2 with ⟨_, q⟩ | ⟨g, cap, cur, q, _⟩
        · omega
        · cases q
          exact ⟨g, rfl⟩
      subst hla
      have HG := hide ((unhide HO).lt g rfl).1
      have HM := hide (Mv.of_owns (unhide HO))
      obtain ⟨cu, fu⟩ := (unhide HM).cell hu
      unfold iv at cu
      have HM2 := hide (show Mv g k 3 (iv (dl D 1)) (wr.setCell ⟨g, u, none⟩ (.int .i64 0)) from by rw [← unhide HON, ← iv_put]; exact (unhide HM).set hu _)
      have HB2 := hide ((unhide HB).setCell (p := ⟨g, u, none⟩) (unhide HG) (.int .i64 0))
      clear HO HM HB HON
      go_upto_region 7 with fail
      generalize wr.setCell ⟨g, u, none⟩ (.int .i64 0) = W2 at *
      go_wp2_with fail
      go_loopg [7, 8, 9] k (fun g1 vr _ _ wr => ∃ (s : Nat) (f : Nat → Int), vr = .int .i64 ((s : Int) + 1) ∧ s + 1 ≤ k ∧ k - (s + 1) ≤ g1 ∧ Hid (∀ x, x < k → f x = dl D (s + 1) x) ∧ Hid (Mv g k 3 (iv f) wr) ∧ Hid (Below w.heap.size w wr))
      case atStart => exact ⟨0, _, by go_num, by omega, by omega, hide (fun x _ => rfl), HM2, HB2⟩
      case round =>
        clear HM2 HB2
        obtain ⟨s, f, rfl, hs, hg, HF, HM, HB⟩ := hrel
        by_cases hlt2 : s + 1 < k
        · have HK0 := hide (Dk.start D ln L k s (unhide HF))
          have hs2 : (s : Int) + 1 < (k : Int) := by omega
          clear HF
          go_wp2_with fail
          go_loopg [8, 9] k (fun g2 vi _ wr => ∃ (v : Nat) (f : Nat → Int), vi = .int .i64 v ∧ v ≤ k ∧ k - v ≤ g2 ∧ Hid (Dk D ln L k s v 0 f) ∧ Hid (Mv g k 3 (iv f) wr) ∧ Hid (Below w.heap.size w wr))
          case atStart => exact ⟨0, f, by go_num, by omega, by omega, HK0, HM, HB⟩
          case round =>
            clear HK0 HM HB
            obtain ⟨v, f, rfl, hv, hg2, HK, HM, HB⟩ := hrel
            by_cases hlv : v < k
            · have hln := unhide HLN v hlv
              have hv2 : (v : Int) < (k : Int) := by omega
              go_wp2_with fail
              go_loopg [9] (ln v) (fun g3 vi wr => ∃ (i : Nat) (f : Nat → Int), vi = .int .i64 i ∧ i ≤ ln v ∧ ln v - i ≤ g3 ∧ Hid (Dk D ln L k s v i f) ∧ Hid (Mv g k 3 (iv f) wr) ∧ Hid (Below w.heap.size w wr))
              case atStart => exact ⟨0, f, by go_num, by omega, by omega, HK, HM, HB⟩
              case round =>
                clear HK HM HB
                obtain ⟨i, f, rfl, hi, hg3, HK, HM, HB⟩ := hrel
                obtain ⟨nb, no, ca, cc, rfl, hcn, hri⟩ := ((unhide HR).later (unhide HB)).at hlv
                obtain ⟨cv, fv⟩ := (unhide HM).cell hlv
                unfold iv at cv
                by_cases hil : i < ln v
                · obtain ⟨lb, lof, rfl, _, hcl⟩ := hri.at hil
                  obtain ⟨x, hx, ex⟩ := unhide HRG v i hlv hil
                  unfold iv at hcl
                  rw [ex] at hcl
                  have hx2 : (x : Int) < (k : Int) := by omega
                  obtain ⟨cx, _⟩ := (unhide HM).cell hx
                  unfold iv at cx
                  have j1 : (s : Int) + 1 - 1 = (s : Int) := by omega
                  have j2 : IntKind.i64.wrap (s : Int) = (s : Int) := IntWalk.i64_in _ (by omega)
                  clear hri
                  by_cases hfv : f v < 0
                  · have hfm : f v = -1 := by
                      rcases (unhide HK).me hlv with ⟨a, _⟩ | ⟨a, _⟩
                      · rcases dl_cases D (s + 1) v with ⟨b1, b2, b3⟩ | ⟨b1, b2⟩ <;> omega
                      · omega
                    have hlk := (unhide HK).look hfm hx
                    by_cases hD : D x = (s : Int)
                    · have HK2 := hide ((unhide HK).yes hfm (by rw [ex, Int.toNat_natCast]; exact hD))
                      have HM2 := hide (show Mv g k 3 (iv (put f v ((s + 1 : Nat) : Int))) (wr.setCell ⟨g, v, none⟩ (.int .i64 ((s + 1 : Nat) : Int))) from by rw [← iv_put]; exact (unhide HM).set hlv _)
                      have HB2 := hide ((unhide HB).setCell (p := ⟨g, v, none⟩) (unhide HG) (.int .i64 ((s + 1 : Nat) : Int)))
                      have hz : (f x == (s : Int)) = true := by simpa using hlk.2 hD
                      clear HK HM HB ex hD hlk hfm
                      generalize f v = fv1 at *
                      generalize f x = fx1 at *
                      generalize ln v = lv at *
                      rw [show ((s + 1 : Nat) : Int) = (s : Int) + 1 from rfl] at HM2 HB2
                      go_wp2_with fail
                      generalize wr.setCell ⟨g, v, none⟩ (.int .i64 ((s : Int) + 1)) = W3 at *
                      go_wp2_with fail
                      go_roundg (lv - (i + 1))
                      case measure => omega
                      case rel => exact ⟨i + 1, _, by go_num, by omega, by omega, HK2, HM2, HB2⟩
                    · have HK2 := hide ((unhide HK).no (fun _ => by rw [ex, Int.toNat_natCast]; exact hD))
                      have hz : (f x == (s : Int)) = false := by
                        simp
                        exact fun q => hD (hlk.1 q)
                      clear HK ex hD hlk hfm
                      generalize f v = fv1 at *
                      generalize f x = fx1 at *
                      generalize ln v = lv at *
                      go_wp2_with fail
                      go_roundg (lv - (i + 1))
                      case measure => omega
                      case rel => exact ⟨i + 1, f, by go_num, by omega, by omega, HK2, HM, HB⟩
                  · have HK2 := hide ((unhide HK).no (fun q => by omega))
                    clear HK ex
                    generalize f v = fv1 at *
                    generalize ln v = lv at *
                    go_wp2_with fail
                    go_roundg (lv - (i + 1))
                    case measure => omega
                    case rel => exact ⟨i + 1, f, by go_num, by omega, by omega, HK2, HM, HB⟩
                · have HK2 := hide (show Dk D ln L k s (v + 1) 0 f from by
                    obtain rfl : i = ln v := by omega
                    exact unhide HNX s v f hlv (unhide HK))
                  clear HK hri
                  generalize ln v = lv at hil hcn hi hg3 hln
                  go_wp2_with fail
                  go_roundg (k - (v + 1))
                  case measure => omega
                  case rel => exact ⟨v + 1, f, by go_num, by omega, by omega, HK2, HM, HB⟩
            · obtain rfl : v = k := by omega
              have HF2 := hide (unhide HK).end
              clear HK
              go_wp2_with fail
              go_roundg (v - (s + 1 + 1))
              case measure => omega
              case rel => exact ⟨s + 1, f, by go_num, by omega, by omega, HF2, HM, HB⟩
        · obtain rfl : s + 1 = k := by omega
          have HMF := hide (show Mv g (s + 1) 3 (iv D) wr from (unhide HM).congr fun x hx => by unfold iv; rw [unhide HF x hx, unhide HAL x hx])
          clear HM HF
          go_wp2
          go_ret
          exact ⟨g, lc, rfl, unhide HG, unhide HMF, unhide HB⟩
end Go.Proofs.Ytdflllaahjahcaa
