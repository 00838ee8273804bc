import Derived.Test.YtabjbppekijfiaaSvI
import Derived.Test.YtabjbppekijfiaaVsP
namespace Go.Proofs.Ytabjbppekijfiaa
open Go.RowKit

theorem clT_succ (v : Nat → Bool) (k : Nat) (f : Nat → Int) : clT v (k + 1) f = (clT v k f || says v (f k)) := by
  cases h : says v (f k) with
  | true => rw [clT_yes (Nat.lt_succ_self k) h]; simp
  | false =>
    apply b_eq
    rw [Bool.or_false]
    constructor
    · intro q
      cases e : clT v k f with
      | true => rfl
      | false =>
        rw [clT_no (v := v) (m := k + 1) (f := f) fun j hj => by
          by_cases z : j = k
          · subst z; exact h
          · cases y : says v (f j) with
            | false => rfl
            | true => rw [clT_yes (show j < k by omega) y] at e; cases e] at q
        cases q
    · intro q
      cases e : clT v (k + 1) f with
      | true => rfl
      | false =>
        rw [clT_no (v := v) (m := k) (f := f) fun j hj => by
          cases y : says v (f j) with
          | false => rfl
          | true => rw [clT_yes (show j < k + 1 by omega) y] at e; cases e] at q
        cases q
set_option maxHeartbeats 2000000 in
theorem says_any (n : Nat) (hn : n ≤ 131071) (v : Nat → Bool) (va : Option Addr) (vc : Nat) (l : Int) (hl : okL n l = true) (w : World) (hv : Rt w va n v) :
    Calls Try.prog 19 #[.int .i64 l, .slice va n vc] w fun x w' => x = .returned (.bool (says v l)) ∧ w' = w := by
  obtain ⟨z1, z2, z3⟩ := (okL_iff _ _).1 hl
  obtain ⟨b3, o3, hva, hb3, hc3⟩ := hv.at (k := l.natAbs - 1) (by omega)
  subst hva
  unfold bv at hc3
  have hsy : says v l = (v (l.natAbs - 1) == decide (0 < l)) := rfl
  have HS := hide hsy
  generalize says v l = R at *
  generalize v (l.natAbs - 1) = vb at *
  clear hv hl hsy
  by_cases hpos : 0 < l
  · obtain ⟨q, hq⟩ : ∃ q : Nat, l = (q : Int) + 1 := ⟨l.natAbs - 1, by omega⟩
    have e1 : l.natAbs - 1 = q := by omega
    rw [e1] at hc3
    rw [show decide (0 < l) = true by simpa using hpos] at HS
    rw [hq]
    have i2 : q < n := by omega
    clear e1 hq hpos z1 z2 z3 l
    go_enter Try.func19, Try.ntmps19
    go_wp2
    go_ret
    exact ⟨ret_b (by rw [unhide HS]; cases vb <;> rfl), rfl⟩
  · obtain ⟨q, hq⟩ : ∃ q : Nat, l = -((q : Int) + 1) := ⟨l.natAbs - 1, by omega⟩
    have e1 : l.natAbs - 1 = q := by omega
    rw [e1] at hc3
    rw [show decide (0 < l) = false by simpa using hpos] at HS
    rw [hq]
    have i2 : q < n := by omega
    clear e1 hq hpos z1 z2 z3 l
    go_enter Try.func19, Try.ntmps19
    go_wp2
    go_ret
    exact ⟨ret_b (by rw [unhide HS]; cases vb <;> rfl), rfl⟩
set_option maxRecDepth 100000 in
set_option maxHeartbeats 2000000 in
theorem padded_any (n : Nat) (hn : n ≤ 131071) (m : Nat) (v : Nat → Bool) (va : Option Addr) (vc : Nat) (w : World) (hv : Rt w va m v) :
    Calls Try.prog 18 #[.slice va m vc, .int .i64 n] w fun x w' => ∃ qa qc, x = .returned (.slice qa n qc) ∧ Rt w' qa n (fun k => decide (k < m) && v k) ∧ Below w.heap.size w w' := by
  obtain ⟨i0, hi0, hz0, hz1, hz2⟩ := info_parts infoB
  have HV := hide hv
  clear hv
  go_enter Try.func18, Try.ntmps18
  go_wp2_with fail
  go_loopg [5, 6] n (fun g1 vl_ vi wr => ∃ (k : Nat) (la : Option Addr) (lc : Nat), vi = .int .i64 k ∧ vl_ = .slice la k lc ∧ k ≤ n ∧ n - k ≤ g1 ∧ Hid (wr.ownsRow w.heap.size 4 1 (.slice la k lc) k (vl k (bv fun j => decide (j < m) && v j))) ∧ Hid (Below w.heap.size w wr))
  case atStart => exact ⟨0, none, 0, by go_num, rfl, by omega, by omega, hide (World.ownsRow_nil _ _ _ _), hide (Below.refl _ _)⟩
  case round =>
    obtain ⟨k, la, lc, rfl, rfl, hk, hg, HO, HB⟩ := hrel
    have hsz := (unhide HB).size
    by_cases hlt : k < n
    · by_cases hkm : k < m
      · obtain ⟨b, o, rfl, _, hc⟩ := ((unhide HV).later (unhide HB)).at hkm
        unfold bv at hc
        have HVS := hide (show vl (k + 1) (bv fun j => decide (j < m) && v j) = vl k (bv fun j => decide (j < m) && v j) ++ [.bool (v k)] from by rw [vl_succ]; simp [bv, hkm])
        go_wp2_with (at_builtin; go_must (refine wpList_append_lies _ rfl _ _ 27 rfl w.heap.size 4 i0 (.bool false) 1 1 Try.underlying27 hi0 hz0 hz1 hz2 rfl (by decide) (.slice la k lc) k _ rfl ((unhide HO).alloc _) ⟨wr.heap.size, 0, none⟩ 1 1 [.bool (v k)] rfl rfl (cell_one_new _ _ _) (by simp [Value.oneCell']) (by decide) (by unfold maxLen; omega) (by omega) (by simp; omega) _ rfl ?_); intro gg c9 w9 hown hgrow hat _; have HO9 := hide (show w9.ownsRow w.heap.size 4 1 (.slice (some ⟨gg, 0, none⟩) (k + 1) c9) (k + 1) (vl (k + 1) (bv fun j => decide (j < m) && v j)) from by rw [unhide HVS]; exact hown); have HB9 := hide (((unhide HB).alloc hsz _).grown hgrow (by simp; omega) (fun j e => ((unhide HO).lt j e).1)); clear hown hgrow hat)
        go_roundg (n - (k + 1))
        case measure => omega
        case rel => exact ⟨k + 1, _, _, by go_num, rfl, by omega, by omega, HO9, HB9⟩
      · have HVS := hide (show vl (k + 1) (bv fun j => decide (j < m) && v j) = vl k (bv fun j => decide (j < m) && v j) ++ [.bool false] from by rw [vl_succ]; simp [bv, hkm])
        go_wp2_with (at_builtin; go_must (refine wpList_append_lies _ rfl _ _ 27 rfl w.heap.size 4 i0 (.bool false) 1 1 Try.underlying27 hi0 hz0 hz1 hz2 rfl (by decide) (.slice la k lc) k _ rfl ((unhide HO).alloc _) ⟨wr.heap.size, 0, none⟩ 1 1 [.bool false] rfl rfl (cell_one_new _ _ _) (by simp [Value.oneCell']) (by decide) (by unfold maxLen; omega) (by omega) (by simp; omega) _ rfl ?_); intro gg c9 w9 hown hgrow hat _; have HO9 := hide (show w9.ownsRow w.heap.size 4 1 (.slice (some ⟨gg, 0, none⟩) (k + 1) c9) (k + 1) (vl (k + 1) (bv fun j => decide (j < m) && v j)) from by rw [unhide HVS]; exact hown); have HB9 := hide (((unhide HB).alloc hsz _).grown hgrow (by simp; omega) (fun j e => ((unhide HO).lt j e).1)); clear hown hgrow hat)
        go_roundg (n - (k + 1))
        case measure => omega
        case rel => exact ⟨k + 1, _, _, by go_num, rfl, by omega, by omega, HO9, HB9⟩
    · go_wp2
      go_ret
      obtain rfl : k = n := by omega
      exact ⟨la, lc, rfl, Rv.of_owns (unhide HO), unhide HB⟩
set_option maxRecDepth 100000 in
set_option maxHeartbeats 2000000 in
theorem lmodel_any (n : Nat) (hn : n ≤ 131071) (N : Nat) (ln : Nat → Nat) (L : Nat → Nat → Int) (v : Nat → Bool) (pa va : Option Addr) (c vc : Nat) (w : World) (hN : N ≤ 140737488355328) (hm : ∀ k, k < N → ln k ≤ 140737488355328) (h : Rr w pa N ln L) (hv : Rt w va n v) (ho : ∀ k, k < N → ∀ j, j < ln k → okL n (L k j) = true) :
    Calls Try.prog 16 #[.slice pa N c, .slice va n vc] w fun x w' => x = .returned (.bool (bAll N fun k => clT v (ln k) (L k))) ∧ Below w.heap.size w w' := by
  have HR := hide h
  have HV := hide hv
  have HO := hide ho
  have HM := hide hm
  clear h hv ho hm
  go_enter Try.func16, Try.ntmps16
  go_wp2_with fail
  go_loopg [5, 6, 7] N (fun g1 vi _ _ wr => ∃ i : Nat, vi = .int .i64 i ∧ i ≤ N ∧ N - i ≤ g1 ∧ Hid (∀ j, j < i → clT v (ln j) (L j) = true) ∧ Hid (Below w.heap.size w wr))
  case atStart => exact ⟨0, by go_num, by omega, by omega, hide fun j h => absurd h (Nat.not_lt_zero _), hide (Below.refl _ _)⟩
  case round =>
    obtain ⟨i, rfl, hi, hg, HA, HB⟩ := hrel
    obtain ⟨w8, h8⟩ : ∃ x, x = wr := ⟨_, rfl⟩
    subst h8
    by_cases hlt : i < N
    · obtain ⟨b, o, la, lc, hpa, hcl, hri⟩ := ((unhide HR).later (unhide HB)).at hlt
      subst hpa
      have hml := unhide HM i hlt
      have HRI := hide (fun (W : World) (h : Below w8.heap.size w8 W) => Ri.later hri h)
      have HCL := hide (fun (W : World) (h : Below w8.heap.size w8 W) => (h.cell (p := ⟨b, o + i, none⟩) (World.block_lt_of_cell? _ _ hcl)).trans hcl)
      have HO2 := hide (unhide HO i hlt)
      have HNO := hide (fun (h : clT v (ln i) (L i) = false) => bAll_no (p := fun k => clT v (ln k) (L k)) hlt h)
      have HYES := hide (fun (h : clT v (ln i) (L i) = true) => show ∀ j, j < i + 1 → clT v (ln j) (L j) = true from fun j hj => by
        by_cases e : j = i
        · subst e; exact h
        · exact unhide HA j (by omega))
      clear hri
      generalize hlm : ln i = lm at *
      generalize hfi : L i = fi at *
      go_wp2_with fail
      go_loopg [6, 7] lm (fun g2 vy vk wr => ∃ k : Nat, vk = .int .i64 k ∧ vy = .bool (clT v k fi) ∧ k ≤ lm ∧ lm - k ≤ g2 ∧ Hid (Below w8.heap.size w8 wr))
      case atStart => exact ⟨0, by go_num, rfl, by omega, by omega, hide (Below.refl _ _)⟩
      case round =>
        obtain ⟨k, rfl, rfl, hk, hg2, HB2⟩ := hrel
        have hcl2 := unhide HCL wr (unhide HB2)
        by_cases hlk : k < lm
        · obtain ⟨b2, o2, hla, _, hck⟩ := (unhide HRI wr (unhide HB2)).at hlk
          subst hla
          unfold iv at hck
          have cS := hide (fun (w1 : World) (h : Rt w1 va n v) => says_any n hn v va vc (fi k) (unhide HO2 k hlk) w1 h)
          have HRV := hide (((unhide HV).later (unhide HB)).later (unhide HB2))
          have HCT := hide (clT_succ v k fi)
          generalize hy1 : clT v (k + 1) fi = y1 at *
          generalize clT v k fi = y0 at *
          generalize says v (fi k) = sy at *
          generalize fi k = l at *
          cases y0
          · rw [Bool.false_or] at HCT
            go_wp2_with (go_at_call 19; refine (unhide cS _ (unhide HRV)).mono ?_; rintro x w2 ⟨rfl, hw2⟩; rw [hw2]; clear hw2 w2)
            go_roundg (lm - (k + 1))
            case measure => omega
            case rel => exact ⟨k + 1, by go_num, by rw [hy1, unhide HCT], by omega, by omega, HB2⟩
          · rw [Bool.true_or] at HCT
            go_wp2_with fail
            go_roundg (lm - (k + 1))
            case measure => omega
            case rel => exact ⟨k + 1, by go_num, by rw [hy1, unhide HCT], by omega, by omega, HB2⟩
        · obtain rfl : k = lm := by omega
          cases hy : clT v k fi with
          | true =>
            have HA3 := hide (unhide HYES hy)
            go_wp2_with fail
            go_roundg (N - (i + 1))
            case measure => omega
            case rel => exact ⟨i + 1, by go_num, by omega, by omega, HA3, hide (bl_t (unhide HB) (unhide HB2))⟩
          | false =>
            have HE := hide (unhide HNO hy)
            go_wp2_with fail
            go_ret
            exact ⟨ret_b (unhide HE).symm, bl_t (unhide HB) (unhide HB2)⟩
    · have HE := hide (show (bAll N fun k => clT v (ln k) (L k)) = true from (bAll_iff _ _).2 fun j hj => unhide HA j (by omega))
      go_wp2
      go_ret
      exact ⟨ret_b (unhide HE).symm, unhide HB⟩
end Go.Proofs.Ytabjbppekijfiaa
