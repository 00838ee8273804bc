import Derived.Test.YtiibobjbcgbknaaDoorScC
import Derived.Lib.AppendStr
namespace Go.Proofs.YtiibobjbcgbknaaDoor
open Go.RowKit

theorem str_encB (l : Bs) : Lib.strCells (ba l) = encB l := rfl
theorem kept_box {W W2 : World} {base B n : Nat} {v : Value} {cs : List Value} {arr : Array Value} (hO : W.ownsRow base 5 1 v n cs) (hX : W.heap[B]? = some (.cells arr 49 (0, 0))) (hg : W.grownBy W2 v.ownBlock) : W2.heap[B]? = some (.cells arr 49 (0, 0)) := by
  refine (hg.block B (Array.getElem?_eq_some_iff.1 hX).1 fun e => ?_).trans hX
  obtain ⟨c, h1, _⟩ := ownsRow_blk hO e.symm
  rw [hX] at h1
  cases h1
theorem kept_boxA {W W2 : World} {base B n : Nat} {v : Value} {cs : List Value} {arr : Array Value} {o : Obj} (hO : W.ownsRow base 5 1 v n cs) (hX : W.heap[B]? = some (.cells arr 49 (0, 0))) (hg : (W.alloc o).grownBy W2 v.ownBlock) : W2.heap[B]? = some (.cells arr 49 (0, 0)) :=
  kept_box (hO.alloc o) ((Below.heap_alloc W o B (Array.getElem?_eq_some_iff.1 hX).1).trans hX) hg

def preT (nm a : Bs) (r : List Bs) (k : Nat) : Bs := headL nm a ++ 10 :: (r.take k).flatMap fun l => 32 :: (l ++ [10])
theorem preT_step (nm a : Bs) (r : List Bs) (k : Nat) (h : k < r.length) : preT nm a r (k + 1) = preT nm a r k ++ [32] ++ r[k] ++ [10] := by
  unfold preT
  rw [List.take_succ_eq_append_getElem h, List.flatMap_append]
  simp
theorem preT_all (nm a : Bs) (r : List Bs) (ns : List Nat) : preT nm a r r.length = fldT ⟨nm, a :: r, ns⟩ := by
  unfold preT fldT linF
  rw [List.take_length, List.flatMap_cons, List.flatMap_map]
  simp
theorem preT_le (nm a : Bs) (r : List Bs) (k : Nat) (_h : k ≤ r.length) : (preT nm a r k).length ≤ (preT nm a r r.length).length := by
  unfold preT
  rw [List.take_length]
  conv => rhs; rw [← List.take_append_drop k r, List.flatMap_append]
  simp

set_option maxRecDepth 100000 in
set_option maxHeartbeats 4000000 in
theorem appendField_yes (base : Nat) (nm a : Bs) (r : List Bs) (ns : List Nat) (b q c : Nat) (nv tv : Value) (n : Nat) (cs : List Value) (w : World) (hbw : base ≤ w.heap.size) (hb : b < base) (hcap : r.length + 1 ≤ c)
    (hC : ∀ i u, (strs (a :: r))[i]? = some u → w.cell? ⟨b, q + i, none⟩ = some u) (hO : w.ownsRow base 5 1 tv n cs) (hn : n ≤ 268435456) (hsz : (fldT ⟨nm, a :: r, ns⟩).length ≤ 268435456) (hrl : r.length ≤ 268435456) :
    Calls Tryd.prog 38 #[tv, .agg #[.string (ba nm), .slice (some ⟨b, q, none⟩) (r.length + 1) c, nv]] w fun e w' => ∃ v', e = .returned v' ∧ w'.ownsRow base 5 1 v' (n + (fldT ⟨nm, a :: r, ns⟩).length) (cs ++ encB (fldT ⟨nm, a :: r, ns⟩)) ∧ Below base w w' := by
  obtain ⟨i0, hi, hz0, hz1, hz2⟩ := info_parts info5
  rw [← preT_all] at hsz ⊢
  have h0l := preT_le nm a r 0 (Nat.zero_le _)
  have h0e : preT nm a r 0 = headL nm a ++ [10] := by simp [preT]
  rw [h0e] at h0l
  have HC := hide (fun (W : World) (hB : Below base w W) i u h => (hB.cell (p := ⟨b, q + i, none⟩) hb).trans (hC i u h))
  have HO := hide (hO.alloc (.cells #[.string (ba nm), .slice (some ⟨b, q, none⟩) (r.length + 1) c, nv] 49))
  have HX := hide (World.alloc_heap_new w (.cells #[.string (ba nm), .slice (some ⟨b, q, none⟩) (r.length + 1) c, nv] 49))
  have HBB := hide (show Below base w (w.alloc (.cells #[.string (ba nm), .slice (some ⟨b, q, none⟩) (r.length + 1) c, nv] 49)) from (Below.refl _ _).alloc hbw _)
  have hws : base ≤ (w.alloc (.cells #[.string (ba nm), .slice (some ⟨b, q, none⟩) (r.length + 1) c, nv] 49)).heap.size := by simp; omega
  have c0 : (ba nm).size = nm.length := ba_size nm
  have c1 : (ba a).size = a.length := ba_size a
  clear hC hO
  by_cases ha : a = []
  · subst ha
    have hne : (ba []).toList.isEmpty = true := by rw [ba_tl]; rfl
    have hhl : headL nm [] = nm ++ [58] := rfl
    rw [hhl] at h0l h0e
    simp only [List.length_append, List.length_cons, List.length_nil] at h0l
    have hfin := hide (show cs ++ Lib.strCells (ba nm) ++ [.int .u8 58] ++ [.int .u8 10] = cs ++ encB (preT nm [] r 0) by
      rw [h0e, str_encB]
      simp [encB])
    have hlen : n + nm.length + 1 + 1 = n + (preT nm [] r 0).length := by rw [h0e]; simp; omega
    rw [← c0] at hlen
    have HLEN := hide hlen
    clear hlen h0e hhl
    generalize ba nm = snm at *
    go_enter Tryd.func38, Tryd.ntmps38
    go_wp2_with (first | (at_builtin; refine Lib.wpList_append_own_string _ rfl _ _ 22 9 rfl base 5 i0 Tryd.underlying22 Tryd.underlying9 hi hz0 hz1 hz2 _ _ _ rfl (unhide HO) _ rfl (by unfold maxLen; omega) (by omega) (Nat.le_trans hbw (unhide HBB).size) ?_; intro v2 w2 hown2 hgrow2 _; replace HX := hide (kept_box (unhide HO) (unhide HX) hgrow2); replace HBB := hide ((unhide HBB).grown hgrow2 (Nat.le_trans hbw (unhide HBB).size) (fun j e => ((unhide HO).lt j e).1)); replace HO := hide hown2; have d1 := (cell_blk (unhide HX) 1).1; have d0 : w2.cell? ⟨b, q, none⟩ = some (.string (ba [])) := unhide HC w2 (unhide HBB) 0 _ rfl; clear hown2 hgrow2) | (at_builtin; go_must (refine wpList_append_own _ rfl _ _ 22 rfl base 5 i0 (.int .u8 0) 1 1 Tryd.underlying22 hi hz0 hz1 hz2 rfl (by decide) _ _ _ rfl ((unhide HO).alloc _) ⟨_, 0, none⟩ 1 1 [_] rfl rfl (cell_one_new _ _ _) (by simp [Value.oneCell']) (by unfold maxLen; omega) (by omega) (Nat.le_trans (Nat.le_trans hbw (unhide HBB).size) (by simp)) ?_); intro v2 w2 hown2 hgrow2 _; replace HX := hide (kept_boxA (unhide HO) (unhide HX) hgrow2); replace HBB := hide (((unhide HBB).alloc (Nat.le_trans hbw (unhide HBB).size) _).grown hgrow2 (Nat.le_trans (Nat.le_trans hbw (unhide HBB).size) (by simp)) (fun j e => ((unhide HO).lt j e).1)); replace HO := hide hown2; have d1 := (cell_blk (unhide HX) 1).1; have d0 : w2.cell? ⟨b, q, none⟩ = some (.string (ba [])) := unhide HC w2 (unhide HBB) 0 _ rfl; clear hown2 hgrow2))
    all_goals
      have HO1 := hide (show w2.ownsRow base 5 1 v2 (n + (preT nm [] r 0).length) (cs ++ encB (preT nm [] r 0)) by
        rw [← unhide HLEN, ← unhide hfin]
        exact unhide HO)
      clear HO hfin HLEN h0l
      clear d0 d1
      go_loopw [0, 35] (fun lv iv wr => ∃ (k : Nat) (v3 : Value), k ≤ r.length ∧ iv = .int .i64 k ∧ lv = v3 ∧ Hid (wr.ownsRow base 5 1 v3 (n + (preT nm [] r k).length) (cs ++ encB (preT nm [] r k))) ∧ Hid (wr.heap[w.heap.size]? = some (.cells #[.string snm, .slice (some ⟨b, q, none⟩) (r.length + 1) c, nv] 49 (0, 0))) ∧ Hid (Below base w wr)) (fun _ iv _ => r.length - (intOf iv).toNat)
      case atStart => exact ⟨0, v2, Nat.zero_le _, rfl, rfl, HO1, HX, HBB⟩
      case round =>
        clear HO1 HX HBB
        obtain ⟨k, v3, hk, rfl, rfl, HO, HX, HBB⟩ := hrel
        by_cases hlt : k < r.length
        · first
          | (exfalso; omega)
          | (have dk : wr.cell? ⟨b, q + 1 + k, none⟩ = some (.string (ba r[k])) := by
               rw [show q + 1 + k = q + (k + 1) by omega]
               exact unhide HC wr (unhide HBB) (k + 1) _ (by simp [strs, hlt])
             have hst := preT_step nm [] r k hlt
             have hle := preT_le nm [] r (k + 1) hlt
             have hsl : (preT nm [] r (k + 1)).length = (preT nm [] r k).length + 1 + r[k].length + 1 := by rw [hst]; simp; omega
             have hfin := hide (show cs ++ encB (preT nm [] r k) ++ [.int .u8 32] ++ Lib.strCells (ba r[k]) ++ [.int .u8 10] = cs ++ encB (preT nm [] r (k + 1)) by
               rw [hst, str_encB]
               simp [encB])
             have hls : n + (preT nm [] r k).length + 1 + r[k].length + 1 = n + (preT nm [] r (k + 1)).length := by omega
             have HLS := hide hls
             have ck : (ba r[k]).size = r[k].length := ba_size _
             clear hst hls
             generalize ba r[k] = u at *
             go_wp2_with (first | (at_builtin; refine Lib.wpList_append_own_string _ rfl _ _ 22 9 rfl base 5 i0 Tryd.underlying22 Tryd.underlying9 hi hz0 hz1 hz2 _ _ _ rfl (unhide HO) _ rfl (by unfold maxLen; omega) (by omega) (Nat.le_trans hbw (unhide HBB).size) ?_; intro v2 w2 hown2 hgrow2 _; replace HX := hide (kept_box (unhide HO) (unhide HX) hgrow2); replace HBB := hide ((unhide HBB).grown hgrow2 (Nat.le_trans hbw (unhide HBB).size) (fun j e => ((unhide HO).lt j e).1)); replace HO := hide hown2; clear hown2 hgrow2) | (at_builtin; go_must (refine wpList_append_own _ rfl _ _ 22 rfl base 5 i0 (.int .u8 0) 1 1 Tryd.underlying22 hi hz0 hz1 hz2 rfl (by decide) _ _ _ rfl ((unhide HO).alloc _) ⟨_, 0, none⟩ 1 1 [_] rfl rfl (cell_one_new _ _ _) (by simp [Value.oneCell']) (by unfold maxLen; omega) (by omega) (Nat.le_trans (Nat.le_trans hbw (unhide HBB).size) (by simp)) ?_); intro v2 w2 hown2 hgrow2 _; replace HX := hide (kept_boxA (unhide HO) (unhide HX) hgrow2); replace HBB := hide (((unhide HBB).alloc (Nat.le_trans hbw (unhide HBB).size) _).grown hgrow2 (Nat.le_trans (Nat.le_trans hbw (unhide HBB).size) (by simp)) (fun j e => ((unhide HO).lt j e).1)); replace HO := hide hown2; clear hown2 hgrow2))
             go_roundw
             case rel => exact ⟨k + 1, v2, by omega, by go_num, rfl, hide (by rw [← unhide HLS, ← unhide hfin, ← ck]; exact unhide HO), HX, HBB⟩
             case measure => simp [intOf]; omega)
        · obtain rfl : k = r.length := by omega
          go_wp2
          go_ret
          exact ⟨_, rfl, unhide HO, unhide HBB⟩
  · have hne : (ba a).toList.isEmpty = false := by
      rw [ba_tl]
      cases a with
      | nil => exact absurd rfl ha
      | cons x y => rfl
    have hhl : headL nm a = nm ++ 58 :: 32 :: a := by unfold headL; rw [if_neg ha]
    rw [hhl] at h0l h0e
    simp only [List.length_append, List.length_cons, List.length_nil] at h0l
    have hfin := hide (show cs ++ Lib.strCells (ba nm) ++ [.int .u8 58] ++ [.int .u8 32] ++ Lib.strCells (ba a) ++ [.int .u8 10] = cs ++ encB (preT nm a r 0) by
      rw [h0e, str_encB, str_encB]
      simp [encB])
    have hlen : n + nm.length + 1 + 1 + a.length + 1 = n + (preT nm a r 0).length := by rw [h0e]; simp; omega
    rw [← c0, ← c1] at hlen
    have HLEN := hide hlen
    clear hlen h0e hhl
    generalize ba nm = snm at *
    go_enter Tryd.func38, Tryd.ntmps38
    go_wp2_with (first | (at_builtin; refine Lib.wpList_append_own_string _ rfl _ _ 22 9 rfl base 5 i0 Tryd.underlying22 Tryd.underlying9 hi hz0 hz1 hz2 _ _ _ rfl (unhide HO) _ rfl (by unfold maxLen; omega) (by omega) (Nat.le_trans hbw (unhide HBB).size) ?_; intro v2 w2 hown2 hgrow2 _; replace HX := hide (kept_box (unhide HO) (unhide HX) hgrow2); replace HBB := hide ((unhide HBB).grown hgrow2 (Nat.le_trans hbw (unhide HBB).size) (fun j e => ((unhide HO).lt j e).1)); replace HO := hide hown2; have d1 := (cell_blk (unhide HX) 1).1; have d0 : w2.cell? ⟨b, q, none⟩ = some (.string (ba a)) := unhide HC w2 (unhide HBB) 0 _ rfl; clear hown2 hgrow2) | (at_builtin; go_must (refine wpList_append_own _ rfl _ _ 22 rfl base 5 i0 (.int .u8 0) 1 1 Tryd.underlying22 hi hz0 hz1 hz2 rfl (by decide) _ _ _ rfl ((unhide HO).alloc _) ⟨_, 0, none⟩ 1 1 [_] rfl rfl (cell_one_new _ _ _) (by simp [Value.oneCell']) (by unfold maxLen; omega) (by omega) (Nat.le_trans (Nat.le_trans hbw (unhide HBB).size) (by simp)) ?_); intro v2 w2 hown2 hgrow2 _; replace HX := hide (kept_boxA (unhide HO) (unhide HX) hgrow2); replace HBB := hide (((unhide HBB).alloc (Nat.le_trans hbw (unhide HBB).size) _).grown hgrow2 (Nat.le_trans (Nat.le_trans hbw (unhide HBB).size) (by simp)) (fun j e => ((unhide HO).lt j e).1)); replace HO := hide hown2; have d1 := (cell_blk (unhide HX) 1).1; have d0 : w2.cell? ⟨b, q, none⟩ = some (.string (ba a)) := unhide HC w2 (unhide HBB) 0 _ rfl; clear hown2 hgrow2))
    all_goals
      have HO1 := hide (show w2.ownsRow base 5 1 v2 (n + (preT nm a r 0).length) (cs ++ encB (preT nm a r 0)) by
        rw [← unhide HLEN, ← unhide hfin]
        exact unhide HO)
      clear HO hfin HLEN h0l
      clear d0 d1
      go_loopw [0, 35] (fun lv iv wr => ∃ (k : Nat) (v3 : Value), k ≤ r.length ∧ iv = .int .i64 k ∧ lv = v3 ∧ Hid (wr.ownsRow base 5 1 v3 (n + (preT nm a r k).length) (cs ++ encB (preT nm a r k))) ∧ Hid (wr.heap[w.heap.size]? = some (.cells #[.string snm, .slice (some ⟨b, q, none⟩) (r.length + 1) c, nv] 49 (0, 0))) ∧ Hid (Below base w wr)) (fun _ iv _ => r.length - (intOf iv).toNat)
      case atStart => exact ⟨0, v2, Nat.zero_le _, rfl, rfl, HO1, HX, HBB⟩
      case round =>
        clear HO1 HX HBB
        obtain ⟨k, v3, hk, rfl, rfl, HO, HX, HBB⟩ := hrel
        by_cases hlt : k < r.length
        · first
          | (exfalso; omega)
          | (have dk : wr.cell? ⟨b, q + 1 + k, none⟩ = some (.string (ba r[k])) := by
               rw [show q + 1 + k = q + (k + 1) by omega]
               exact unhide HC wr (unhide HBB) (k + 1) _ (by simp [strs, hlt])
             have hst := preT_step nm a r k hlt
             have hle := preT_le nm a r (k + 1) hlt
             have hsl : (preT nm a r (k + 1)).length = (preT nm a r k).length + 1 + r[k].length + 1 := by rw [hst]; simp; omega
             have hfin := hide (show cs ++ encB (preT nm a r k) ++ [.int .u8 32] ++ Lib.strCells (ba r[k]) ++ [.int .u8 10] = cs ++ encB (preT nm a r (k + 1)) by
               rw [hst, str_encB]
               simp [encB])
             have hls : n + (preT nm a r k).length + 1 + r[k].length + 1 = n + (preT nm a r (k + 1)).length := by omega
             have HLS := hide hls
             have ck : (ba r[k]).size = r[k].length := ba_size _
             clear hst hls
             generalize ba r[k] = u at *
             go_wp2_with (first | (at_builtin; refine Lib.wpList_append_own_string _ rfl _ _ 22 9 rfl base 5 i0 Tryd.underlying22 Tryd.underlying9 hi hz0 hz1 hz2 _ _ _ rfl (unhide HO) _ rfl (by unfold maxLen; omega) (by omega) (Nat.le_trans hbw (unhide HBB).size) ?_; intro v2 w2 hown2 hgrow2 _; replace HX := hide (kept_box (unhide HO) (unhide HX) hgrow2); replace HBB := hide ((unhide HBB).grown hgrow2 (Nat.le_trans hbw (unhide HBB).size) (fun j e => ((unhide HO).lt j e).1)); replace HO := hide hown2; clear hown2 hgrow2) | (at_builtin; go_must (refine wpList_append_own _ rfl _ _ 22 rfl base 5 i0 (.int .u8 0) 1 1 Tryd.underlying22 hi hz0 hz1 hz2 rfl (by decide) _ _ _ rfl ((unhide HO).alloc _) ⟨_, 0, none⟩ 1 1 [_] rfl rfl (cell_one_new _ _ _) (by simp [Value.oneCell']) (by unfold maxLen; omega) (by omega) (Nat.le_trans (Nat.le_trans hbw (unhide HBB).size) (by simp)) ?_); intro v2 w2 hown2 hgrow2 _; replace HX := hide (kept_boxA (unhide HO) (unhide HX) hgrow2); replace HBB := hide (((unhide HBB).alloc (Nat.le_trans hbw (unhide HBB).size) _).grown hgrow2 (Nat.le_trans (Nat.le_trans hbw (unhide HBB).size) (by simp)) (fun j e => ((unhide HO).lt j e).1)); replace HO := hide hown2; clear hown2 hgrow2))
             go_roundw
             case rel => exact ⟨k + 1, v2, by omega, by go_num, rfl, hide (by rw [← unhide HLS, ← unhide hfin, ← ck]; exact unhide HO), HX, HBB⟩
             case measure => simp [intOf]; omega)
        · obtain rfl : k = r.length := by omega
          go_wp2
          go_ret
          exact ⟨_, rfl, unhide HO, unhide HBB⟩

end Go.Proofs.YtiibobjbcgbknaaDoor
