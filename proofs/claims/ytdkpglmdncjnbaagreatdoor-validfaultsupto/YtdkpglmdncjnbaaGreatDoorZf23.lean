import Derived.Test.YtdkpglmdncjnbaaGreatDoorZf22
import Derived.Laws.AppendOwnNone
namespace Go.Proofs.YtdkpglmdncjnbaaGreatDoor
open Go.RowKit Go.Maps Go.Lib
theorem grow_any (n : Nat) (hn : n ≤ 549755813888) (w : World) : Calls Tryz.prog 78 #[.slice none 0 0, .int .i64 (n : Int)] w fun e w' => ∃ v, e = .returned v ∧ w'.ownsRow w.heap.size 31 6 v 0 [] ∧ RowKit.Below w.heap.size w w' := by
 obtain ⟨i0, hi, hz0, hz1, hz2⟩ := info_parts2 infoFt
 by_cases h0 : n = 0
 ·subst h0
  refine Calls.mono (Any8.slices_Grow_room Tryz.growF none 0 0 0 w (by omega) (by omega) (by omega) (by omega)) ?_
  rintro e w' ⟨rfl, rfl⟩
  exact ⟨_, rfl, ⟨rfl, .inl ⟨rfl, rfl⟩⟩, Below.refl _ _⟩
 ·refine Calls.mono (Any8.slices_Grow_grow Tryz.growF i0 _ hi hz0 (by rw [hz1]; omega) none 0 0 n [] w (by omega) (by omega) (by rw [hz2]; omega) (by omega) (by simp) (fun _ => rfl) (fun a e => by cases e)) ?_
  rintro e w' ⟨rfl, rfl⟩
  have hG1 := grownCap_ge w (0 + n) 0 (Tryz.growF_ren.t 25)
  have hG2 := grownCap_le_maxLen w (0 + n) 0 (Tryz.growF_ren.t 25) (by unfold maxLen; omega)
  have hG2 : grownCap w (0 + n) 0 (Tryz.growF_ren.t 25) ≤ maxLen := hG2
  refine ⟨_, rfl, ⟨rfl, .inr ⟨w.heap.size, _, _, rfl, Nat.le_refl _, World.alloc_heap_new w.drew _, Nat.zero_le _, hG2, ?_, by simp⟩⟩, ?_⟩
  ·rw [Array.size_append, Array.size_append, size_zeroCells, size_zeroCells]
   show 0 + (0 + n - 0) * 6 + (grownCap w (0 + n) 0 (Tryz.growF_ren.t 25) - (0 + n)) * 6 = grownCap w (0 + n) 0 (Tryz.growF_ren.t 25) * 6
   omega
  ·exact bl_t ((Below.refl _ w).drew) ((Below.refl _ w.drew).alloc (Nat.le_refl _) _)
def totL (ls : List (List Ft)) : Nat := (ls.map List.length).sum
theorem totL_take (ls : List (List Ft)) (j : Nat) : totL (ls.take j) ≤ totL ls := sum_take_le _ _ _
theorem totL_succ {ls : List (List Ft)} {j : Nat} {l : List Ft} (h : ls[j]? = some l) : totL (ls.take (j + 1)) = totL (ls.take j) + l.length := by
 unfold totL
 rw [List.take_add_one, h, List.map_append, List.sum_append]
 simp
theorem flat_succ {ls : List (List Ft)} {j : Nat} {l : List Ft} (h : ls[j]? = some l) : (ls.take (j + 1)).flatten = (ls.take j).flatten ++ l := by
 rw [List.take_add_one, h, List.flatten_append]
 simp
theorem flat_lenF (ls : List (List Ft)) : ls.flatten.length = totL ls := by unfold totL; rw [List.length_flatten]
theorem Fs.more {W wr w9 : World} {s v' : Value} {l m : List Ft} (h : Fs W wr s l) (hown : w9.ownsRow W.heap.size 31 6 v' (l.length + m.length) (ftC l ++ ftC m)) (hg : wr.grownBy w9 s.ownBlock) : Fs W w9 v' (l ++ m) := by
 refine ⟨?_, h.bw.grown hg ?_ fun j e => (World.ownsRow.lt h.row j e).1⟩
 ·rw [List.length_append, ftC_app]
  exact hown
 ·exact h.bw.size
theorem one_ftC (l : List Ft) : ∀ u ∈ ftC l, u.oneCell' = true := fun u hu => by
 unfold ftC at hu
 obtain ⟨f, _, h2⟩ := List.mem_flatMap.1 hu
 exact one_ft f u h2
set_option maxRecDepth 100000 in
set_option maxHeartbeats 8000000 in
theorem concat_any {w : World} {B : Nat} {hs : List Hd} {ls : List (List Ft)} (hlen : ls.length = hs.length) (hB : w.heap[B]? = some (.cells (hs.map hv).toArray 24 (0, 0))) (hrow : ∀ (i : Nat) (h : Hd) (l : List Ft), hs[i]? = some h → ls[i]? = some l → ∃ lo, w.ownsRow lo 31 6 (hv h) l.length (ftC l)) (hn : hs.length ≤ 1000) (htot : totL ls ≤ 549755813888) :
 Calls Tryz.prog 57 #[.slice (some ⟨B, 0, none⟩) hs.length hs.length] w fun e w' => ∃ r, e = .returned r ∧ w'.ownsRow w.heap.size 31 6 r ls.flatten.length (ftC ls.flatten) ∧ RowKit.Below w.heap.size w w' := by
 obtain ⟨i0, hi, hz0, hz1, hz2⟩ := info_parts2 infoFt
 have HAT := hide (show ∀ X, RowKit.Below w.heap.size w X → ∀ j, j < hs.length → ∃ (h : Hd) (l : List Ft), hs[j]? = some h ∧ ls[j]? = some l ∧ X.cell? ⟨B, j, none⟩ = some (.slice h.a h.n h.c) ∧ h.n = l.length ∧ (h.a = none → l = [] ∧ h.c = 0) ∧ ∀ ad, h.a = some ad → ∀ k u, (ftC l)[k]? = some u → X.cell? (ad.add k) = some u from fun X hX j hj => by
  have e1 : hs[j]? = some hs[j] := List.getElem?_eq_getElem hj
  have e2 : ls[j]? = some ls[j] := List.getElem?_eq_getElem (by omega)
  obtain ⟨lo, hr⟩ := hrow j _ _ e1 e2
  refine ⟨_, _, e1, e2, ?_, ?_, ?_, ?_⟩
  ·rw [(hX.cell (p := ⟨B, j, none⟩) (blk_lt hB)), (cell_blk hB j).1, List.getElem?_toArray, List.getElem?_map, e1]
   rfl
  ·rcases hr.2 with ⟨q, q2⟩ | ⟨g, cap, cur, q, _⟩
   ·unfold hv at q; injection q with _ q _; rw [q, q2]
   ·unfold hv at q; injection q with _ q _
  ·intro ea
   rcases hr.2 with ⟨q, q2⟩ | ⟨g, cap, cur, q, _⟩
   ·unfold hv at q
    injection q with _ _ q
    exact ⟨List.length_eq_zero_iff.1 q2, q⟩
   ·unfold hv at q; rw [ea] at q; cases q
  ·intro ad ea k u hu
   rcases hr.2 with ⟨q, q2⟩ | ⟨g, cap, cur, q, _, q3, _⟩
   ·unfold hv at q; rw [ea] at q; cases q
   ·have hc := hr.cells (g := g) (by rw [q]; rfl) k u hu
    unfold hv at q
    rw [ea] at q
    injection q with q _ _
    injection q with q
    subst q
    rw [Addr.add_mid, Nat.zero_add] at hc ⊢
    exact (hX.cell (p := ⟨g, k, none⟩) (blk_lt q3)).trans hc)
 obtain ⟨N, hN⟩ : ∃ N, N = hs.length := ⟨_, rfl⟩
 rw [← hN] at hn hlen HAT ⊢
 have HLN := hide hlen
 have HT := hide htot
 have HTT := hide (fun j => Nat.le_trans (totL_take ls j) htot)
 clear hB hrow hlen hN htot
 have HA0 := hide (unhide HAT w (Below.refl _ _))
 go_enter Tryz.func57, Tryz.ntmps57
 go_wp2_with fail
 go_loop [3, 11] (fun sv jv => ∃ j : Nat, jv = .int .i64 j ∧ j ≤ N ∧ sv = .int .i64 (totL (ls.take j) : Nat)) (fun _ jv => N - (intOf jv).toNat)
 case atStart => exact ⟨0, rfl, Nat.zero_le _, rfl⟩
 case round =>
  obtain ⟨j, rfl, hjle, rfl⟩ := hrel
  by_cases hlt : j < N
  ·have hlt2 : (j : Int) < (N : Int) := by omega
   obtain ⟨h, l, e1, e2, c0, hnl, _, _⟩ := unhide HA0 j hlt
   have hts := totL_succ e2
   have htb := unhide HTT (j + 1)
   rw [hts] at htb
   rw [hnl] at c0
   have hw : wrap64 ((totL (ls.take j) : Int) + (l.length : Int)) = ((totL (ls.take j) + l.length : Nat) : Int) := by unfold wrap64; omega
   have hneg : ¬ (((totL (ls.take j) + l.length : Nat) : Int) < 0) := by omega
   have HTS := hide hts
   clear e1 e2 hnl hts
   go_wp2_with fail
   go_round
   case rel => exact ⟨j + 1, by go_num, by omega, by rw [unhide HTS]; simp⟩
   case measure => simp [intOf]; omega
  ·obtain rfl : j = N := by omega
   have hTl := unhide HTT j
   have CG := hide (grow_any (totL (ls.take j)) hTl w)
   clear HA0
   go_wp2_with (go_at_call 78; refine (unhide CG).mono ?_; rintro e w2 ⟨v2, rfl, hr2, hb2⟩; have HF2 := hide (show Fs w w2 v2 ((ls.take 0).flatten) from ⟨hr2, hb2⟩); clear hr2 hb2 CG)
   go_loopw [6, 27] (fun sv kv wr => ∃ k : Nat, kv = .int .i64 k ∧ k ≤ j ∧ Hid (Fs w wr sv (ls.take k).flatten)) (fun _ kv _ => j - (intOf kv).toNat)
   case atStart => exact ⟨0, rfl, Nat.zero_le _, HF2⟩
   case round =>
    clear HF2
    obtain ⟨k, rfl, hkle, HF⟩ := hrel
    have hf := unhide HF
    by_cases hlk : k < j
    ·have hlk2 : (k : Int) < (j : Int) := by omega
     obtain ⟨h, l, e1, e2, c0, hnl, hnil, hnw⟩ := unhide HAT wr hf.bw k hlk
     have hE := flat_succ e2
     have htb := unhide HTT (k + 1)
     have hL1 : (ls.take k).flatten.length + l.length ≤ 549755813888 := by
      rw [← List.length_append, ← hE, flat_lenF]
      exact htb
     have HE := hide hE
     have hbz := hf.bw.size
     rw [hnl] at c0
     clear e1 e2 hE htb hnl
     obtain ⟨ha, hn9, hc9⟩ := h
     simp only at c0 hnil hnw
     generalize (ls.take k).flatten = m at *
     cases ha with
     | none =>
       obtain ⟨hl0, rfl⟩ := hnil rfl
       subst hl0
       have HE2 := hide (show (ls.take (k + 1)).flatten = m from by rw [unhide HE, List.append_nil])
       have c00 : wr.cell? ⟨B, k, none⟩ = some (.slice none 0 0) := c0
       clear c0 hnw hnil HE
       go_wp2_with (at_builtin; go_must (refine wpList_append_own_none rfl _ _ 24 rfl w.heap.size 31 i0 6 Tryz.underlying24 hi _ _ _ rfl hf.row rfl ?_))
       go_roundw
       case rel => exact ⟨k + 1, by go_num, by omega, by rw [unhide HE2]; exact HF⟩
       case measure => simp [intOf]; omega
     | some ad =>
       have HNW := hide (hnw ad rfl)
       clear hnw hnil
       go_wp2_with (at_builtin; go_must (refine wpList_append_own _ rfl _ _ 24 rfl w.heap.size 31 i0 (.agg #[.int .i64 0, .string ⟨#[]⟩, .string ⟨#[]⟩, .int .i64 0, .string ⟨#[]⟩, .string ⟨#[]⟩]) 6 80 Tryz.underlying24 hi hz0 hz1 hz2 rfl (by decide) _ _ _ rfl hf.row ad l.length hc9 (ftC l) rfl (ftC_len l) (unhide HNW) (one_ftC l) (by unfold maxLen; omega) (by omega) hbz ?_); intro v' w9 hown hgrow _; have HF9 := hide (hf.more hown hgrow); clear hown hgrow)
       go_roundw
       case rel => exact ⟨k + 1, by go_num, by omega, by rw [unhide HE]; exact HF9⟩
       case measure => simp [intOf]; omega
    ·obtain rfl : k = j := by omega
     go_wp2_with fail
     go_ret
     refine ⟨_, rfl, ?_, hf.bw⟩
     have := hf.row
     rw [← unhide HLN, List.take_length] at this
     exact this
end Go.Proofs.YtdkpglmdncjnbaaGreatDoor
