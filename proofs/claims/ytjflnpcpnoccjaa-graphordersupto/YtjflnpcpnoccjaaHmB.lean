import Derived.Test.YtjflnpcpnoccjaaHmA
import Derived.Deep.RegionLaw
namespace Go.Proofs.Ytjflnpcpnoccjaa
open Go.RowKit

def updf (f : Nat → Int) (n : Nat) (x : Int) (k : Nat) : Int := if k = n then x else f k
theorem fL_upd (f : Nat → Int) (n : Nat) (x : Int) : fL (updf f n x) (n + 1) = fL f n ++ [x] := by
  rw [fL_succ, fL_congr (f := updf f n x) (g := f) fun k hk => if_neg (by omega)]
  rw [show updf f n x n = x from if_pos rfl]
theorem own_blk {qa : Option Addr} {n c b : Nat} (e : (Value.slice qa n c).ownBlock = some b) (hq : qa = none ∨ ∃ g, qa = some ⟨g, 0, none⟩) : qa = some ⟨b, 0, none⟩ := by
  rcases hq with q | ⟨g, q⟩
  · rw [q] at e; cases e
  · rw [q] at e
    have : g = b := by simpa [Value.ownBlock] using e
    rw [q, this]
theorem Qu.none_or {Bq : Nat} {qa : Option Addr} {n c : Nat} {f : Nat → Int} {W : World} (h : Qu Bq qa n c f W) : qa = none ∨ ∃ g, qa = some ⟨g, 0, none⟩ := by
  rcases h.form with ⟨q, _⟩ | ⟨g, q, _⟩
  · exact .inl q
  · exact .inr ⟨g, q⟩
theorem asInt (x : Int) (w : World) : (Instr.typeAssert (.iface 3 (.int .i64 x)) 20 3 false).run Try.prog w = .ok (.int .i64 x) w := by kernel_rfl
/-- What a push leaves. -/
def Pu (Bq : Nat) (qa : Option Addr) (n : Nat) (f : Nat → Int) (x : Int) (W w' : World) : Prop := ∃ g c', Qu Bq (some ⟨g, 0, none⟩) (n + 1) c' (updf f n x) w' ∧ Fy (fun b => b = Bq ∨ qa = some ⟨b, 0, none⟩) W w' ∧ (qa = some ⟨g, 0, none⟩ ∨ W.heap.size ≤ g)
set_option maxRecDepth 100000 in
set_option maxHeartbeats 4000000 in
theorem qpush_any {Bq n c : Nat} {qa : Option Addr} {f : Nat → Int} {W : World} (hn : n ≤ 4194304) (h : Qu Bq qa n c f W) (x : Int) :
    Calls Try.prog 98 #[.pointer (some ⟨Bq, 0, none⟩), .iface 3 (.int .i64 x)] W fun e w' => e = .returned (.tuple #[]) ∧ Pu Bq qa n f x W w' := by
  obtain ⟨i0, hi0, hz0, hz1, hz2⟩ := info_parts infoI
  obtain ⟨c0, f0⟩ := h.cell
  obtain ⟨W1, hW1⟩ : ∃ W1, W1 = W.drew.alloc (.cells #[.int .i64 x] 3) := ⟨_, rfl⟩
  have hb1 : Below W.heap.size W W1 := by rw [hW1]; exact bl_t ((Below.refl _ W).drew) (al _ _)
  have h1 := h.later hb1
  have HOW := hide h1.own
  have HFIN := hide (fun (g c' : Nat) (w9 : World) (hown : w9.ownsRow 0 3 1 (.slice (some ⟨g, 0, none⟩) (n + 1) c') (n + 1) (tV (fL f n) ++ [.int .i64 x])) (hgrow : W1.grownBy w9 (Value.slice qa n c).ownBlock) (hat : (Value.slice qa n c).ownBlock = some g ∨ g = W1.heap.size) => show w9.cell? ⟨Bq, 0, none⟩ = some (.slice qa n c) ∧ w9.frozen? ⟨Bq, 0, none⟩ = false ∧ Pu Bq qa n f x W (w9.setCell ⟨Bq, 0, none⟩ (.slice (some ⟨g, 0, none⟩) (n + 1) c')) from by
    have hbq : ∀ b, (Value.slice qa n c).ownBlock = some b → b ≠ Bq := fun b e => by
      have e2 := own_blk e h.none_or
      rcases h1.form with ⟨q, _⟩ | ⟨g2, q, _, q2, _⟩
      · rw [q] at e2; cases e2
      · rw [q] at e2; cases e2; exact q2
    have hblk : w9.heap[Bq]? = some (.cells #[.slice qa n c] 78 (0, 0)) := (hgrow.block Bq (blk_lt h1.blk) fun e => hbq Bq e.symm rfl).trans h1.blk
    refine ⟨(cell_blk hblk 0).1, (cell_blk hblk 0).2, g, c', ⟨?_, ?_⟩, ?_, ?_⟩
    · exact set_blk hblk 0 _
    · have q : Bq ≠ g := by
        rcases hat with q | q
        · exact fun e => hbq g q e.symm
        · have := blk_lt h1.blk; omega
      have e := tV_snoc (fL f n) x
      rw [fL_upd, e]
      refine own_same hown fun b cur t hb eb => set_other _ _ _ _ _ ?_
      have : g = b := by simpa [Value.ownBlock] using eb
      omega
    · have f1 : Fy (fun b => b = Bq ∨ qa = some ⟨b, 0, none⟩) W W1 := Fy.of hb1
      have f2 : Fy (fun b => b = Bq ∨ qa = some ⟨b, 0, none⟩) W1 w9 := ⟨⟨hgrow.size, fun b hb hn => hgrow.block b hb fun e => hn (.inr (own_blk e.symm h.none_or))⟩, (Below.refl 0 W1).grown hgrow (Nat.zero_le _) (fun _ _ => Nat.zero_le _)⟩
      exact (f1.trans f2).set (.inl rfl) 0 _
    · rcases hat with q | q
      · exact .inl (own_blk q h.none_or)
      · exact .inr (by rw [q]; exact hb1.size))
  clear h h1 hb1
  have HW1 := hide hW1
  have c1 : (W.alloc (.cells #[.int .i64 x] 3)).cell? ⟨Bq, 0, none⟩ = some (.slice qa n c) := by
    rw [World.cell?_alloc_some _ _ _ (by rw [c0]; rfl)]; exact c0
  rw [hW1] at HOW HFIN
  clear hW1
  have hta := asInt x
  go_enter Try.func98, Try.ntmps98
  go_upto_region 0 with fail
  go_region_law (refine step_append_lies _ (by rfl) _ _ 76 (by rfl) 0 3 i0 (.int .i64 0) 1 8 Try.underlying76 hi0 hz0 hz1 hz2 rfl (by decide) (.slice qa n c) n (tV (fL f n)) (by rfl) (unhide HOW) ⟨_, 0, none⟩ 1 1 [.int .i64 x] (by rfl) rfl (cell_one_new _ _ _) (by simp [Value.oneCell']) (by decide) (by unfold maxLen; omega) (by omega) (by simp) (W.heap.size + 1) (by simp) ?_; intro g9 c9 w9 hown hgrow hat _; obtain ⟨k1, k2, k3⟩ := unhide HFIN g9 c9 w9 hown hgrow (hat.imp id (fun e => by simp [e])); have HK := hide k3; clear hown hgrow hat k3)
  all_goals (go_end0; exact ⟨rfl, unhide HK⟩)
end Go.Proofs.Ytjflnpcpnoccjaa

namespace Go.Proofs.Ytjflnpcpnoccjaa
open Go.RowKit

theorem Fy.then {P Q : Nat → Prop} {A B C : World} (h : Fy P A B) (k : Fy Q B C) (hq : ∀ b, b < A.heap.size → Q b → P b) : Fy P A C := ⟨⟨Nat.le_trans h.1.size k.1.size, fun b hb hn => (k.1.blk b (Nat.lt_of_lt_of_le hb h.1.size) fun q => hn (hq b hb q)).trans (h.1.blk b hb hn)⟩, h.2.trans k.2⟩
theorem fL_take (f : Nat → Int) (m : Nat) : (tV (fL f (m + 1))).take (m * 1) = tV (fL f m) := by
  rw [fL_succ]
  unfold tV
  rw [List.map_append, Nat.mul_one, List.take_append_of_le_length (by simp [fL_len])]
  exact List.take_of_length_le (by simp [fL_len])
set_option maxRecDepth 100000 in
set_option maxHeartbeats 4000000 in
theorem qpop_any {Bq g m c : Nat} {f : Nat → Int} {W : World} (hm : m ≤ 4194304) (h : Qu Bq (some ⟨g, 0, none⟩) (m + 1) c f W) :
    Calls Try.prog 97 #[.pointer (some ⟨Bq, 0, none⟩)] W fun e w' => e = .returned (.iface 3 (.int .i64 (f m))) ∧ Qu Bq (some ⟨g, 0, none⟩) m c f w' ∧ Fy (fun b => b = Bq) W w' := by
  obtain ⟨c0, f0⟩ := h.cell
  obtain ⟨c1, _⟩ := h.at (Nat.lt_succ_self m)
  have HFIN := hide (show Qu Bq (some ⟨g, 0, none⟩) m c f (W.setCell ⟨Bq, 0, none⟩ (.slice (some ⟨g, 0, none⟩) m c)) ∧ Fy (fun b => b = Bq) W (W.setCell ⟨Bq, 0, none⟩ (.slice (some ⟨g, 0, none⟩) m c)) from by
    refine ⟨⟨set_blk h.blk 0 _, ?_⟩, (Fy.of (P := fun b => b = Bq) (Below.refl _ W)).set rfl 0 _⟩
    have q := prefix_own h.own (Nat.le_succ m)
    rw [fL_take] at q
    refine own_same q fun b cur t hb eb => set_other _ _ _ _ _ ?_
    have e : g = b := by simpa [Value.ownBlock] using eb
    rcases h.form with ⟨z, _⟩ | ⟨g2, z, _, z2, _⟩
    · cases z
    · cases z; omega)
  have hc : m ≤ c := by
    rcases h.form with ⟨z, _⟩ | ⟨g2, z, _, _, z2, _⟩
    · cases z
    · omega
  have q1 : ((m + 1 : Nat) : Int) - 1 = (m : Int) := by omega
  have q2 : IntKind.i64.wrap (m : Int) = (m : Int) := IntWalk.i64_in _ (by omega)
  have q3 : (m : Int) < ((m + 1 : Nat) : Int) := by omega
  have q4 : (m : Int) ≤ (c : Int) := by omega
  clear h
  generalize f m = x at *
  go_enter Try.func97, Try.ntmps97
  go_wp2_with fail
  go_ret
  exact ⟨rfl, (unhide HFIN).1, (unhide HFIN).2⟩
set_option maxRecDepth 100000 in
set_option maxHeartbeats 4000000 in
/-- heap.Push. -/
theorem hpush_any {Bq n c : Nat} {qa : Option Addr} {f : Nat → Int} {W : World} (hn : n < 4194304) (h : Qu Bq qa n c f W) (ho : HO f n) (x : Int) :
    Calls Try.prog 66 #[.iface 75 (.pointer (some ⟨Bq, 0, none⟩)), .iface 3 (.int .i64 x)] W fun e w' => e = .returned (.tuple #[]) ∧ ∃ g c' f', Qu Bq (some ⟨g, 0, none⟩) (n + 1) c' f' w' ∧ HO f' (n + 1) ∧ (fL f' (n + 1)).Perm (fL f n ++ [x]) ∧ Fy (fun b => b = Bq ∨ qa = some ⟨b, 0, none⟩) W w' ∧ (qa = some ⟨g, 0, none⟩ ∨ W.heap.size ≤ g) := by
  have c1 := hide (qpush_any (by omega) h x)
  have m1 := mPush Bq
  have HU1 := hide (show HU (updf f n x) (n + 1) n from HU.start fun k k1 k2 => by
    unfold updf
    rw [if_neg (by omega), if_neg (by omega)]
    exact ho k k1 k2)
  have q1 : ((n + 1 : Nat) : Int) - 1 = (n : Int) := by omega
  have q2 : IntKind.i64.wrap (n : Int) = (n : Int) := IntWalk.i64_in _ (by omega)
  clear h ho
  go_enter Try.func66, Try.ntmps66
  go_upto_region 1 with (go_at_call 98; refine (unhide c1).mono ?_; rintro x1 w1 ⟨rfl, g, c2, hq, hf, hg⟩; have H1 := hide (And.intro hq (And.intro hf hg)); clear hq hf hg)
  have m2 := mLen Bq (some ⟨g, 0, none⟩) (n + 1) c2 w1 (unhide H1).1.cell.1
  have c3 := hide (up_any (by omega) (unhide H1).1 (unhide HU1) (Nat.lt_succ_self n))
  go_wp2_with (first | (go_at_call 67; refine (qlen_any _ _ _ _).mono ?_; rintro x2 w2 ⟨rfl, hw⟩; rw [hw]; clear hw w2) | (go_at_call 73; refine (unhide c3).mono ?_; rintro x3 w3 ⟨rfl, f3, hq, hh, hp, hf⟩; have H3 := hide (And.intro hq (And.intro hh (And.intro hp hf))); clear hq hh hp hf))
  go_end0
  obtain ⟨a1, a2, a3, a4⟩ := unhide H3
  obtain ⟨b1, b2, b3⟩ := unhide H1
  refine ⟨rfl, g, c2, f3, a1, a2, ?_, b2.then a4 fun b hb e => ?_, b3⟩
  · rw [← fL_upd]; exact a3
  · rcases b3 with q | q
    · exact .inr (by rw [q, e])
    · omega
set_option maxRecDepth 100000 in
set_option maxHeartbeats 4000000 in
/-- heap.Pop. -/
theorem hpop_any {Bq g m c : Nat} {f : Nat → Int} {W : World} (hm : m < 4194304) (h : Qu Bq (some ⟨g, 0, none⟩) (m + 1) c f W) (ho : HO f (m + 1)) :
    Calls Try.prog 68 #[.iface 75 (.pointer (some ⟨Bq, 0, none⟩))] W fun e w' => e = .returned (.iface 3 (.int .i64 (f 0))) ∧ ∃ f', Qu Bq (some ⟨g, 0, none⟩) m c f' w' ∧ HO f' m ∧ (f 0 :: fL f' m).Perm (fL f (m + 1)) ∧ Fy (fun b => b = Bq ∨ b = g) W w' := by
  have m1 := mLen Bq (some ⟨g, 0, none⟩) (m + 1) c W h.cell.1
  have m2 := mSwap Bq (some ⟨g, 0, none⟩) (m + 1) c W h.cell.1
  have m3 := mPop Bq
  have c1 := hide (qswap_any h (show 0 < m + 1 by omega) (Nat.lt_succ_self m))
  rw [show ((0 : Nat) : Int) = 0 from rfl] at c1
  have HD1 := hide (HD.start ho)
  have HPM := hide (fL_swf f (show 0 < m + 1 by omega) (Nat.lt_succ_self m))
  have q1 : ((m + 1 : Nat) : Int) - 1 = (m : Int) := by omega
  have q2 : IntKind.i64.wrap (m : Int) = (m : Int) := IntWalk.i64_in _ (by omega)
  clear h ho
  go_enter Try.func68, Try.ntmps68
  go_upto_region 3 with (first | (go_at_call 67; refine (qlen_any _ _ _ _).mono ?_; rintro x2 w2 ⟨rfl, hw⟩; rw [hw]; clear hw w2) | (go_at_call 100; refine (unhide c1).mono ?_; rintro x3 w3 ⟨rfl, hq, hf⟩; have H3 := hide (And.intro hq hf); clear hq hf))
  have c2 := hide (down_any (by omega) (Nat.le_succ m) (unhide H3).1 (unhide HD1))
  go_upto_region 4 with (go_at_call 74; refine (unhide c2).mono ?_; rintro x4 w4 ⟨⟨b, rfl⟩, f4, hq, hh, hp, hk, hf⟩; have H4 := hide (And.intro hq (And.intro hh (And.intro hp (And.intro hk hf)))); clear hq hh hp hk hf)
  have c3 := hide (qpop_any (by omega) (unhide H4).1)
  rw [show f4 m = f 0 from by rw [(unhide H4).2.2.2.1 m (Nat.le_refl _), swf_2]] at c3
  generalize hx : f 0 = x at *
  have HX := hide hx
  clear hx
  go_wp2_with (go_at_call 97; refine (unhide c3).mono ?_; rintro x5 w5 ⟨rfl, hq, hf⟩; have H5 := hide (And.intro hq hf); clear hq hf)
  go_ret
  obtain ⟨a1, a2⟩ := unhide H3
  obtain ⟨b1, b2, b3, b4, b5⟩ := unhide H4
  obtain ⟨d1, d2⟩ := unhide H5
  rw [unhide HX]
  refine ⟨rfl, f4, d1, b2, ?_, ((a2.trans b5).mono fun b _ e => .inr e).then d2 fun b _ e => .inl e⟩
  have e1 := unhide HPM
  rw [fL_succ, swf_2, unhide HX] at e1
  exact ((List.Perm.cons x b3).trans (List.perm_append_comm (l₁ := [x]))).trans e1
end Go.Proofs.Ytjflnpcpnoccjaa

