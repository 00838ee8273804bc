import Derived.Test.YtjflnpcpnoccjaaHmB
import Derived.Test.YtjflnpcpnoccjaaHmC
import Derived.Test.YtjflnpcpnoccjaaTkC
import Derived.Test.YtjflnpcpnoccjaaGrX
import Derived.Test.YtjflnpcpnoccjaaTmE
namespace Go.Proofs.Ytjflnpcpnoccjaa
open Go.RowKit Go.Shelf

/-- WHO STANDS IN THE QUEUE, each once. -/
def Qs (f : Nat → Int) (n : Nat) (S : Nat → Prop) : Prop := (fL f n).Nodup ∧ ∀ y : Int, y ∈ fL f n ↔ ∃ x : Nat, y = (x : Int) ∧ S x
theorem Qs.congr {f : Nat → Int} {n : Nat} {S T : Nat → Prop} (h : Qs f n S) (e : ∀ x, S x ↔ T x) : Qs f n T := ⟨h.1, fun y => (h.2 y).trans ⟨fun ⟨x, a, b⟩ => ⟨x, a, (e x).1 b⟩, fun ⟨x, a, b⟩ => ⟨x, a, (e x).2 b⟩⟩⟩
theorem Qs.none (f : Nat → Int) : Qs f 0 fun _ => False := ⟨List.nodup_nil, fun y => ⟨fun h => absurd h (by simp [fL]), fun ⟨_, _, h⟩ => h.elim⟩⟩
theorem Qs.push {f f2 : Nat → Int} {n x : Nat} {S : Nat → Prop} (h : Qs f n S) (hp : (fL f2 (n + 1)).Perm (fL f n ++ [(x : Int)])) (hx : ¬ S x) : Qs f2 (n + 1) fun y => S y ∨ y = x := by
  refine ⟨hp.nodup_iff.2 ?_, fun y => hp.mem_iff.trans ?_⟩
  · rw [List.nodup_append]
    refine ⟨h.1, List.nodup_cons.2 ⟨List.not_mem_nil, List.nodup_nil⟩, fun a ha b hb e => ?_⟩
    rw [List.mem_singleton.1 hb] at e
    subst e
    obtain ⟨z, e, hz⟩ := (h.2 _).1 ha
    have : z = x := by omega
    subst this
    exact hx hz
  · rw [List.mem_append, List.mem_singleton, h.2]
    constructor
    · rintro (⟨z, e, hz⟩ | e)
      · exact ⟨z, e, .inl hz⟩
      · exact ⟨x, e, .inr rfl⟩
    · rintro ⟨z, e, hz | hz⟩
      · exact .inl ⟨z, e, hz⟩
      · exact .inr (by rw [e, hz])
theorem Qs.pop {f f2 : Nat → Int} {m : Nat} {S : Nat → Prop} (h : Qs f (m + 1) S) (ho : HO f (m + 1)) (hp : (f 0 :: fL f2 m).Perm (fL f (m + 1))) : ∃ u : Nat, f 0 = (u : Int) ∧ S u ∧ (∀ y, S y → u ≤ y) ∧ Qs f2 m fun y => S y ∧ y ≠ u := by
  have h0 : f 0 ∈ fL f (m + 1) := hp.mem_iff.1 List.mem_cons_self
  obtain ⟨u, e, hu⟩ := (h.2 _).1 h0
  have hnd := hp.nodup_iff.2 h.1
  obtain ⟨n1, n2⟩ := List.nodup_cons.1 hnd
  refine ⟨u, e, hu, fun y hy => ?_, n2, fun y => ?_⟩
  · obtain ⟨k, hk, ek⟩ := List.mem_map.1 ((h.2 (y : Int)).2 ⟨y, rfl, hy⟩)
    have := ho.min k (List.mem_range.1 hk)
    omega
  · constructor
    · intro hy
      obtain ⟨x, ex, hx⟩ := (h.2 y).1 (hp.mem_iff.1 (List.mem_cons_of_mem _ hy))
      refine ⟨x, ex, hx, fun q => n1 ?_⟩
      rw [e, ← q, ← ex]
      exact hy
    · rintro ⟨x, ex, hx, hne⟩
      rcases List.mem_cons.1 (hp.mem_iff.2 ((h.2 y).2 ⟨x, ex, hx⟩)) with q | q
      · exact absurd (show x = u by omega) hne
      · exact q
theorem Qs.len {f : Nat → Int} {n N : Nat} {S : Nat → Prop} (h : Qs f n S) (hS : ∀ x, S x → x < N) : n ≤ N := by
  have hl := nodup_len N ((fL f n).map Int.toNat) (by
    rw [List.Nodup, List.pairwise_map]
    refine List.Pairwise.imp_of_mem (fun ha hb hne e => ?_) h.1
    obtain ⟨x, ex, _⟩ := (h.2 _).1 ha
    obtain ⟨y, ey, _⟩ := (h.2 _).1 hb
    have e2 : x = y := by rw [ex, ey] at e; simpa using e
    exact hne (by rw [ex, ey, e2])) (fun x hx => by
    obtain ⟨y, hy, e⟩ := List.mem_map.1 hx
    obtain ⟨z, ez, hz⟩ := (h.2 _).1 hy
    rw [ez] at e
    have : z = x := by simpa using e
    rw [← this]
    exact hS z hz)
  rwa [List.length_map, fL_len] at hl
theorem Qs.empty {f : Nat → Int} {S : Nat → Prop} (h : Qs f 0 S) (x : Nat) : ¬ S x := fun hx => absurd ((h.2 (x : Int)).2 ⟨x, rfl, hx⟩) (by simp [fL])
/-- WHAT ordered HOLDS. -/
structure Ob (w1 : World) (D Bx Bw Bq N : Nat) (wv : Nat → Int) (qa : Option Addr) (n c : Nat) (f : Nat → Int) (W : World) : Prop where
  box : W.heap[Bx]? = some (.cells #[.slice (some ⟨Bw, 0, none⟩) N N] 23 (0, 0))
  wt : Mv Bw N 3 (iv wv) W
  qu : Qu Bq qa n c f W
  ho : HO f n
  ne : qa ≠ some ⟨Bw, 0, none⟩
  low : w1.heap.size ≤ Bx ∧ w1.heap.size ≤ Bw ∧ w1.heap.size ≤ Bq ∧ ∀ g, qa = some ⟨g, 0, none⟩ → w1.heap.size ≤ g
  bel : Below w1.heap.size w1 W
  df : W.heap[D]? = some (.deferred (some []))
theorem Ob.neq {w1 : World} {D Bx Bw Bq N : Nat} {wv : Nat → Int} {qa : Option Addr} {n c : Nat} {f : Nat → Int} {W : World} (h : Ob w1 D Bx Bw Bq N wv qa n c f W) : Bx ≠ Bq ∧ Bx ≠ Bw ∧ Bw ≠ Bq ∧ (∀ g, qa = some ⟨g, 0, none⟩ → g ≠ Bx ∧ g ≠ Bq ∧ g ≠ Bw) ∧ D ≠ Bq ∧ D ≠ Bw ∧ (∀ g, qa = some ⟨g, 0, none⟩ → g ≠ D) := by
  obtain ⟨cw, w1, _⟩ := h.wt
  have hdc : ∀ b cur (t : TypeId), W.heap[b]? = some (.cells cur t (0, 0)) → D ≠ b := fun b cur t hb e => by
    have := h.df
    rw [e, hb] at this
    cases this
  have hgr : ∀ g, qa = some ⟨g, 0, none⟩ → ∃ cur, W.heap[g]? = some (.cells cur 3 (0, 0)) := fun g e => by
    rcases h.qu.own.2 with ⟨q, _⟩ | ⟨g2, cap, cur, q1, _, q3, _⟩
    · injection q with q _ _
      rw [q] at e; cases e
    · cases q1
      cases e
      exact ⟨cur, q3⟩
  refine ⟨fun e => blk_ne (by decide) h.box h.qu.blk e.symm, fun e => blk_ne (by decide) h.box w1 e.symm, fun e => blk_ne (by decide) w1 h.qu.blk e.symm, fun g e => ?_, hdc _ _ _ h.qu.blk, hdc _ _ _ w1, fun g e q => ?_⟩
  · obtain ⟨cur, q3⟩ := hgr g e
    exact ⟨fun e => blk_ne (by decide) h.box q3 e, fun e => blk_ne (by decide) h.qu.blk q3 e, fun q => h.ne (by rw [e, q])⟩
  · obtain ⟨cur, q3⟩ := hgr g e
    exact hdc _ _ _ q3 q.symm
theorem Ob.later {w1 : World} {D Bx Bw Bq N : Nat} {wv : Nat → Int} {qa : Option Addr} {n c : Nat} {f : Nat → Int} {W W2 : World} (h : Ob w1 D Bx Bw Bq N wv qa n c f W) (hb : Below W.heap.size W W2) : Ob w1 D Bx Bw Bq N wv qa n c f W2 :=
  ⟨(hb.block _ (blk_lt h.box)).trans h.box, h.wt.later hb, h.qu.later hb, h.ho, h.ne, h.low, bl_t h.bel hb, (hb.block _ (blk_lt h.df)).trans h.df⟩
/-- A world in which nothing but the queue has changed. -/
theorem Ob.queue {w1 : World} {D Bx Bw Bq N : Nat} {wv : Nat → Int} {qa qa2 : Option Addr} {n c n2 c2 : Nat} {f f2 : Nat → Int} {W W2 : World} (h : Ob w1 D Bx Bw Bq N wv qa n c f W) (hq : Qu Bq qa2 n2 c2 f2 W2) (ho : HO f2 n2) (hf : Fy (fun b => b = Bq ∨ qa = some ⟨b, 0, none⟩) W W2) (hg : ∀ g, qa2 = some ⟨g, 0, none⟩ → qa = some ⟨g, 0, none⟩ ∨ W.heap.size ≤ g) : Ob w1 D Bx Bw Bq N wv qa2 n2 c2 f2 W2 := by
  obtain ⟨n1, n3, n4, n5, n6, n7, n8⟩ := h.neq
  refine ⟨(hf.1.blk Bx (blk_lt h.box) ?_).trans h.box, h.wt.fx hf.1 ?_, hq, ho, fun e => ?_, ⟨h.low.1, h.low.2.1, h.low.2.2.1, fun g e => ?_⟩, h.bel.trans (hf.bel h.bel.size ?_), (hf.1.blk D (blk_lt h.df) ?_).trans h.df⟩
  · rintro (e | e)
    · exact n1 e
    · exact (n5 _ e).1 rfl
  · rintro (e | e)
    · exact n4 e
    · exact h.ne e
  · rcases hg _ e with q | q
    · exact h.ne q
    · have := h.wt.lt; omega
  · rcases hg _ e with q | q
    · exact h.low.2.2.2 g q
    · have := h.bel.size; omega
  · rintro b (e | e)
    · rw [e]; exact h.low.2.2.1
    · exact h.low.2.2.2 b e
  · rintro (e | e)
    · exact n6 e
    · exact n8 _ e rfl
theorem Ob.wait {w1 : World} {D Bx Bw Bq N : Nat} {wv : Nat → Int} {qa : Option Addr} {n c : Nat} {f : Nat → Int} {W : World} (h : Ob w1 D Bx Bw Bq N wv qa n c f W) {x : Nat} (hx : x < N) (y : Int) : Ob w1 D Bx Bw Bq N (fun k => if k = x then y else wv k) qa n c f (W.setCell ⟨Bw, x, none⟩ (.int .i64 y)) := by
  obtain ⟨n1, n3, n4, n5, n6, n7, n8⟩ := h.neq
  refine ⟨(set_other _ _ _ _ _ n3).trans h.box, ?_, h.qu.fx (P := fun b => b = Bw) ((Fx.refl (fun b => b = Bw) W).set rfl x _) (fun e => n4 e.symm) (fun g e => (n5 g e).2.2), h.ho, h.ne, h.low, h.bel.setCell (p := ⟨Bw, x, none⟩) h.low.2.1 _, (set_other _ _ _ _ _ n7).trans h.df⟩
  refine (h.wt.set hx (.int .i64 y)).congr fun k _ => ?_
  unfold iv
  dsimp only
  by_cases e : k = x
  · rw [if_pos e, if_pos e]
  · rw [if_neg e, if_neg e]
/-- And the list of what has been told. -/
structure Ol (w1 : World) (Bw lb N : Nat) (qa : Option Addr) (t : List Nat) (W : World) : Prop where
  own : W.ownsRow 0 3 1 (.slice (some ⟨lb, 0, none⟩) t.length N) t.length (tV (nI t))
  ne : Bw ≠ lb ∧ qa ≠ some ⟨lb, 0, none⟩
  low : w1.heap.size ≤ lb
theorem Ol.blk {w1 : World} {Bw lb N : Nat} {qa : Option Addr} {t : List Nat} {W : World} (h : Ol w1 Bw lb N qa t W) : ∃ cur : Array Value, W.heap[lb]? = some (.cells cur 3 (0, 0)) := by
  obtain ⟨cur, h1, _⟩ := owns_blk h.own
  exact ⟨cur, h1⟩
theorem Ol.later {w1 : World} {Bw lb N : Nat} {qa : Option Addr} {t : List Nat} {W W2 : World} (h : Ol w1 Bw lb N qa t W) (hb : Below W.heap.size W W2) : Ol w1 Bw lb N qa t W2 := ⟨owns_below h.own hb, h.ne, h.low⟩
theorem Ol.fx {P : Nat → Prop} {w1 : World} {Bw lb N : Nat} {qa qa2 : Option Addr} {t : List Nat} {W W2 : World} (h : Ol w1 Bw lb N qa t W) (f : Fx P W W2) (hp : ¬ P lb) (hq : qa2 ≠ some ⟨lb, 0, none⟩) : Ol w1 Bw lb N qa2 t W2 :=
  ⟨own_same h.own fun b cur t hb eb => f.blk b (blk_lt hb) (by
    have e : lb = b := by simpa [Value.ownBlock] using eb
    rw [← e]
    exact hp), ⟨h.ne.1, hq⟩, h.low⟩
theorem Ol.queue {w1 : World} {D Bx Bw Bq lb N : Nat} {wv : Nat → Int} {qa qa2 : Option Addr} {n c : Nat} {f : Nat → Int} {t : List Nat} {W W2 : World} (ho : Ob w1 D Bx Bw Bq N wv qa n c f W) (h : Ol w1 Bw lb N qa t W) (hf : Fy (fun b => b = Bq ∨ qa = some ⟨b, 0, none⟩) W W2) (hg : ∀ g, qa2 = some ⟨g, 0, none⟩ → qa = some ⟨g, 0, none⟩ ∨ W.heap.size ≤ g) : Ol w1 Bw lb N qa2 t W2 := by
  obtain ⟨cur, hb⟩ := h.blk
  refine h.fx hf.1 ?_ fun e => ?_
  · rintro (e | e)
    · rw [e] at hb; exact blk_ne (by decide) hb ho.qu.blk rfl
    · exact h.ne.2 e
  · rcases hg lb e with q | q
    · exact h.ne.2 q
    · have := blk_lt hb; omega
theorem Ol.wait {w1 : World} {Bw lb N : Nat} {qa : Option Addr} {t : List Nat} {W : World} (h : Ol w1 Bw lb N qa t W) (x : Nat) (y : Value) : Ol w1 Bw lb N qa t (W.setCell ⟨Bw, x, none⟩ y) := h.fx (P := fun b => b = Bw) ((Fx.refl (fun b => b = Bw) W).set rfl x y) (fun e => h.ne.1 e.symm) h.ne.2
/-- One more behind the list. -/
theorem Ol.more {w1 : World} {D Bx Bw Bq lb N : Nat} {wv : Nat → Int} {qa : Option Addr} {n c u : Nat} {f : Nat → Int} {t : List Nat} {W W2 : World} (ho : Ob w1 D Bx Bw Bq N wv qa n c f W) (h : Ol w1 Bw lb N qa t W) (hown : W2.ownsRow 0 3 1 (.slice (some ⟨lb, 0, none⟩) (t.length + 1) N) (t.length + 1) (tV (nI t) ++ [.int .i64 (u : Int)])) (hg : W.grownBy W2 (some lb)) : Ol w1 Bw lb N qa (t ++ [u]) W2 ∧ Ob w1 D Bx Bw Bq N wv qa n c f W2 := by
  obtain ⟨cur, hb⟩ := h.blk
  have hf : Fx (fun b => b = lb) W W2 := ⟨hg.size, fun b hb hn => hg.block b hb fun e => hn (by injection e)⟩
  refine ⟨⟨?_, h.ne, h.low⟩, ?_, ho.wt.fx hf h.ne.1, ho.qu.fx hf ?_ ?_, ho.ho, ho.ne, ho.low, ho.bel.grown hg ho.bel.size (fun k e => by injection e with e; rw [← e]; exact h.low), ?_⟩
  · rw [List.length_append, show nI (t ++ [u]) = nI t ++ [(u : Int)] from by simp [nI], tV_snoc]
    exact hown
  · exact (hf.blk Bx (blk_lt ho.box) fun e => blk_ne (by decide) hb ho.box e).trans ho.box
  · exact fun e => blk_ne (by decide) hb ho.qu.blk e
  · intro g e q
    rw [q] at e
    exact h.ne.2 e
  · refine (hf.blk D (blk_lt ho.df) fun e => ?_).trans ho.df
    have := ho.df
    rw [e, hb] at this
    cases this
end Go.Proofs.Ytjflnpcpnoccjaa

namespace Go.Proofs.Ytjflnpcpnoccjaa
open Go.RowKit Go.Shelf
attribute [local go_sem] Oper.semAt_some
attribute [local simp] wide_fn
attribute [local go_sem] wide_fn

theorem Qs.top {f : Nat → Int} {m : Nat} {S : Nat → Prop} (h : Qs f (m + 1) S) (ho : HO f (m + 1)) : ∃ u : Nat, f 0 = (u : Int) ∧ S u ∧ ∀ y, S y → u ≤ y := by
  have h0 : f 0 ∈ fL f (m + 1) := List.mem_map.2 ⟨0, List.mem_range.2 (by omega), rfl⟩
  obtain ⟨u, e, hu⟩ := (h.2 _).1 h0
  refine ⟨u, e, hu, fun y hy => ?_⟩
  obtain ⟨k, hk, ek⟩ := List.mem_map.1 ((h.2 (y : Int)).2 ⟨y, rfl, hy⟩)
  have := ho.min k (List.mem_range.1 hk)
  omega
theorem makeC (n : Nat) (hn : n * 24 ≤ 140737488351232) (u : World) : (Instr.makeSlice 23 (.int .i64 0) (.int .i64 (n : Int))).run Try.prog u = .ok (.slice (some ⟨u.heap.size, 0, none⟩) 0 n) (u.alloc (.cells (madeCells #[.int .i64 0] n) 3)) := by
  obtain ⟨i0, hi, hz0, hz1, hz2⟩ := info_parts infoI
  have h := run_make (P := Try.prog) u 23 3 i0 (.int .i64 0) Try.underlying23 hi hz0 .i64 .i64 0 (n : Int) (by omega) (by omega) (by rw [hz2]; omega) (by omega)
  simpa [hz1, Value.cells] using h
set_option maxRecDepth 100000 in
set_option maxHeartbeats 16000000 in
theorem ordered_in {N : Nat} {ln : Nat → Nat} {L : Nat → Nat → Int} (hr : rgt N ln L = true) (hN : N ≤ 1048576) (hln : ∀ k, k < N → ln k ≤ 1048576) {na : Option Addr} {nc : Nat} {w : World} (hR : Rr w na N ln L) (n : Nat) (hn : 6 ≤ n) :
    CallsIn Fence.wide n Try.prog 55 #[.slice na N nc] w fun x w' => ∃ lb, x = .returned (.slice (some ⟨lb, 0, none⟩) (od N ln L).length N) ∧ w.heap.size ≤ lb ∧ w'.ownsRow 0 3 1 (.slice (some ⟨lb, 0, none⟩) (od N ln L).length N) (od N ln L).length (tV (nI (od N ln L))) ∧ Below w.heap.size w w' := by
  have h1n : 1 ≤ n := by omega
  have c1 := hide (callsIn_wide (n := n - 1) |>.2 (turned_any (nc := nc) hr hN hln hR))
  have mk := makeI N (by omega)
  have hrt := tw_rgt hr hN
  have hlt : ∀ k, k < N → twN N ln L k ≤ 1048576 := fun k _ => Nat.le_trans (twN_le hr hN k) hN
  have HWC := hide (wait_cnt hr hN)
  have HRT := hide hrt
  have HLT := hide hlt
  have HRG := hide hr
  clear hR hln hrt hlt hr
  refine callsIn_of_wp_marks Try.func55 rfl trivial ?_ rfl
  simp only [Try.ntmps55, List.size_toArray, List.length_cons, List.length_nil, Nat.reduceAdd, Nat.reduceSub, Array.replicate_succ, Array.replicate_zero, List.push_toArray, List.append_toArray, List.nil_append, List.cons_append]
  gi_wp2_with (first | (gi_at_call 48; refine (unhide c1).mono ?_; rintro x1 w1 ⟨R, ga, gc, rfl, q1, q2, q3⟩; have HG := hide q2; have HB1 := hide q3; have HR1 := hide q1; clear q1 q2 q3) | (gi_at_call 61; refine (edges_in _ _ _ _ _).mono ?_; rintro x2 w2 ⟨rfl, hw2⟩; have HW2 := hide hw2; clear hw2))
  clear mk c1
  have hz2 : w2.heap.size = w1.heap.size + 3 := by rw [unhide HW2]; simp
  obtain ⟨Bw, hBw⟩ : ∃ x, x = w1.heap.size := ⟨_, rfl⟩
  obtain ⟨Bx, hBx⟩ : ∃ x, x = w1.heap.size + 1 := ⟨_, rfl⟩
  obtain ⟨Be, hBe⟩ : ∃ x, x = w1.heap.size + 1 + 1 := ⟨_, rfl⟩
  have hb2 : Below w1.heap.size w1 w2 := by rw [unhide HW2]; exact bl_t (bl_t (al _ _) (al _ _)) (al _ _)
  have b1 : w2.heap[Bw]? = some (.cells (madeCells #[.int .i64 0] N) 3 (0, 0)) := by
    rw [unhide HW2, hBw]
    exact ((bl_t (al _ _) (al _ _)).block _ (by simp)).trans (heap_new _ _)
  have b2 : w2.heap[Bx]? = some (.cells #[.slice (some ⟨Bw, 0, none⟩) N N] 23 (0, 0)) := by
    rw [unhide HW2, hBx, hBw]
    have := heap_new (w1.alloc (.cells (madeCells #[.int .i64 0] N) 3)) (.cells #[.slice (some ⟨w1.heap.size, 0, none⟩) N N] 23)
    rw [World.size_alloc] at this
    exact ((al _ _).block _ (by simp)).trans this
  have b3 : w2.heap[Be]? = some (.cells #[.slice (some ⟨R, 0, none⟩) N N] 22 (0, 0)) := by
    rw [unhide HW2, hBe]
    have := heap_new ((w1.alloc (.cells (madeCells #[.int .i64 0] N) 3)).alloc (.cells #[.slice (some ⟨w1.heap.size, 0, none⟩) N N] 23)) (.cells #[.slice (some ⟨R, 0, none⟩) N N] 22)
    simp only [World.size_alloc] at this
    exact this
  rw [← hBe, ← hBx, ← hBw]
  have HBB := hide (show w1.heap.size ≤ Bw ∧ w1.heap.size ≤ Bx ∧ Be < w2.heap.size ∧ w1.heap.size ≤ w2.heap.size from ⟨by omega, by omega, by omega, by omega⟩)
  have HM0 := hide (show Mv Bw N 3 (iv fun x => (cq x ([] : List (Ky N)) : Int)) w2 from ⟨_, b1, fun k hk => by rw [made_at _ _ _ hk]; rfl⟩)
  have HX0 := hide b2
  have HE0 := hide b3
  have HB2 := hide hb2
  have hxw : Bx ≠ Bw := by omega
  clear hz2 hb2 b1 b2 b3 hBw hBx hBe HW2
  refine rangeFunc_net (α := Ky N) (σ := List (Ky N)) (encs := encK (n := N)) rfl h1n (gf := 70) (lb := #[.pointer (some ⟨Be, 0, none⟩)]) rfl trivial (enters_of Try.func70 (by kernel_rfl) rfl) (fun _ => rfl)
    (fun pre W => W.heap[Bx]? = some (.cells #[.slice (some ⟨Bw, 0, none⟩) N N] 23 (0, 0)) ∧ Mv Bw N 3 (iv fun x => (cq x pre : Int)) W ∧ Below w1.heap.size w1 W)
    (fun pre x => x.1.1 < N ∧ pre.length < 1099511627776) (fun pre x => pre ++ [x]) (fun _ _ _ => True) (fun pre => pre = uptE N (twN N ln L) (twL N ln L) N 0) ?a1
    (fun s A B row hs hg hr => by
      obtain ⟨s1, ⟨cur, s2, s3⟩, s4⟩ := hs
      have hk := cells_kept hg fun r e => (hr r e).2
      exact ⟨(hk _ _ _ s1).trans s1, ⟨cur, (hk _ _ _ s2).trans s2, s3⟩, s4.grown hg (Nat.le_trans (Nat.le_refl _) s4.size) (fun k e => Nat.le_trans (unhide HBB).2.2.2 (hr k e).1)⟩)
    (fun _ _ _ _ _ _ _ _ => trivial) ?assign ?body ?seq ?done
  case assign =>
    intro l x W K hK
    gi_wp2
    exact hK
  case seq =>
    intro rc W9 J2 hW9 hJ2 hY2
    have hb9 : Below w2.heap.size w2 W9 := by rw [hW9]; exact bl_t (al _ _) (al _ _)
    refine (edges1_net (unhide HRT) hN (unhide HLT) (n - 1) (by omega) (w2.heap.size + 1) Be (nc := N) (unhide HG).rr J2 (fun pre W h => ?_) (fun pre x W hx hl2 hj => ?_) W9 ?_ ?_).mono ?_
    · rw [hJ2] at h
      exact h.1.2.2
    · exact (hY2 pre x W ⟨hx, hl2⟩ hj).mono fun e w2 h => ⟨h.1, h.2.1⟩
    · exact (cell_blk ((hb9.block _ (unhide HBB).2.2.1).trans (unhide HE0)) 0).1
    · rw [hJ2]
      refine ⟨⟨(hb9.block _ (blk_lt (unhide HX0))).trans (unhide HX0), (unhide HM0).later hb9, bl_t (unhide HB2) hb9⟩, ?_, ?_⟩
      · rw [hW9]; have := World.alloc_heap_new (w2.alloc (.deferred (some []))) (.loop rc); rwa [World.size_alloc] at this
      · rw [hW9]; exact (Below.heap_alloc _ _ _ (by simp)).trans (World.alloc_heap_new w2 _)
    · rintro e W5 ⟨hv, hj⟩
      exact ⟨hv, _, rfl, hj⟩
  case body =>
    rintro l2 pre ⟨⟨u, v⟩, hu9, hv⟩ W ⟨hu, hlen⟩ ⟨s1, s2, s3⟩
    have hv : v < N := hv
    have c0 := (cell_blk s1 0).1
    obtain ⟨c1, f1⟩ := s2.cell hv
    unfold iv at c1
    dsimp only at c1
    have hlc : cq v pre ≤ pre.length := List.countP_le_length
    have q1 : IntKind.i64.wrap ((cq v pre : Int) + 1) = (cq v pre : Int) + 1 := IntWalk.i64_in _ (by have : pre.length < 1099511627776 := hlen; omega)
    have hvn : (v : Int) < (N : Int) := by omega
    have HFIN := hide (show KeepsOthers W (W.setCell ⟨Bw, v, none⟩ (.int .i64 ((cq v pre : Int) + 1))) ∧ True ∧ (W.setCell ⟨Bw, v, none⟩ (.int .i64 ((cq v pre : Int) + 1))).heap[Bx]? = some (.cells #[.slice (some ⟨Bw, 0, none⟩) N N] 23 (0, 0)) ∧ Mv Bw N 3 (iv fun x => (cq x (pre ++ [(⟨(u, v), hu9, hv⟩ : Ky N)]) : Int)) (W.setCell ⟨Bw, v, none⟩ (.int .i64 ((cq v pre : Int) + 1))) ∧ Below w1.heap.size w1 (W.setCell ⟨Bw, v, none⟩ (.int .i64 ((cq v pre : Int) + 1))) from by
      refine ⟨KeepsOthers.setCell _ _ _, trivial, (set_other _ _ _ _ _ hxw).trans s1, ?_, s3.setCell (p := ⟨Bw, v, none⟩) (unhide HBB).1 _⟩
      refine (s2.set hv (.int .i64 ((cq v pre : Int) + 1))).congr fun k _ => ?_
      unfold iv
      dsimp only
      rw [cq_snoc]
      by_cases e : k = v
      · subst e
        rw [if_pos rfl, if_pos rfl]
        rfl
      · rw [if_neg e, if_neg (fun q : v = k => e q.symm)]
        rfl)
    clear s1 s2 s3 hlc hlen
    generalize cq v pre = cv at *
    gi_wp2
    obtain ⟨z1, z2, z3, z4, z5⟩ := unhide HFIN
    exact ⟨z1, z2, z3, z4, z5⟩
  case done =>
    rintro D pre W hD hS ⟨hbx, hwt, hbl⟩ hK
    have hS2 : pre = uptE N (twN N ln L) (twL N ln L) N 0 := hS
    subst hS2
    have hwt2 : Mv Bw N 3 (iv fun x => (wc N ln L [] x : Int)) W := hwt.congr fun k _ => by
      show Value.int .i64 (cq k (uptE N (twN N ln L) (twL N ln L) N 0) : Int) = .int .i64 (wc N ln L [] k : Int)
      rw [unhide HWC k]
    obtain ⟨Bq, hBq⟩ : ∃ x, x = W.heap.size := ⟨_, rfl⟩
    obtain ⟨W4, hW4⟩ : ∃ x, x = W.alloc (.cells #[.slice none 0 0] 78) := ⟨_, rfl⟩
    have hb4 : Below W.heap.size W W4 := by rw [hW4]; exact al _ _
    have HO4 := hide (show Ob w1 D Bx Bw Bq N (fun x => (wc N ln L [] x : Int)) none 0 0 (fun _ => 0) W4 from
      ⟨(hb4.block _ (blk_lt hbx)).trans hbx, hwt2.later hb4, ⟨by rw [hW4, hBq]; exact heap_new _ _, World.ownsRow_nil _ _ _ _⟩, fun k h1 h2 => (by omega), fun e => (by cases e), ⟨(unhide HBB).2.1, (unhide HBB).1, by rw [hBq]; exact hbl.size, fun g e => (by cases e)⟩, bl_t hbl hb4, (hb4.block _ (blk_lt hK)).trans hK⟩)
    have HDD := hide (Nat.le_trans (unhide HBB).2.2.2 hD)
    have HW4 := hide hW4
    have HBQ := hide hBq
    have c0 := (cell_blk (show W4.heap[Bx]? = _ from (unhide HO4).box) 0).1
    have c0' : (W.alloc (.cells #[.slice none 0 0] 78)).cell? ⟨Bx, 0, none⟩ = some (.slice (some ⟨Bw, 0, none⟩) N N) := by rw [← unhide HW4]; exact c0
    clear hbx hwt hwt2 hbl hK hS hb4 hW4 hBq c0
    gi_wp2
    rw [← unhide HW4, ← unhide HBQ]
    clear HW4 HBQ c0' HM0 HX0 HE0 HWC HRT HLT HB2
    have HQ4 := hide (show Qs (fun _ => 0) 0 (fun x => x < 0 ∧ wc N ln L [] x = 0) from (Qs.none _).congr fun x => ⟨fun h => h.elim, fun h => absurd h.1 (Nat.not_lt_zero _)⟩)
    gi_loopg [8, 9, 33] N (fun g1 _ _ vi wr => ∃ (u : Nat) (qa : Option Addr) (qn c : Nat) (f : Nat → Int), vi = .int .i64 u ∧ u ≤ N ∧ N - u ≤ g1 ∧ Hid (Ob w1 D Bx Bw Bq N (fun x => (wc N ln L [] x : Int)) qa qn c f wr) ∧ Hid (Qs f qn (fun x => x < u ∧ wc N ln L [] x = 0)))
    case atStart => exact ⟨0, none, 0, 0, _, by go_num, by omega, by omega, HO4, HQ4⟩
    case round =>
      clear HO4 HQ4
      obtain ⟨u, qa, qn, c, f, rfl, hu, hg1, HO4, HQ4⟩ := hrel
      by_cases hlt : u < N
      · obtain ⟨c1, _⟩ := (unhide HO4).wt.cell hlt
        unfold iv at c1
        dsimp only at c1
        have hlt2 : (u : Int) < (N : Int) := by omega
        by_cases hz : wc N ln L [] u = 0
        · have c1' : wr.cell? ⟨Bw, u, none⟩ = some (.int .i64 0) := by rw [c1, hz]; rfl
          have hqn := (unhide HQ4).len (N := u) fun x h => h.1
          have cP := hide (hpush_any (by omega) (unhide HO4).qu (unhide HO4).ho (u : Int))
          have HQX := hide (fun (f2 : Nat → Int) (hp : (fL f2 (qn + 1)).Perm (fL f qn ++ [(u : Int)])) => show Qs f2 (qn + 1) (fun x => x < u + 1 ∧ wc N ln L [] x = 0) from ((unhide HQ4).push hp (fun h => absurd h.1 (Nat.lt_irrefl _))).congr fun x => ⟨fun h => by
            rcases h with h | h
            · exact ⟨by omega, h.2⟩
            · rw [h]; exact ⟨by omega, hz⟩, fun h => by
            by_cases e : x = u
            · exact .inr e
            · exact .inl ⟨by omega, h.2⟩⟩)
          clear c1 hz
          gi_wp2_with (gi_at_call 66; refine (callsIn_wide.2 (unhide cP)).mono ?_; rintro x3 w3 ⟨rfl, g3, c3, f3, q1, q2, q3, q4, q5⟩; have HO5 := hide ((unhide HO4).queue q1 q2 q4 (fun g e => by cases e; exact q5)); have HQ5 := hide (unhide HQX f3 q3); clear q1 q2 q3 q4 q5)
          gi_roundg (N - (u + 1))
          case measure => omega
          case rel => exact ⟨u + 1, _, qn + 1, c3, f3, by go_num, by omega, by omega, HO5, HQ5⟩
        · have HQ5 := hide (show Qs f qn (fun x => x < u + 1 ∧ wc N ln L [] x = 0) from (unhide HQ4).congr fun x => ⟨fun h => ⟨by omega, h.2⟩, fun h => ⟨by
            by_cases e : x = u
            · rw [e] at h; exact absurd h.2 hz
            · omega, h.2⟩⟩)
          have hz2 : ((wc N ln L [] u : Int) == 0) = false := by simp; omega
          clear hz HQ4
          generalize wc N ln L [] u = wu at *
          gi_wp2
          gi_roundg (N - (u + 1))
          case measure => omega
          case rel => exact ⟨u + 1, qa, qn, c, f, by go_num, by omega, by omega, HO4, HQ5⟩
      · have eN : N = u := by omega
        subst eN
        have mk2 := makeC N (by omega)
        obtain ⟨lb, hlb⟩ : ∃ x, x = wr.heap.size := ⟨_, rfl⟩
        obtain ⟨W5, hW5⟩ : ∃ x, x = wr.alloc (.cells (madeCells #[.int .i64 0] N) 3) := ⟨_, rfl⟩
        have hb5 : Below wr.heap.size wr W5 := by rw [hW5]; exact al _ _
        have HO6 := hide (show Ob w1 D Bx Bw Bq N (fun x => (wc N ln L [] x : Int)) qa qn c f W5 from (unhide HO4).later hb5)
        have HL6 := hide (show Ol w1 Bw lb N qa [] W5 from by
          refine ⟨⟨rfl, .inr ⟨lb, N, madeCells #[.int .i64 0] N, rfl, Nat.zero_le _, by rw [hW5, hlb]; exact heap_new _ _, Nat.zero_le _, by unfold maxLen; omega, by simp [size_madeCells], rfl⟩⟩, ⟨by have := (unhide HO4).wt.lt; omega, fun e => ?_⟩, by rw [hlb]; exact (unhide HO4).bel.size⟩
          rcases (unhide HO4).qu.form with ⟨q, _⟩ | ⟨g, q, q2, _⟩
          · rw [q] at e; cases e
          · rw [q] at e; cases e; omega)
        have HT6 := hide (Td.start N ln L)
        have HS6 := hide (show Qs f qn (rdy N ln L []) from (unhide HQ4).congr fun x => by
          rw [rdy_iff (unhide HRG)]
          exact ⟨fun h => ⟨h.1, List.not_mem_nil, h.2⟩, fun h => ⟨h.1, h.2.2⟩⟩)
        have HW5 := hide hW5
        have HLB := hide hlb
        clear hb5 HO4 HQ4 hW5 hlb hlt hu hg1
        gi_wp2
        rw [← unhide HW5, ← unhide HLB]
        clear HW5 HLB mk2
        gi_loopg [10, 11, 13] (N + 1) (fun g2 vl _ _ wr => ∃ (t : List Nat) (tl : Nat) (qa : Option Addr) (qn c : Nat) (f : Nat → Int), vl = .slice (some ⟨lb, 0, none⟩) tl N ∧ tl ≤ N ∧ N - tl ≤ g2 ∧ Hid (tl = t.length) ∧ Hid (Td N ln L t) ∧ Hid (Ob w1 D Bx Bw Bq N (fun x => (wc N ln L t x : Int)) qa qn c f wr) ∧ Hid (Ol w1 Bw lb N qa t wr) ∧ Hid (Qs f qn (rdy N ln L t)))
        case atStart => exact ⟨[], 0, qa, qn, c, f, rfl, by omega, by omega, hide rfl, HT6, HO6, HL6, HS6⟩
        case round =>
          clear HT6 HO6 HL6 HS6 qa qn c f
          obtain ⟨t, tl, qa, qn, c, f, rfl, htl, hg2, HTL, HT, HOB, HL, HS⟩ := hrel
          have cq0 := (unhide HOB).qu.cell.1
          by_cases hq0 : qn = 0
          · subst hq0
            have HE := hide ((unhide HT).end fun x => (unhide HS).empty x)
            have hK := (unhide HOB).df
            have HFIN := hide (show (od N ln L).length = tl ∧ w.heap.size ≤ lb ∧ (wr.putObj D (.deferred none)).ownsRow 0 3 1 (.slice (some ⟨lb, 0, none⟩) tl N) tl (tV (nI (od N ln L))) ∧ Below w.heap.size w (wr.putObj D (.deferred none)) from by
              rw [unhide HE]
              have hw1 := (unhide HB1).size
              refine ⟨(unhide HTL).symm, Nat.le_trans hw1 (unhide HL).low, ?_, ?_⟩
              · have q := (unhide HL).own
                rw [← unhide HTL] at q
                refine own_same q fun b cur ty hb _ => World.putObj_heap_other fun e => ?_
                rw [e, hK] at hb
                cases hb
              · have hb := (unhide HB1).trans ((unhide HOB).bel.mono hw1)
                exact hb.trans (belowK_b (w := w) (Nat.le_refl _) wr D _ _ (Nat.le_trans hw1 (unhide HDD)) hK rfl rfl))
            clear HE HOB HL HS HT HTL
            gi_wp2_with (gi_at_call 67; refine (callsIn_wide.2 (qlen_any _ _ _ _)).mono ?_; rintro x9 w9 ⟨rfl, hw9⟩; rw [hw9]; clear hw9 w9)
            refine ⟨by simp, .inl ⟨_, _, rfl, run_takeDeferred hK, ?_⟩⟩
            obtain ⟨z1, z2, z3, z4⟩ := unhide HFIN
            refine ⟨_, results_tmp rfl _ _ _, lb, ?_, z2, ?_, z4⟩
            · rw [z1]; rfl
            · rw [z1]; exact z3
          · obtain ⟨m, rfl⟩ : ∃ m, qn = m + 1 := ⟨qn - 1, by omega⟩
            obtain ⟨g, hqg⟩ : ∃ g, qa = some ⟨g, 0, none⟩ := by
              rcases (unhide HOB).qu.form with ⟨_, q, _⟩ | ⟨g, q, _⟩
              · omega
              · exact ⟨g, q⟩
            subst hqg
            have hmN := (unhide HS).len (N := N) fun x h => h.1
            obtain ⟨u, hu0, hur, hum⟩ := (unhide HS).top (unhide HOB).ho
            have HLst := hide (show Lst N ln L t u from ⟨hur, hum⟩)
            have huN : u < N := hur.1
            have cP := hide (hpop_any (by omega) (unhide HOB).qu (unhide HOB).ho)
            rw [hu0] at cP
            obtain ⟨HT2, hltl⟩ := (unhide HT).next (unhide HLst)
            rw [← unhide HTL] at hltl
            have HT2 := hide HT2
            have HPOP := hide (fun (w3 : World) (f3 : Nat → Int) (q1 : Qu Bq (some ⟨g, 0, none⟩) m c f3 w3) (q2 : HO f3 m) (q3 : ((u : Int) :: fL f3 m).Perm (fL f (m + 1))) (q4 : Fy (fun b => b = Bq ∨ b = g) wr w3) => show Ob w1 D Bx Bw Bq N (fun x => (wc N ln L t x : Int)) (some ⟨g, 0, none⟩) m c f3 w3 ∧ Ol w1 Bw lb N (some ⟨g, 0, none⟩) t w3 ∧ Qs f3 m (Skq N ln L t u 0) from by
              have q5 : Fy (fun b => b = Bq ∨ (some (⟨g, 0, none⟩ : Addr)) = some ⟨b, 0, none⟩) wr w3 := q4.mono fun b _ e => e.imp id fun e => by rw [e]
              refine ⟨(unhide HOB).queue q1 q2 q5 (fun g2 e => .inl e), (unhide HL).queue (unhide HOB) q5 (fun g2 e => .inl e), ?_⟩
              obtain ⟨u2, e2, _, _, hq⟩ := (unhide HS).pop (unhide HOB).ho (f2 := f3) (by rw [hu0]; exact q3)
              have : u2 = u := by omega
              subst this
              exact hq.congr fun x => Skq_zero N ln L t u2 x)
            have hta := asInt (u : Int)
            have hm1 : ((m + 1 : Nat) : Int) > 0 := by omega
            have hun : (u : Int) < (N : Int) := by omega
            clear hur hum hu0 cq0
            have cq0 := (unhide HOB).qu.cell.1
            obtain ⟨i0, hi0, hz0, hz1, hz2⟩ := info_parts infoI
            have HROW := hide (show ∀ W : World, Below w1.heap.size w1 W → W.cell? ⟨R, u, none⟩ = some (.slice (ga u) (tw N ln L u).length (gc u)) ∧ Ri W (ga u) (tw N ln L u).length (fun j => (((tw N ln L u).getD j 0 : Nat) : Int)) from fun W hb => by
              have q := (unhide HG).later hb
              obtain ⟨ca, cc, r1, r2⟩ := q.rr
              refine ⟨(q.row.cell huN).1, ?_⟩
              have q2 := q.own u huN
              rw [tV_vl, nI_len] at q2
              refine (Rv.of_owns q2).congr fun j hj => ?_
              unfold iv nI
              congr 1
              simp [hj])
            have hul : (tw N ln L u).length ≤ N := twN_le (unhide HRG) hN u
            have HUL := hide (fun (k : Nat) (hk : k < (tw N ln L u).length) => show ∃ x, (tw N ln L u)[k]? = some x ∧ x < N ∧ (((tw N ln L u).getD k 0 : Nat) : Int) = (x : Int) from ⟨(tw N ln L u)[k], List.getElem?_eq_getElem hk, ((tw_mem (unhide HRG) hN _ u).1 (List.getElem_mem hk)).1, by simp [hk]⟩)
            have HWE := hide (wvk_end (unhide HRG) hN t u)
            have HSE := hide (Skq_end (unhide HRG) hN (unhide HT) (unhide HLst))
            have HWZ := hide (wvk_zero N ln L t u)
            generalize hUL : (tw N ln L u).length = ul at *
            generalize ga u = ga1 at *
            generalize gc u = gc1 at *
            have HULE := hide hUL
            clear hUL HOB HS
            gi_wp2_with (first | (gi_at_call 67; refine (callsIn_wide.2 (qlen_any _ _ _ _)).mono ?_; rintro x9 w9 ⟨rfl, hw9⟩; rw [hw9]; clear hw9 w9) | (gi_at_call 68; refine (callsIn_wide.2 (unhide cP)).mono ?_; rintro x3 w3 ⟨rfl, f3, q1, q2, q3, q4⟩; obtain ⟨a1, a2, a3⟩ := unhide HPOP w3 f3 q1 q2 q3 q4; have HO3 := hide (a1.later (al w3 (.cells #[.int .i64 (u : Int)] 3))); have HL3 := hide (a2.later (al w3 (.cells #[.int .i64 (u : Int)] 3))); have HS3 := hide a3; clear q1 q2 q3 q4 a1 a2 a3) | (gi_at_builtin; go_must (refine wpListIn_append_fits _ rfl _ _ 23 rfl 0 3 i0 1 Try.underlying23 hi0 hz1 lb tl N (tV (nI t)) rfl (by have := (unhide HL3).own; rw [← unhide HTL] at this; exact this) ⟨w3.heap.size, 0, none⟩ 1 1 [.int .i64 (u : Int)] rfl rfl (cell_one_new _ _ _) (by simp [Value.oneCell']) (by omega) ?_); intro w7 hown hgrow; obtain ⟨a4, a5⟩ := (unhide HL3).more (unhide HO3) (by rw [← unhide HTL]; exact hown) hgrow; have HL7 := hide a4; have HO7 := hide a5; obtain ⟨cr7, _⟩ := unhide HROW w7 a5.bel; clear hown hgrow a4 a5))
            clear hta cq0 cP HPOP hm1 HL3 HO3
            have HO8 := hide (show Ob w1 D Bx Bw Bq N (wvk N ln L t u 0) (some ⟨g, 0, none⟩) m c f3 w7 from by rw [unhide HWZ]; exact unhide HO7)
            clear HO7 HL HT HWZ
            have htl1 : tl + 1 ≤ N := by omega
            gi_loopg [13, 68] ul (fun g3 _ vi wr => ∃ (k : Nat) (qa : Option Addr) (qn c : Nat) (f : Nat → Int), vi = .int .i64 k ∧ k ≤ ul ∧ ul - k ≤ g3 ∧ Hid (Ob w1 D Bx Bw Bq N (wvk N ln L t u k) qa qn c f wr) ∧ Hid (Ol w1 Bw lb N qa (t ++ [u]) wr) ∧ Hid (Qs f qn (Skq N ln L t u k)))
            case atStart => exact ⟨0, some ⟨g, 0, none⟩, m, c, f3, by go_num, by omega, by omega, HO8, HL7, HS3⟩
            case round =>
              clear HO8 HL7 HS3 cr7
              obtain ⟨k, qa2, qn2, c2, f2, rfl, hk, hg3, HO8, HL8, HS8⟩ := hrel
              by_cases hkl : k < ul
              · obtain ⟨x, hx1, hx2, hx3⟩ := unhide HUL k hkl
                obtain ⟨_, hri⟩ := unhide HROW wr (unhide HO8).bel
                obtain ⟨b1, o1, hga, _, cx⟩ := hri.at hkl
                subst hga
                unfold iv at cx
                dsimp only at cx
                rw [hx3] at cx
                have cb := (cell_blk (unhide HO8).box 0).1
                obtain ⟨cw, fw⟩ := (unhide HO8).wt.cell hx2
                unfold iv at cw
                rw [wvk_at (unhide HRG) hN (unhide HLst) hx1] at cw
                have hwl := wc_le N ln L (t ++ [u]) x
                have HO9 := hide (show Ob w1 D Bx Bw Bq N (wvk N ln L t u (k + 1)) qa2 qn2 c2 f2 (wr.setCell ⟨Bw, x, none⟩ (.int .i64 (wc N ln L (t ++ [u]) x : Int))) from by
                  rw [← wvk_next hx1]
                  exact (unhide HO8).wait hx2 _)
                have HL9 := hide ((unhide HL8).wait x (.int .i64 (wc N ln L (t ++ [u]) x : Int)))
                have HNO := hide (Skq_no (unhide HRG) hN (unhide HLst) hx1)
                have hx4 : (x : Int) < (N : Int) := by omega
                have hkl2 : (k : Int) < (ul : Int) := by omega
                have HX1 := hide hx1
                have hqn2 := (unhide HS8).len (N := N) fun y hy => Skq_lt (unhide HRG) hN hy
                have i1 : IntKind.i64.wrap ((wc N ln L (t ++ [u]) x : Int) + 1 - 1) = (wc N ln L (t ++ [u]) x : Int) := by rw [show (wc N ln L (t ++ [u]) x : Int) + 1 - 1 = (wc N ln L (t ++ [u]) x : Int) by omega]; exact IntWalk.i64_in _ (by omega)
                have HSY := hide (fun (hz : wc N ln L (t ++ [u]) x = 0) => Skq_yes (t := t) hx1 hz)
                have HSN := hide (fun (hz : wc N ln L (t ++ [u]) x ≠ 0) => Skq_skip (t := t) hx1 hz)
                clear hx1 hx3 hri HO8 HL8
                generalize hwx : wc N ln L (t ++ [u]) x = wx at *
                clear hwx
                have cb8 : (wr.setCell ⟨Bw, x, none⟩ (.int .i64 (wx : Int))).cell? ⟨Bx, 0, none⟩ = some (.slice (some ⟨Bw, 0, none⟩) N N) := (cell_blk (unhide HO9).box 0).1
                have cb0 : wr.cell? ⟨Bx, 0, none⟩ = some (.slice (some ⟨Bw, 0, none⟩) N N) := cb
                have cw8 : (wr.setCell ⟨Bw, x, none⟩ (.int .i64 (wx : Int))).cell? ⟨Bw, x, none⟩ = some (.int .i64 (wx : Int)) := World.cell?_setCell_same _ _ _ cw
                clear cb
                by_cases hz : wx = 0
                · have HQX := hide (fun (f5 : Nat → Int) (hp : (fL f5 (qn2 + 1)).Perm (fL f2 qn2 ++ [(x : Int)])) => show Qs f5 (qn2 + 1) (Skq N ln L t u (k + 1)) from ((unhide HS8).push hp (unhide HNO)).congr (unhide HSY hz))
                  have cP2 := hide (hpush_any (by omega) (unhide HO9).qu (unhide HO9).ho (x : Int))
                  have HPU := hide (fun (w5 : World) (g5 c5 : Nat) (f5 : Nat → Int) q1 q2 q3 q4 (q5 : qa2 = some ⟨g5, 0, none⟩ ∨ (wr.setCell ⟨Bw, x, none⟩ (.int .i64 (wx : Int))).heap.size ≤ g5) => show Ob w1 D Bx Bw Bq N (wvk N ln L t u (k + 1)) (some ⟨g5, 0, none⟩) (qn2 + 1) c5 f5 w5 ∧ Ol w1 Bw lb N (some ⟨g5, 0, none⟩) (t ++ [u]) w5 ∧ Qs f5 (qn2 + 1) (Skq N ln L t u (k + 1)) from ⟨(unhide HO9).queue q1 q2 q4 (fun g e => by cases e; exact q5), (unhide HL9).queue (unhide HO9) q4 (fun g e => by cases e; exact q5), unhide HQX f5 q3⟩)
                  have hz1 : ((wx : Int) == 0) = true := by simp [hz]
                  clear hz HO9 HL9 HQX HS8
                  gi_wp2_with (gi_at_call 66; refine (callsIn_wide.2 (unhide cP2)).mono ?_; rintro x5 w5 ⟨rfl, g5, c5, f5, q1, q2, q3, q4, q5⟩; obtain ⟨a1, a2, a3⟩ := unhide HPU w5 g5 c5 f5 q1 q2 q3 q4 q5; have HOA := hide a1; have HLA := hide a2; have HSA := hide a3; clear q1 q2 q3 q4 q5 a1 a2 a3)
                  gi_roundg (ul - (k + 1))
                  case measure => omega
                  case rel => exact ⟨k + 1, _, qn2 + 1, c5, f5, by go_num, by omega, by omega, HOA, HLA, HSA⟩
                · have HSA := hide ((unhide HS8).congr (unhide HSN hz))
                  have hz2 : ((wx : Int) == 0) = false := by simp; omega
                  clear hz HS8
                  gi_wp2
                  gi_roundg (ul - (k + 1))
                  case measure => omega
                  case rel => exact ⟨k + 1, qa2, qn2, c2, f2, by go_num, by omega, by omega, HO9, HL9, HSA⟩
              · obtain rfl : k = ul := by omega
                have HO9 := hide (show Ob w1 D Bx Bw Bq N (fun x => (wc N ln L (t ++ [u]) x : Int)) qa2 qn2 c2 f2 wr from by rw [← unhide HWE]; exact unhide HO8)
                have HS9 := hide ((unhide HS8).congr (unhide HSE))
                have HTL2 := hide (show tl + 1 = (t ++ [u]).length from by rw [List.length_append, unhide HTL]; rfl)
                clear HO8 HS8
                gi_wp2
                gi_roundg (N - (tl + 1))
                case measure => omega
                case rel => exact ⟨t ++ [u], tl + 1, qa2, qn2, c2, f2, by go_num, by omega, by omega, HTL2, HT2, HO9, HL8, HS9⟩
end Go.Proofs.Ytjflnpcpnoccjaa

namespace Go.Proofs.Ytjflnpcpnoccjaa
open Go.RowKit Go.Shelf

theorem own_raise {W : World} {lo lo2 e size n g c : Nat} {xs : List Value} (h : W.ownsRow lo e size (.slice (some ⟨g, 0, none⟩) n c) n xs) (hg : lo2 ≤ g) : W.ownsRow lo2 e size (.slice (some ⟨g, 0, none⟩) n c) n xs := by
  refine ⟨h.1, ?_⟩
  rcases h.2 with ⟨q, _⟩ | ⟨g2, cap, cur, q1, q2, q3⟩
  · cases q
  · cases q1
    exact .inr ⟨g, c, cur, rfl, hg, q3⟩
noncomputable def orE (N : Nat) (ln : Nat → Nat) (L : Nat → Nat → Int) : Int := if rgt N ln L = true then (if (od N ln L).length < N then 121 else 0) else 120
noncomputable def orN (N : Nat) (ln : Nat → Nat) (L : Nat → Nat → Int) : Nat := if rgt N ln L = true then (if (od N ln L).length < N then 0 else N) else 0
noncomputable def oV (N : Nat) (ln : Nat → Nat) (L : Nat → Nat → Int) (j : Nat) : Int := (((od N ln L).getD j 0 : Nat) : Int)
theorem orN_le (N : Nat) (ln : Nat → Nat) (L : Nat → Nat → Int) : orN N ln L ≤ N := by
  unfold orN
  split
  · split <;> omega
  · omega
theorem od_len {N : Nat} {ln : Nat → Nat} {L : Nat → Nat → Int} : (od N ln L).length ≤ N := by
  have h : ∀ k t, (ordL N ln L k t).length ≤ t.length + k := by
    intro k
    induction k with
    | zero => intro t; exact Nat.le_refl _
    | succ k ih =>
      intro t
      show (match nxt N ln L t with | none => t | some u => ordL N ln L k (t ++ [u])).length ≤ _
      split
      · omega
      · have := ih (t ++ [‹Nat›])
        rw [List.length_append] at this
        simp only [List.length_cons, List.length_nil] at this
        omega
  have := h N []
  show (ordL N ln L N []).length ≤ N
  simpa using this
set_option maxRecDepth 100000 in
set_option maxHeartbeats 4000000 in
theorem Order_any {N : Nat} {ln : Nat → Nat} {L : Nat → Nat → Int} {na : Option Addr} {nc : Nat} {w : World} (hN : N ≤ 1048576) (hln : ∀ k, k < N → ln k ≤ 1048576) (hR : Rr w na N ln L) :
    Calls Try.prog 29 #[.slice na N nc] w fun x w' => ∃ ga g gc, x = .returned (.tuple #[.slice ga (orN N ln L) gc, .int .i64 (orE N ln L)]) ∧ Rw w.heap.size w'.heap.size ga g (orN N ln L) gc (oV N ln L) w' ∧ Below w.heap.size w w' := by
  have c1 := hide (isRight_any N ln L na nc w (by omega) (fun k hk => by have := hln k hk; omega) hR)
  unfold orN orE
  cases hr : rgt N ln L with
  | false =>
    rw [hr] at c1
    rw [if_neg (by simp), if_neg (by simp)]
    clear hR hln
    go_enter Try.func29, Try.ntmps29
    go_wp2_with (go_at_call 43; refine (unhide c1).mono ?_; rintro x1 w1 ⟨rfl, hw1⟩; rw [hw1]; clear hw1 w1)
    go_ret2
    exact ⟨none, 0, 0, rfl, ⟨.inl ⟨rfl, rfl, rfl⟩, fun e => by cases e⟩, Below.refl _ _⟩
  | true =>
    rw [hr] at c1
    rw [if_pos rfl, if_pos rfl]
    have c2 := hide ((callsIn_wide (n := 8)).1 (ordered_in (nc := nc) hr hN hln hR 8 (by omega)))
    have hol := od_len (N := N) (ln := ln) (L := L)
    clear hR hln hr
    by_cases hl : (od N ln L).length < N
    · rw [if_pos hl, if_pos hl]
      have hl2 : ((od N ln L).length : Int) < (N : Int) := by omega
      clear hl
      generalize (od N ln L).length = ol at *
      go_enter Try.func29, Try.ntmps29
      go_wp2_with (first | (go_at_call 43; refine (unhide c1).mono ?_; rintro x1 w1 ⟨rfl, hw1⟩; rw [hw1]; clear hw1 w1) | (go_at_call 55; refine (unhide c2).mono ?_; rintro x2 w2 ⟨lb, rfl, q1, q2, q3⟩; have HB := hide q3; clear q1 q2 q3))
      go_ret2
      exact ⟨none, 0, 0, rfl, ⟨.inl ⟨rfl, rfl, rfl⟩, fun e => by cases e⟩, unhide HB⟩
    · rw [if_neg hl, if_neg hl]
      have hl2 : (od N ln L).length = N := by omega
      have HV := hide (show ∀ (W : World) (lb : Nat), w.heap.size ≤ lb → W.ownsRow 0 3 1 (.slice (some ⟨lb, 0, none⟩) N N) N (tV (nI (od N ln L))) → ∃ g, Rw w.heap.size W.heap.size (some ⟨lb, 0, none⟩) g N N (oV N ln L) W from fun W lb h1 h2 => by
        have q := own_raise (lo2 := w.heap.size) h2 h1
        rw [tV_vl, nI_len, hl2] at q
        obtain ⟨g, hg⟩ := Rw.of q
        refine ⟨g, ?_⟩
        obtain ⟨z1, z2⟩ := hg
        refine ⟨?_, z2⟩
        rcases z1 with z | ⟨cur, a1, a2, a3, a4, a5, a6, a7⟩
        · exact .inl z
        · refine .inr ⟨cur, a1, a2, a3, a4, a5, a6, fun j hj => ?_⟩
          rw [a7 j hj]
          unfold nI oV
          simp [hj, hl2])
      rw [hl2] at c2
      clear hl hl2 hol
      generalize tV (nI (od N ln L)) = xs at *
      go_enter Try.func29, Try.ntmps29
      go_wp2_with (first | (go_at_call 43; refine (unhide c1).mono ?_; rintro x1 w1 ⟨rfl, hw1⟩; rw [hw1]; clear hw1 w1) | (go_at_call 55; refine (unhide c2).mono ?_; rintro x2 w2 ⟨lb, rfl, q1, q2, q3⟩; have HB := hide q3; obtain ⟨g9, q4⟩ := unhide HV _ _ q1 q2; have HX := hide q4; clear q1 q2 q3 q4))
      go_ret2
      exact ⟨_, g9, N, rfl, unhide HX, unhide HB⟩
end Go.Proofs.Ytjflnpcpnoccjaa

