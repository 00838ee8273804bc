import Derived.Test.YtjflnpcpnoccjaaTkC
namespace Go.Proofs.Ytjflnpcpnoccjaa
open Go.RowKit Go.Shelf
attribute [local go_sem] Oper.semAt_some
attribute [local simp] wide_fn
attribute [local go_sem] wide_fn

/-- WHAT AN ITERATOR MUST DO THAT HAS A LOOP OF ITS OWN AROUND THE YIELD: what it is called with speaks of the blocks below W1's end, and of lists from M on; it may raise M as long as nothing has been given. -/
def SeqNet (n : Nat) (gf : Nat) (lb : Array Value) (nn : Nat) (PS : List (Ky nn)) (Nb : Nat) (w : World) : Prop :=
  ∀ (l : Nat) (J : Nat × List (Ky nn) → World → Prop) (W1 : World), Below w.heap.size w W1 → l < W1.heap.size →
    (∀ s W, J s W → Below w.heap.size w W) → OwnFrom W1.heap.size J → (∀ M M2 W, J (M, []) W → M ≤ M2 → M2 ≤ W.heap.size → J (M2, []) W) →
    (∀ s x W, W1.heap.size ≤ s.1 → s.2.length < Nb → J s W → YieldAt Fence.wide (n - 1) Try.prog l (encK x) W fun e W2 => e = .returned (.bool true) ∧ J (s.1, s.2 ++ [x]) W2 ∧ KeepsOthers W W2 ∧ ∀ b, W1.heap.size ≤ b → b < s.1 → W2.heap[b]? = W.heap[b]?) →
    J (W1.heap.size, []) W1 →
    CallsIn Fence.wide n Try.prog gf (#[.func (.yield l) #[] #[]] ++ lb) W1 fun e W2 => (∃ v, e = .returned v) ∧ ∃ M, W1.heap.size ≤ M ∧ J (M, PS) W2
theorem Gs.wide {lo lo2 n R : Nat} {ls : Nat → List Nat} {ga : Nat → Option Addr} {gc : Nat → Nat} {W : World} (h : Gs lo n R ls ga gc W) (h1 : R < lo2) (h2 : lo2 ≤ lo) : Gs lo2 n R ls ga gc W := by
  refine ⟨h.row, fun k hk => ?_, h.ne, h1, Nat.le_trans h2 h.low.2⟩
  obtain ⟨q1, q2⟩ := h.own k hk
  refine ⟨q1, ?_⟩
  rcases q2 with q | ⟨g, cap, cr, r1, r2, r3⟩
  · exact .inl q
  · exact .inr ⟨g, cap, cr, r1, Nat.le_trans h2 r2, r3⟩

set_option maxRecDepth 100000 in
set_option maxHeartbeats 4000000 in
theorem gathered_net {nn : Nat} (hnn : nn ≤ 1048576) (PS : List (Ky nn)) {Nb : Nat} (hP : Nb ≤ 1099511627776) (n : Nat) (hn : 3 ≤ n) (gf : Nat) (lb : Array Value) (eg : ∀ args w, (callFunc gf args).run Try.prog w = .ok (.enter gf args) w) (w : World)
    (hseq : SeqNet (n - 1) gf lb nn PS Nb w) :
    CallsIn Fence.wide n Try.prog 60 #[.int .i64 (nn : Int), .func (.func gf) #[] lb] w fun e W' => ∃ R ga gc, e = .returned (.slice (some ⟨R, 0, none⟩) nn nn) ∧ w.heap.size ≤ R ∧ Gs (R + 2) nn R (gth PS) ga gc W' ∧ Below w.heap.size w W' := by
  have h1 : 1 ≤ n := by omega
  have mk := makeL nn (by omega) w
  obtain ⟨W0, hW0⟩ : ∃ W, W = w.alloc (.cells (madeCells #[.slice none 0 0] nn) 23) := ⟨_, rfl⟩
  rw [← hW0] at mk
  have hz0 : W0.heap.size = w.heap.size + 1 := by rw [hW0]; simp
  refine callsIn_of_wp_marks Try.func60 rfl trivial ?_ rfl
  simp only [Try.ntmps60, List.size_toArray, List.length_cons, List.length_nil, Nat.reduceAdd, Nat.reduceSub, Array.replicate_succ, Array.replicate_zero, List.push_toArray, List.append_toArray, List.nil_append, List.cons_append]
  gi_wp2
  obtain ⟨W1, hW1⟩ : ∃ W, W = (w.alloc (.cells (madeCells #[.slice none 0 0] nn) 23)).alloc (.cells #[.slice (some ⟨w.heap.size, 0, none⟩) nn nn] 22) := ⟨_, rfl⟩
  rw [← hW1]
  have hz1 : W1.heap.size = w.heap.size + 1 + 1 := by rw [hW1]; simp
  have hB1 : Below w.heap.size w W1 := by rw [hW1]; exact (al w _).alloc (by simp) _
  have hX1 : Boxed W1 (w.heap.size + 1) 22 (.slice (some ⟨w.heap.size, 0, none⟩) nn nn) := by
    rw [hW1]
    have := Boxed.new (w.alloc (.cells (madeCells #[.slice none 0 0] nn) 23)) 22 (.slice (some ⟨w.heap.size, 0, none⟩) nn nn)
    rw [World.size_alloc] at this
    exact this
  clear mk
  have HSEQ := hide hseq
  have hz2 : ∀ rc, ((W1.alloc (.deferred (some []))).alloc (.loop rc)).heap.size = w.heap.size + 4 := fun rc => by simp [hz1]
  have hG1 : ∀ lo, w.heap.size < lo → lo ≤ w.heap.size + 4 → ∀ rc, Gs lo nn w.heap.size (gth ([] : List (Ky nn))) (fun _ => none) (fun _ => 0) ((W1.alloc (.deferred (some []))).alloc (.loop rc)) := fun lo h2 h3 rc => by
    refine ⟨?_, fun k _ => World.ownsRow_nil _ _ _ _, fun i j _ _ _ b hb => (by cases hb), h2, by rw [hz2]; exact h3⟩
    have q1 : Below W1.heap.size W1 ((W1.alloc (.deferred (some []))).alloc (.loop rc)) := bl_t (al _ _) (al _ _)
    refine Mv.later ?_ q1
    rw [hW1]
    exact Mv.later ⟨_, heap_new _ _, fun k hk => by rw [made_at _ _ _ hk]; rfl⟩ (al _ _)
  clear hW1 hseq
  refine rangeFunc_net (α := Ky nn) (σ := Nat × List (Ky nn)) (encs := encK (n := nn)) rfl h1 (gf := gf) (lb := lb) rfl trivial eg (fun _ => rfl)
    (fun s W => (∃ ga gc, (s.2 = [] → ga = (fun _ => none) ∧ gc = fun _ => 0) ∧ Boxed W (w.heap.size + 1) 22 (.slice (some ⟨w.heap.size, 0, none⟩) nn nn) ∧ Gs s.1 nn w.heap.size (gth s.2) ga gc W) ∧ Below w.heap.size w W)
    (fun s _ => w.heap.size + 4 ≤ s.1 ∧ s.2.length < Nb) (fun s x => (s.1, s.2 ++ [x])) (fun s W W2 => ∀ b, w.heap.size + 4 ≤ b → b < s.1 → W2.heap[b]? = W.heap[b]?) (fun s => s.2 = PS ∧ w.heap.size + 2 ≤ s.1) ?a1
    (OwnFrom.and (Own.from (fun s A B row hs hg hr => by
      obtain ⟨ga, gc, hn0, hx, hgs⟩ := hs
      exact ⟨ga, gc, hn0, (cells_kept hg hr _ _ _ hx).trans hx, hgs.same (cells_kept hg hr) hg.size⟩) _) (ownFrom_below (Nat.le_refl _) (by omega)))
    ?kp ?assign ?body ?seq ?done
  case kp =>
    intro s W W2 o o2 hl hk hl2 b hb1 hb2
    have hne : b ≠ W1.heap.size + 1 := by omega
    exact (World.putObj_heap_other hne).trans ((hk b hb1 hb2).trans (World.putObj_heap_other hne))
  case seq =>
    intro rc W9 J hW9 hJ hY
    have hz9 : W9.heap.size = w.heap.size + 4 := by rw [hW9]; exact hz2 rc
    have hb9 : Below W1.heap.size W1 W9 := by rw [hW9]; exact bl_t (al _ _) (al _ _)
    refine (unhide HSEQ (W1.heap.size + 1) J W9 (hB1.trans (hb9.mono hB1.size)) (by omega) (fun s W h => by rw [hJ] at h; exact h.1.2) ?_ ?_ ?_ ?_).mono ?_
    · intro s A B row hs hg hr
      rw [hJ] at hs ⊢
      obtain ⟨⟨⟨ga, gc, hn0, hx, hgs⟩, hbb⟩, r1, r2⟩ := hs
      refine ⟨⟨⟨ga, gc, hn0, (cells_kept hg (fun r e => (hr r e).2) _ _ _ hx).trans hx, hgs.same (cells_kept hg fun r e => (hr r e).2) hg.size⟩, hbb.grown hg (Nat.le_trans (Nat.le_refl _) hbb.size) (fun k e => by have := (hr k e).1; omega)⟩, ?_, ?_⟩
      · exact (hg.block _ (Array.getElem?_eq_some_iff.1 r1).1 fun e => by have := (hr _ e.symm).1; omega).trans r1
      · exact (hg.block _ (Array.getElem?_eq_some_iff.1 r2).1 fun e => by have := (hr _ e.symm).1; omega).trans r2
    · intro M M2 W h hM hM2
      rw [hJ] at h ⊢
      obtain ⟨⟨⟨ga, gc, hn0, hx, hgs⟩, hbb⟩, r1, r2⟩ := h
      obtain ⟨e1, e2⟩ := hn0 rfl
      subst e1
      subst e2
      exact ⟨⟨⟨_, _, fun _ => ⟨rfl, rfl⟩, hx, hgs.row, fun k _ => World.ownsRow_nil _ _ _ _, fun i j _ _ _ b hb => (by cases hb), Nat.lt_of_lt_of_le hgs.low.1 hM, hM2⟩, hbb⟩, r1, r2⟩
    · intro s x W hs hlen hj
      rw [hz9] at hs ⊢
      exact hY s x W ⟨hs, hlen⟩ hj
    · rw [hJ]
      refine ⟨⟨⟨_, _, fun _ => ⟨rfl, rfl⟩, ?_, ?_⟩, hB1.trans (hb9.mono hB1.size)⟩, ?_, ?_⟩
      · exact (hb9.block _ hX1.lt).trans hX1
      · rw [hz9, hW9]; exact hG1 _ (by omega) (by omega) rc
      · rw [hW9]; have := World.alloc_heap_new (W1.alloc (.deferred (some []))) (.loop rc); rwa [World.size_alloc] at this
      · rw [hW9]; exact (Below.heap_alloc _ _ _ (by simp)).trans (World.alloc_heap_new W1 _)
    · rintro e W2 ⟨hv, M, hM, hj⟩
      exact ⟨hv, (M, PS), ⟨rfl, by omega⟩, hj⟩
  case assign =>
    intro l x W K hK
    gi_wp2
    exact hK
  case done =>
    rintro D ⟨M, ys⟩ W hD ⟨hS2, hM⟩ ⟨⟨ga, gc, hn0, hx, hgs0⟩, hB⟩ hK
    have hS2 : ys = PS := hS2
    subst hS2
    have hM : w.heap.size + 2 ≤ M := hM
    have hgs : Gs (w.heap.size + 2) nn w.heap.size (gth ys) ga gc W := Gs.wide hgs0 (by omega) hM
    clear hgs0 hn0
    have hc := hx.cell
    have HGS := hide hgs
    have HB := hide hB
    clear hgs hB
    gi_wp2
    refine ⟨by simp, .inl ⟨_, _, rfl, run_takeDeferred hK, ?_⟩⟩
    refine ⟨_, results_tmp rfl _ _ _, w.heap.size, rfl, Nat.le_refl _, ⟨ga, gc, (unhide HGS).same (fun b cur t hb => World.putObj_heap_other (fun e => ?_)) (by simp [World.putObj])⟩, (unhide HB).trans (belowK_b (w := w) (Nat.le_refl _) W D _ _ (by omega) hK rfl rfl)⟩
    subst e
    rw [hb] at hK
    cases hK
  case body =>
    rintro l ⟨M, pre⟩ x W ⟨hM, hlen⟩ ⟨⟨ga, gc, -, hx, hgs⟩, hB⟩
    have hM : w.heap.size + 4 ≤ M := hM
    have hlen : pre.length < Nb := hlen
    have hgs : Gs M nn w.heap.size (gth pre) ga gc W := hgs
    obtain ⟨⟨t, k⟩, ht, hk⟩ := x
    have hk' : k < nn := hk
    have hxc := hx.cell
    obtain ⟨hrc, hrf⟩ := hgs.row.cell hk'
    have hlk := gth_len pre k
    have HSN := hide (show gth (pre ++ [⟨⟨t, k⟩, ht, hk⟩]) = gst (gth pre) t k from gth_snoc pre _)
    have hk2 : (k : Int) < (nn : Int) := by omega
    have hlo := hgs.low.2
    have hsz := hB.size
    obtain ⟨m, hm⟩ : ∃ m, m = (gth pre k).length := ⟨_, rfl⟩
    have hgo := hgs.own k hk'
    rw [← hm] at hrc hgo hlk
    have HM := hide hm
    have HX := hide hx
    have HGS := hide hgs
    have HB := hide hB
    have HGO := hide hgo
    have KEY := hide (show ¬ (gth pre k).getLast? = some t → ∀ (g c : Nat) (w9 : World), w9.ownsRow M 3 1 (.slice (some ⟨g, 0, none⟩) (m + 1) c) (m + 1) (tV (nI (gth pre k)) ++ [.int .i64 (t : Int)]) → (W.drew.alloc (.cells #[.int .i64 (t : Int)] 3)).grownBy w9 (Value.slice (ga k) m (gc k)).ownBlock → ((Value.slice (ga k) m (gc k)).ownBlock = some g ∨ g = W.heap.size + 1) →
        KeepsOthers W (w9.setCell ⟨w.heap.size, k, none⟩ (.slice (some ⟨g, 0, none⟩) (m + 1) c)) ∧ (∀ b, w.heap.size + 4 ≤ b → b < M → (w9.setCell ⟨w.heap.size, k, none⟩ (.slice (some ⟨g, 0, none⟩) (m + 1) c)).heap[b]? = W.heap[b]?) ∧ (∃ ga gc, (pre ++ [(⟨⟨t, k⟩, ht, hk⟩ : Ky nn)] = [] → ga = (fun _ => none) ∧ gc = fun _ => 0) ∧ Boxed (w9.setCell ⟨w.heap.size, k, none⟩ (.slice (some ⟨g, 0, none⟩) (m + 1) c)) (w.heap.size + 1) 22 (.slice (some ⟨w.heap.size, 0, none⟩) nn nn) ∧ Gs M nn w.heap.size (gth (pre ++ [⟨⟨t, k⟩, ht, hk⟩])) ga gc (w9.setCell ⟨w.heap.size, k, none⟩ (.slice (some ⟨g, 0, none⟩) (m + 1) c))) ∧ Below w.heap.size w (w9.setCell ⟨w.heap.size, k, none⟩ (.slice (some ⟨g, 0, none⟩) (m + 1) c)) from by
      intro hne g c w9 h1 h2 h3
      have hbA : Below W.heap.size W (W.drew.alloc (.cells #[.int .i64 (t : Int)] 3)) := bl_t ((Below.refl W.heap.size W).drew) (al _ _)
      have hgA := hgs.later hbA
      have hoA := owns_below hgo hbA
      have hrow : ∀ j, (Value.slice (ga k) m (gc k)).ownBlock = some j → M ≤ j := fun j e => (hoA.lt j e).1
      have hb9 : Below w.heap.size W w9 := (hbA.mono hsz).grown h2 (Nat.le_trans hsz hbA.size) (fun j e => by have := hrow j e; omega)
      have hb10 := hb9.setCell (p := ⟨w.heap.size, k, none⟩) (Nat.le_refl _) (.slice (some ⟨g, 0, none⟩) (m + 1) c)
      have hxA : Boxed (W.drew.alloc (.cells #[.int .i64 (t : Int)] 3)) (w.heap.size + 1) 22 (.slice (some ⟨w.heap.size, 0, none⟩) nn nn) := (hbA.block _ hx.lt).trans hx
      have hx9 : Boxed w9 (w.heap.size + 1) 22 (.slice (some ⟨w.heap.size, 0, none⟩) nn nn) := hxA.kept h2 (fun e => by have := hrow _ e.symm; omega)
      refine ⟨?_, fun b hb1 hb2 => (set_other _ _ _ _ _ (by omega)).trans ((h2.block b ?_ ?_).trans (hbA.block b ?_)), ⟨upd ga k (some ⟨g, 0, none⟩), upd gc k c, fun e => absurd e (by simp), (set_other _ _ _ _ _ (by omega)).trans hx9, ?_⟩, hB.trans hb10⟩
      · refine KeepsOthers.trans (KeepsOthers.trans (KeepsOthers.trans (KeepsOthers.drew W) (KeepsOthers.alloc _ _)) (KeepsOthers.of_grownBy h2 fun j o e ho => ?_)) (KeepsOthers.setCell _ _ _)
        rcases hoA.2 with ⟨q, _⟩ | ⟨g9, cap, cr, q1, _, q3, _⟩
        · rw [q] at e; cases e
        · rw [q1] at e
          cases e
          rw [q3] at ho
          cases ho
          rfl
      · have := hgs.low.2; have := hbA.size; omega
      · intro e; have := hrow b e.symm; omega
      · have := hgs.low.2; omega
      · rw [unhide HSN]
        have e1 : gst (gth pre) t k = upd (gth pre) k (gth pre k ++ [t]) := by
          funext j
          unfold gst upd
          by_cases e : j = k
          · rw [if_pos e, if_pos e, if_neg hne]
          · rw [if_neg e, if_neg e]
        rw [e1]
        rw [hm] at h1 h2 h3
        have h4 := hgA.put hk' h1 h2 (by
          rcases h3 with z | z
          · exact .inl z
          · exact .inr (by rw [z]; simp))
        rw [hm]
        exact h4)
    have HX2 := hide (show ∀ w9, (W.drew.alloc (.cells #[.int .i64 (t : Int)] 3)).grownBy w9 (Value.slice (ga k) m (gc k)).ownBlock → w9.cell? ⟨w.heap.size + 1, 0, none⟩ = some (.slice (some ⟨w.heap.size, 0, none⟩) nn nn) ∧ (∃ old, w9.cell? ⟨w.heap.size, k, none⟩ = some old) ∧ w9.frozen? ⟨w.heap.size, k, none⟩ = false from fun w9 h2 => by
      have hbA : Below W.heap.size W (W.drew.alloc (.cells #[.int .i64 (t : Int)] 3)) := bl_t ((Below.refl W.heap.size W).drew) (al _ _)
      have hoA := owns_below hgo hbA
      have hrow : ∀ j, (Value.slice (ga k) m (gc k)).ownBlock = some j → M ≤ j := fun j e => (hoA.lt j e).1
      have hxA : Boxed (W.drew.alloc (.cells #[.int .i64 (t : Int)] 3)) (w.heap.size + 1) 22 (.slice (some ⟨w.heap.size, 0, none⟩) nn nn) := (hbA.block _ hx.lt).trans hx
      have hx9 : Boxed w9 (w.heap.size + 1) 22 (.slice (some ⟨w.heap.size, 0, none⟩) nn nn) := hxA.kept h2 (fun e => by have := hrow _ e.symm; omega)
      have hr9 : Mv w.heap.size nn 23 (fun k => .slice (ga k) (gth pre k).length (gc k)) w9 := (hgs.row.later hbA).same (h2.block _ (hgs.row.later hbA).lt fun e => by have := hrow _ e.symm; omega)
      exact ⟨hx9.cell, ⟨_, (hr9.cell hk').1⟩, (hr9.cell hk').2⟩)
    have hx1 : (W.drew.alloc (.cells #[.int .i64 (t : Int)] 3)).cell? ⟨w.heap.size + 1, 0, none⟩ = some (.slice (some ⟨w.heap.size, 0, none⟩) nn nn) := (hx.alloc _).cell
    have HX1 := hide hx1
    have hmm : m ≤ 1099511627776 := by omega
    cases hl : gth pre k with
    | nil =>
      have hz : ((m : Int) == 0) = true := by rw [hm, hl]; rfl
      have HNE := hide (show ¬ (gth pre k).getLast? = some t from by rw [hl]; simp)
      clear hx hgs hB hgo hx1 hl hm
      generalize hga : ga k = G at *
      generalize hgc : gc k = C at *
      gi_wp2
      exact rg7 (fun ⟨_, _, h⟩ => h) (fun _ _ _ _ h => h) hlo hmm hk2 (unhide HGO) hxc (unhide HX1) (unhide HX2) (unhide KEY (unhide HNE))
    | cons a r =>
      obtain ⟨m', hm'⟩ : ∃ m', m = m' + 1 := ⟨m - 1, by rw [hm, hl]; simp⟩
      obtain ⟨z, hz⟩ : ∃ z : Nat, (gth pre k).getLast? = some z := ⟨_, List.getLast?_eq_some_getLast (by rw [hl]; simp)⟩
      have hzc : (tV (nI (gth pre k)))[m']? = some (.int .i64 (z : Int)) := by
        rw [List.getLast?_eq_getElem?, ← hm, hm', Nat.add_sub_cancel] at hz
        simp [tV, nI, hz]
      obtain ⟨g', e', hcl⟩ : ∃ g', ga k = some ⟨g', 0, none⟩ ∧ W.cell? ⟨g', m', none⟩ = some (.int .i64 (z : Int)) := by
        have hgo2 := hgo
        rcases hgo.2 with ⟨q, _⟩ | ⟨g9, cap, cr, q1, _⟩
        · injection q with q1 q2 q3
          omega
        · injection q1 with e1 e2 e3
          rw [e1] at hgo2
          exact ⟨g9, e1, owns_at hgo2 m' _ hzc⟩
      have j1 : ((m' + 1 : Nat) : Int) - 1 = (m' : Int) := by omega
      have j2 : IntKind.i64.wrap (m' : Int) = (m' : Int) := IntWalk.i64_in _ (by omega)
      have j3 : (m' : Int) < ((m' + 1 : Nat) : Int) := by omega
      have j4 : (((m' + 1 : Nat) : Int) == 0) = false := by simp; omega
      have HZ := hide hz
      have HMM := hide hm'
      rw [e'] at hrc
      rw [hm'] at hrc
      by_cases hzt : z = t
      · have HEQ := hide (show gth (pre ++ [⟨⟨t, k⟩, ht, hk⟩]) = gth pre from by
          rw [unhide HSN]
          funext j
          unfold gst
          by_cases e : j = k
          · rw [if_pos e, if_pos (by rw [unhide HZ, hzt]), e]
          · rw [if_neg e])
        have hzb : ((z : Int) != (t : Int)) = false := by rw [hzt]; simp
        clear hx hgs hB hgo hx1 hl hm hz hzc KEY HX2 e' hm' hzt
        gi_wp2
        refine ⟨KeepsOthers.refl _, fun _ _ _ => rfl, ⟨ga, gc, fun e => absurd e (by simp), unhide HX, ?_⟩, unhide HB⟩
        rw [unhide HEQ]
        exact unhide HGS
      · have hzb : ((z : Int) != (t : Int)) = true := by simp; omega
        have HNE := hide (show ¬ (gth pre k).getLast? = some t from by
          rw [unhide HZ]
          intro q
          injection q with q
          exact hzt q)
        rw [e', hm'] at HGO HX2 KEY
        have hmm2 : m' + 1 ≤ 1099511627776 := by omega
        clear hx hgs hB hgo hx1 hl hm hz hzc e' hm' hzt
        gi_wp2
        exact rg7 (fun ⟨_, _, h⟩ => h) (fun _ _ _ _ h => h) hlo hmm2 hk2 (unhide HGO) hxc (unhide HX1) (unhide HX2) (unhide KEY (unhide HNE))
end Go.Proofs.Ytjflnpcpnoccjaa
