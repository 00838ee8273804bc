import Derived.Test.YtohnjmhdbbkmbaaDoorStS
namespace Go.Proofs.YtohnjmhdbbkmbaaDoor
open Go.RowKit Go.Shelf
attribute [local go_sem] Oper.semAt_some
attribute [local simp] wide_fn
attribute [local go_sem] wide_fn

/-- WHAT ONE ROUND LEAVES: one more in the list. -/
def Took (n0 Bl m : Nat) (lv : Value) (cs : List Value) (x : Value) (w w' : World) : Prop :=
  ∃ w1 w2 lv2, Below w.heap.size w w1 ∧ w1.heap = w.heap ∧ (w1.alloc (.cells #[x] 39)).grownBy w2 lv.ownBlock ∧ w2.ownsRow n0 39 1 lv2 (m + 1) (cs ++ [x]) ∧ w2.heap[Bl]? = some (.cells #[lv] 24 (0, 0)) ∧ w' = w2.setCell ⟨Bl, 0, none⟩ lv2

theorem put_set (w : World) (l b j : Nat) (o : Obj) (v : Value) (hlt : l < w.heap.size) (h : l ≠ b) : (w.setCell ⟨b, j, none⟩ v).putObj l o = (w.putObj l o).setCell ⟨b, j, none⟩ v := by
  have e : ((w.setCell ⟨b, j, none⟩ v).putObj l o).heap = ((w.putObj l o).setCell ⟨b, j, none⟩ v).heap := by
    apply Array.ext_getElem?
    intro k
    by_cases hk : k = l
    · subst hk
      rw [World.putObj_heap_same (by rw [set_size]; exact hlt), set_other _ _ _ _ _ h, World.putObj_heap_same hlt]
    · rw [World.putObj_heap_other hk]
      by_cases hb : k = b
      · subst hb
        show (w.heap.modify k _)[k]? = ((w.putObj l o).heap.modify k _)[k]?
        rw [Array.getElem?_modify, Array.getElem?_modify, World.putObj_heap_other hk]
      · rw [set_other _ _ _ _ _ hb, set_other _ _ _ _ _ hb, World.putObj_heap_other hk]
  exact congrArg (fun h => ({ w with heap := h } : World)) e
/-- The loop's record is put, and put back. -/
theorem Took.put {n0 Bl m l : Nat} {lv : Value} {cs : List Value} {x : Value} {W W2 : World} {o o2 : Obj} (hl : W.heap[l]? = some o) (ho2 : o2.isCells = false) (hne : l ≠ Bl) (h : Took n0 Bl m lv cs x (W.putObj l o2) W2) (h2 : W2.heap[l]? = some o2) : Took n0 Bl m lv cs x W (W2.putObj l o) := by
  obtain ⟨w1, w2, lv2, b1, e1, g2, r2, x2, rfl⟩ := h
  have hlt : l < W.heap.size := (Array.getElem?_eq_some_iff.1 hl).1
  have hz : w1.heap.size = W.heap.size := by rw [e1, World.putObj_size]
  have hl2 : w2.heap[l]? = some o2 := (set_other _ _ _ _ _ hne).symm.trans h2
  have hlt2 : l < w2.heap.size := (Array.getElem?_eq_some_iff.1 hl2).1
  have hs2 := g2.size
  rw [World.size_alloc, hz] at hs2
  refine ⟨W, w2.putObj l o, lv2, Below.refl _ _, rfl, ⟨?_, ?_, ?_, ?_, fun k hk hr => ?_⟩, ?_, ?_, put_set w2 l Bl 0 o lv2 hlt2 hne⟩
  · show w2.os = W.os
    rw [g2.os]
    exact b1.os
  · show w2.tape = W.tape
    rw [g2.tape]
    exact b1.tape
  · show w2.output = W.output
    rw [g2.output]
    exact b1.output
  · rw [World.size_alloc, World.putObj_size]
    exact hs2
  · rw [World.size_alloc] at hk
    by_cases e : k = l
    · subst e
      rw [World.putObj_heap_same hlt2, Below.heap_alloc _ _ _ hlt, hl]
    · rw [World.putObj_heap_other e, g2.block k (by rw [World.size_alloc, hz]; exact hk) hr]
      by_cases e2 : k < W.heap.size
      · rw [Below.heap_alloc _ _ _ (by omega), Below.heap_alloc _ _ _ e2, e1, World.putObj_heap_other e]
      · obtain rfl : k = W.heap.size := by omega
        have a1 := World.alloc_heap_new w1 (.cells #[x] 39)
        rw [hz] at a1
        rw [a1, World.alloc_heap_new]
  · exact ownsRow_same r2 fun g c _ hc => World.putObj_heap_other fun e => by
      rw [e, hl2] at hc
      cases hc
      cases ho2
  · exact (World.putObj_heap_other (fun e => hne e.symm)).trans x2

/-- A round's end: it goes on. -/
def post3 (B : Nat) (R : World → World → Prop) (W : World) : Exit → Act → World → Prop
  | .normal, _, W2 => (W2.heap[B]? = W.heap[B]? ∧ W2.heap[B + 1]? = W.heap[B + 1]?) ∧ R W W2
  | _, _, _ => False

set_option maxHeartbeats 1000000 in
/-- A RANGE OVER A FUNCTION THAT IS NEVER LEFT, WHATEVER THE ITERATOR DOES. -/
theorem rangeFunc_three {α : Type} {F : Fence} {n : Nat} {P : Program} {g : Operand} {ps : Array Tmp} {assign body : Code} {Q : Exit → Act → World → Prop} {a : Act} {w : World}
    (hro : F.round = none) (h1 : 1 ≤ n) {gf : Nat} {lb : Array Value} (hg : a.eval g = .func (.func gf) #[] lb) (hFg : F.fn gf) (eg : ∀ args w, (callFunc gf args).run P w = .ok (.enter gf args) w)
    {encs : α → Array Value} (hps : ∀ x, (encs x).size = ps.size) (Pre : α → World → Prop) (Rel : α → World → World → Prop) (Fin : World → Prop) (a1 : α → Act)
    (hPre : ∀ x W o o2, W.heap[w.heap.size + 1]? = some o → o.isCells = false → Pre x W → Pre x (W.putObj (w.heap.size + 1) o2))
    (hRel : ∀ x W W2 o o2, W.heap[w.heap.size + 1]? = some o → o.isCells = false → o2.isCells = false → Pre x W → Rel x (W.putObj (w.heap.size + 1) o2) W2 → W2.heap[w.heap.size + 1]? = some o2 → Rel x W (W2.putObj (w.heap.size + 1) o))
    (hFin : ∀ W o o2, W.heap[w.heap.size + 1]? = some o → o.isCells = false → Fin W → Fin (W.putObj (w.heap.size + 1) o2))
    (hassign : ∀ (l : Nat) (x : α) (W : World) (K : Act → World → Prop), K (a1 x) W →
      assign.wpIn (F.inRound l) (n - 1 - 1) P (Exit.then K (fun _ _ _ => False)) { tmps := (ps.zip (encs x)).foldl (fun t (p, v) => t.setIfInBounds p v) a.tmps, defers := [] } W)
    (hbody : ∀ (l : Nat) (x : α) (W : World), W.heap[w.heap.size]? = some (.deferred (some [])) → (∃ r, W.heap[w.heap.size + 1]? = some (.loop r)) → Pre x W → body.wpIn (F.inRound l) (n - 1 - 1) P (post3 w.heap.size (Rel x) W) (a1 x) W)
    (hseq : ∀ (rc : Loop) (W1 : World), W1 = (w.alloc (.deferred (some []))).alloc (.loop rc) →
      (∀ x W, W.heap[w.heap.size + 1]? = some (.loop rc) → W.heap[w.heap.size]? = some (.deferred (some [])) → Pre x W → YieldAt F (n - 1 - 1) P (w.heap.size + 1) (encs x) W fun e W2 =>
        e = .returned (.bool true) ∧ Rel x W W2 ∧ W2.heap[w.heap.size + 1]? = some (.loop rc) ∧ W2.heap[w.heap.size]? = some (.deferred (some []))) →
      CallsIn F (n - 1) P gf (#[.func (.yield (w.heap.size + 1)) #[] #[]] ++ lb) W1 fun e W2 => (∃ v, e = .returned v) ∧ Fin W2 ∧ W2.heap[w.heap.size + 1]? = some (.loop rc) ∧ W2.heap[w.heap.size]? = some (.deferred (some [])))
    (hdone : ∀ (W : World), Fin W → W.heap[w.heap.size]? = some (.deferred (some [])) → Q .normal { a with defers := { target := .collected w.heap.size, args := #[] } :: a.defers } W) :
    (Code.rangeFunc g ps assign body).wpIn F n P Q a w := by
  refine wpIn_rangeFunc ?_
  intro fn hfn
  rw [hro]
  obtain ⟨rc, hrc⟩ : ∃ rc : LoopState → Option Code → Loop, rc = fun st pe => { state := st, pending := pe, fn, tmps := a.tmps, params := ps, assign, body, defers := w.heap.size } := ⟨_, rfl⟩
  refine ⟨w.heap.size + 1, [{ target := .collected w.heap.size, args := #[] }], (w.alloc (.deferred (some []))).alloc (.loop (rc .ready none)), { target := .fn (.func gf) lb, args := #[.func (.yield (w.heap.size + 1)) #[] #[]] }, (w.alloc (.deferred (some []))).alloc (.loop (rc .ready none)), gf,
    #[.func (.yield (w.heap.size + 1)) #[] #[]] ++ lb, (w.alloc (.deferred (some []))).alloc (.loop (rc .ready none)), ?_, ?_, ?_, ?_, fun _ => h1, ?_⟩
  · rw [hrc]; exact run_enterLoop_outer _ _ _ _ _
  · simp only [resolve, hg]
    simp [go_sem]
  · intro f2 hf2; simp [Target.leads] at hf2; subst hf2; exact hFg
  · simp [invoke, go_sem, eg]
  · refine (hseq (rc .ready none) _ rfl ?_).mono ?_
    · -- A ROUND
      rintro x W hl hk hp
      have hlt : w.heap.size + 1 < W.heap.size := (Array.getElem?_eq_some_iff.1 hl).1
      have hy := run_yield (P := P) (args := encs x) hl (by rw [hrc]; exact hps x)
      rw [hrc] at hy
      refine ⟨fn, _, assign, body, hy, roundIn_of_wpIn hfn (hassign _ x W _ ⟨_, run_beginRound hl (by rw [hrc]), ?_⟩)⟩
      have hl2 : (W.putObj (w.heap.size + 1) (.loop { rc .ready none with state := .busy })).heap[w.heap.size + 1]? = some (.loop { rc .ready none with state := .busy }) := World.putObj_heap_same hlt
      have hk2 : (W.putObj (w.heap.size + 1) (.loop { rc .ready none with state := .busy })).heap[w.heap.size]? = some (.deferred (some [])) := (World.putObj_heap_other (by omega)).trans hk
      refine wpIn_mono (hbody _ x _ hk2 ⟨_, hl2⟩ (hPre x W _ _ hl rfl hp)) ?_
      rintro e a3 W3 hq
      cases e with
      | normal =>
        obtain ⟨hs, hrel⟩ := hq
        have hl3 := hs.2.trans hl2
        have hr := run_endRound (P := P) none hl3
        rw [hrc] at hr hl3 hrel hs ⊢
        refine ⟨_, _, hr, rfl, hRel x W W3 _ _ (by rw [hrc] at hl; exact hl) rfl rfl hp hrel hl3, ?_, ?_⟩
        · exact World.putObj_heap_same (Array.getElem?_eq_some_iff.1 hl3).1
        · rw [hrc] at hk2; exact (World.putObj_heap_other (by omega)).trans (hs.1.trans hk2)
      | ret => exact hq.elim
      | exit id => exact hq.elim
      | goto t => exact hq.elim
      | panic ch => exact hq.elim
      | outgrown => exact hq.elim
    · -- BEHIND THE ITERATOR
      rintro e W2 ⟨⟨v, rfl⟩, hf, hl, hk⟩
      exact ⟨none, _, by have := run_endLoop (P := P) hl (by rw [hrc]; simp); rw [hrc] at this; exact this, hdone _ (hFin _ _ _ hl rfl hf) ((World.putObj_heap_other (by omega)).trans hk)⟩

set_option maxRecDepth 100000 in
set_option maxHeartbeats 4000000 in
theorem handOn_y (lo B Bl g n cap ag ac N bl m q : Nat) (k : Int) (lv : Value) (cs : List Value) (w : World) (hn : 1 ≤ n) (hN : 1 ≤ N)
    (hB : w.cell? ⟨B, 0, none⟩ = some (.slice (some ⟨g, 0, none⟩) n cap)) (hg : w.cell? ⟨g, 2, none⟩ = some (.slice (some ⟨ag, 0, none⟩) N ac)) (ha : w.cell? ⟨ag, 0, none⟩ = some (.int .i64 k))
    (hY : ∀ W', W'.heap = w.heap → Below w.heap.size w W' → YieldAt Fence.wide q Tryd.prog lo #[.int .i64 k, .slice (some ⟨g, 0, none⟩) n cap] W' fun e w' => e = .returned (.bool true) ∧ Took bl Bl m lv cs (.slice (some ⟨g, 0, none⟩) n cap) W' w') :
    Calls Tryd.prog 56 #[.pointer (some ⟨B, 0, none⟩), .func (.yield lo) #[] #[]] w fun e w' => e = .returned (.bool true) ∧ Took bl Bl m lv cs (.slice (some ⟨g, 0, none⟩) n cap) w w' := by
  have n1 : (1 : Int) ≤ (n : Int) := by omega
  have n2 : (1 : Int) ≤ (N : Int) := by omega
  have n3 : (0 : Int) < (n : Int) := by omega
  have n4 : (0 : Int) < (N : Int) := by omega
  have n5 : ¬ ((n : Int) = 0) := by omega
  obtain ⟨fn, tmps, assign, body, hy, hR⟩ := hY w.drew rfl ((Below.refl _ _).drew)
  have HR := hide hR
  clear hY hR
  refine (callsIn_wide (n := q + 1)).1 ?_
  refine callsIn_of_wp Tryd.func56 rfl trivial ?_ rfl
  simp only [Tryd.ntmps56, List.size_toArray, List.length_cons, List.length_nil, Nat.reduceAdd, Nat.reduceSub, Array.replicate_succ, Array.replicate_zero, List.push_toArray, List.append_toArray, List.nil_append, List.cons_append]
  gi_wp2
  gi_region_with (first | (with_reducible refine (unhide HR).mono ?_; rintro e w3 ⟨rfl, hT⟩; have HT := hide hT; clear hT) | (go_simp; with_reducible refine (unhide HR).mono ?_; rintro e w3 ⟨rfl, hT⟩; have HT := hide hT; clear hT))
  all_goals
    gi_wp2
    go_ret
    obtain ⟨w1, w2, lv2, b1, e1, r1⟩ := unhide HT
    exact ⟨rfl, w1, w2, lv2, ((Below.refl w.heap.size w).drew).trans b1, e1, r1⟩
end Go.Proofs.YtohnjmhdbbkmbaaDoor
