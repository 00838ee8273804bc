import Derived.Test.YtocjcbdkihbbiaaDoorStS
import Derived.Test.YtocjcbdkihbbiaaDoorLnM
import Derived.Test.YtocjcbdkihbbiaaDoorSwA
namespace Go.Proofs.YtocjcbdkihbbiaaDoor
open Go.RowKit Go.Shelf
attribute [local go_sem] Oper.semAt_some
attribute [local simp] wide_fn
attribute [local go_sem] wide_fn

/-- WHAT LIES BETWEEN M AND Mx IS THE READER's OWN: what a caller holds speaks of the blocks below M, and of cells from Mx up to base. -/
def Clo (M Mx : Nat) (I : Nat → List (List Fd) → World → Prop) : Prop := ∀ base base2 ps X Y, I base ps X → Env X Y → base ≤ base2 → base2 ≤ Y.heap.size → (∀ k, k < base → k < M → Y.heap[k]? = X.heap[k]?) →
  (∀ (k : Nat) (c : Array Value) (t : TypeId) (fr : Nat × Nat), k < base → Mx ≤ k → X.heap[k]? = some (Obj.cells c t fr) → Y.heap[k]? = X.heap[k]?) → I base2 ps Y
/-- WHAT A LOOP OVER THE LINES HOLDS, WHATEVER THE YIELD DOES. -/
structure HoldI (M : Nat) (I : Nat → List (List Fd) → World → Prop) (n0 B : Nat) (w0 W : World) (st : St) : Prop where
  env : Env w0 W
  err : st.err = none
  gl : Glob W
  fr : ∀ k, M ≤ k → k < n0 → k ≠ B → W.heap[k]? = w0.heap[k]?
  sh : ∃ base, base ≤ W.heap.size ∧ (n0 + 2 ≤ base ∨ (st.p = [] ∧ W.heap[B]? = some (.cells #[.slice none 0 0, .map none] 76 (0, 0)))) ∧ Par base B W st.p ∧ I base st.all W
  hn : n0 ≤ W.heap.size
theorem HoldI.cm {M n0 B : Nat} {I : Nat → List (List Fd) → World → Prop} {w0 X Y : World} {st : St} (hI : Clo M (n0 + 2) I) (hM : M ≤ n0) (hg : 0 < n0) (h : HoldI M I n0 B w0 X st) (hk : CM X Y) (hf : ∀ k, k < n0 → Y.heap[k]? = X.heap[k]?) : HoldI M I n0 B w0 Y st := by
  obtain ⟨base, h1, h2, h3, h4⟩ := h.sh
  refine ⟨h.env.trans hk.env, h.err, h.gl.kp ⟨hf _ hg, hk.size⟩, fun k h0 hk1 hk2 => (hf k hk1).trans (h.fr k h0 hk1 hk2), ⟨base, Nat.le_trans h1 hk.size, ?_, h3.cm hk, hI _ _ _ _ _ h4 hk.env (Nat.le_refl _) (Nat.le_trans h1 hk.size) (fun k _ hkM => hf k (by omega)) (fun k c t fr _ _ hc => hk.c k c t fr hc)⟩, Nat.le_trans h.hn hk.size⟩
  rcases h2 with h2 | ⟨h2, h5⟩
  · exact .inl h2
  · exact .inr ⟨h2, (hk.c _ _ _ _ h5).trans h5⟩
theorem HoldI.open' {M n0 B : Nat} {I : Nat → List (List Fd) → World → Prop} {w0 W : World} {st : St} (hI : Clo M (n0 + 2) I) (h : HoldI M I n0 B w0 W st) (hB : B < n0) (hW : n0 + 1 < W.heap.size) :
    ∃ base, base ≤ W.heap.size ∧ n0 + 2 ≤ base ∧ Par base B W st.p ∧ I base st.all W := by
  obtain ⟨base, h1, h2, h3, h4⟩ := h.sh
  rcases h2 with h2 | ⟨h2, h5⟩
  · exact ⟨base, h1, h2, h3, h4⟩
  · exact ⟨W.heap.size, Nat.le_refl _, by omega, by rw [h2]; exact Par.fresh _ (by omega) (Nat.le_refl _) h5, hI _ _ _ _ _ h4 (Env.refl _) h1 (Nat.le_refl _) (fun _ _ _ => rfl) (fun _ _ _ _ _ _ _ => rfl)⟩
theorem HoldI.bx {M n0 B : Nat} {I : Nat → List (List Fd) → World → Prop} {w0 W : World} {st : St} (h : HoldI M I n0 B w0 W st) : ∃ v mv, W.heap[B]? = some (.cells #[v, mv] 76 (0, 0)) := by
  obtain ⟨base, _, _, h3, _⟩ := h.sh
  obtain ⟨v, mv, xs, h1, _⟩ := h3.sh
  exact ⟨v, mv, h1⟩

/-- BEHIND THE HANDING ON. -/
structure MidI (M : Nat) (D : Prop) (n0 B : Nat) (w0 W W2 : World) : Prop where
  env : Env w0 W2
  gl : Glob W2
  gm : W2.heap[0]? = W.heap[0]?
  dn : D
  fr : ∀ k, M ≤ k → k < n0 → k ≠ B → W2.heap[k]? = w0.heap[k]?
  bB : W2.heap[B]? = W.heap[B]?
  lp : ∀ k, n0 ≤ k → k < n0 + 2 → W2.heap[k]? = W.heap[k]?
  size : W.heap.size ≤ W2.heap.size

/-- WHAT A YIELD LEAVES. -/
structure Yd (M Mx : Nat) (W W2 : World) : Prop where
  env : Env W W2
  gm : W2.heap[0]? = W.heap[0]?
  own : ∀ k, M ≤ k → k < Mx → W2.heap[k]? = W.heap[k]?
  size : W.heap.size ≤ W2.heap.size

theorem handOn_genI (M n0 B : Nat) (J : Bool → Nat → List (List Fd) → World → Prop) (w0 W : World) (st : St) (hB : B < n0) (hMB : M ≤ B) (hI : Clo M (n0 + 2) (J true)) (hH : HoldI M (J true) n0 B w0 W st) (hnz : nz st.p) (yv : Value)
    (hwk : ∀ (base g n cap ag ac N : Nat) (n1 : Nat) (nr : List Nat) (f : Fd) (p : List Fd), 1 ≤ n → 1 ≤ N → W.cell? ⟨B, 0, none⟩ = some (.slice (some ⟨g, 0, none⟩) n cap) → W.cell? ⟨g, 2, none⟩ = some (.slice (some ⟨ag, 0, none⟩) N ac) → W.cell? ⟨ag, 0, none⟩ = some (.int .i64 (n1 : Int)) →
      n0 + 2 ≤ base → base ≤ W.heap.size → Wh base W.heap.size W (.slice (some ⟨g, 0, none⟩) n cap) (f :: p) → f.ns = n1 :: nr → shut st = st.all ++ [f :: p] → J true base st.all W →
      Calls Tryd.prog 56 #[.pointer (some ⟨B, 0, none⟩), yv] W fun e w' => ∃ b, e = .returned (.bool b) ∧ Yd M (n0 + 2) W w' ∧ J b w'.heap.size (st.all ++ [f :: p]) w') :
    Calls Tryd.prog 56 #[.pointer (some ⟨B, 0, none⟩), yv] W fun e W2 => ∃ b, e = .returned (.bool b) ∧ MidI M (J b W2.heap.size (shut st) W2) n0 B w0 W W2 := by
  obtain ⟨base, h1, h2, h3, h4⟩ := hH.sh
  by_cases hp : st.p = []
  · rw [hp] at h3
    refine (handOn_none base B _ W h3).mono ?_
    rintro e W2 ⟨rfl, rfl⟩
    have hs : shut st = st.all := by unfold shut; rw [hp]; rfl
    rw [hs]
    exact ⟨true, rfl, hH.env, hH.gl, rfl, hI _ _ _ _ _ h4 (Env.refl _) h1 (Nat.le_refl _) (fun _ _ _ => rfl) (fun _ _ _ _ _ _ _ => rfl), hH.fr, rfl, fun _ _ _ => rfl, Nat.le_refl _⟩
  · obtain ⟨v, mv, xs, hBx, hxs, hpf, hmp⟩ := h3.sh
    cases xs with
    | nil => exact absurd hxs.symm hp
    | cons x xs =>
      have hs : shut st = st.all ++ [x.f :: xs.map fun y : Fs => y.f] := by unfold shut; rw [if_neg (by simpa using hp), ← hxs]; rfl
      have hx := hpf.ok x List.mem_cons_self
      have hrow := hpf.row
      obtain ⟨g, cap, cur, rfl, hg, gb, htk, -⟩ := slice_of (n := xs.length) hrow
      have hfx := hnz x.f (by rw [← hxs]; simp)
      have hN : 1 ≤ x.f.ns.length := List.length_pos_iff.2 hfx.2
      obtain ⟨n1, nr, hns⟩ : ∃ n1 nr, x.f.ns = n1 :: nr := by
        cases e : x.f.ns with
        | nil => exact absurd e hfx.2
        | cons a r => exact ⟨a, r, rfl⟩
      have ca1 : W.cell? ⟨x.ag, 0, none⟩ = some (.int .i64 (n1 : Int)) := by
        have ha := hx.a
        have hN2 : x.f.ns.length = nr.length + 1 := by rw [hns]; rfl
        rcases ha.2 with ⟨e, _⟩ | ⟨ag, ac, ca', e, _, hag, _, _, _, htk2⟩
        · cases e
        · obtain rfl : x.ag = ag := by simpa using (Value.slice.inj e).1
          have := take_get htk2 (j := 0) (u := .int .i64 (n1 : Int)) (by rw [hns]; rfl)
          exact (cell_blk hag 0).1.trans this
      have hb3 : n0 + 2 ≤ base := by
        rcases h2 with h2 | ⟨h2, _⟩
        · exact h2
        · exact absurd h2 hp
      have hwh : Wh base W.heap.size W (.slice (some ⟨g, 0, none⟩) (xs.length + 1) cap) (x.f :: xs.map fun y : Fs => y.f) := by
        refine ⟨x :: xs, rfl, hpf, fun k hk => (ownsRow_blk hpf.row hk).choose_spec.2.2, fun y hy => ⟨?_, ?_⟩⟩
        · exact (ownsRow_blk (hpf.ok y hy).l (g := y.lg) rfl).choose_spec.2.2
        · exact (ownsRow_blk (hpf.ok y hy).a (g := y.ag) rfl).choose_spec.2.2
      refine (hwk base g (xs.length + 1) cap x.ag x.ac x.f.ns.length n1 nr x.f (xs.map fun y : Fs => y.f) (by omega) hN (by simp [World.cell?, hBx]) ((cell_blk hg 2).1.trans (take_get htk ((cells3_at [] x xs 2 (by omega)).trans rfl))) ca1 hb3 h1 hwh hns hs h4).mono ?_
      rintro e W2 ⟨b, rfl, hy, hj⟩
      have hn := hH.hn
      refine ⟨b, rfl, hH.env.trans hy.env, hH.gl.kp ⟨hy.gm, hy.size⟩, hy.gm, by rw [hs]; exact hj, fun k h0 h5 h6 => (hy.own k h0 (by omega)).trans (hH.fr k h0 h5 h6), hy.own B hMB (by omega), fun k h5 h6 => hy.own k (by omega) h6, hy.size⟩

/-- A NEW PARAGRAPH IS OPENED. -/
theorem MidI.reset {M n0 B : Nat} {I : Nat → List (List Fd) → World → Prop} {w0 W W2 : World} {ps : List (List Fd)} (hI : Clo M (n0 + 2) I) (hg : 0 < M) (h : MidI M (I W2.heap.size ps W2) n0 B w0 W W2) (hB : B < n0) (hMB : M ≤ B) {v mv : Value} (hx : W.heap[B]? = some (.cells #[v, mv] 76 (0, 0))) (hW : n0 + 2 ≤ W.heap.size) :
    HoldI M I n0 B w0 ((W2.setCell ⟨B, 0, none⟩ (.slice none 0 0)).setCell ⟨B, 1, none⟩ (.map none)) ⟨ps, [], none⟩ ∧ ∀ k, k ≠ B → ((W2.setCell ⟨B, 0, none⟩ (.slice none 0 0)).setCell ⟨B, 1, none⟩ (.map none)).heap[k]? = W2.heap[k]? := by
  have hz := h.size
  have hs : ((W2.setCell ⟨B, 0, none⟩ (.slice none 0 0)).setCell ⟨B, 1, none⟩ (.map none)).heap.size = W2.heap.size := by rw [set_size, set_size]
  have hk : ∀ k, k ≠ B → ((W2.setCell ⟨B, 0, none⟩ (.slice none 0 0)).setCell ⟨B, 1, none⟩ (.map none)).heap[k]? = W2.heap[k]? := fun k hk => (set_other _ _ _ _ _ hk).trans (set_other _ _ _ _ _ hk)
  have hbx : ((W2.setCell ⟨B, 0, none⟩ (.slice none 0 0)).setCell ⟨B, 1, none⟩ (.map none)).heap[B]? = some (.cells #[.slice none 0 0, .map none] 76 (0, 0)) := set_blk (set_blk (h.bB.trans hx) 0 (.slice none 0 0)) 1 (.map none)
  have he : Env W2 ((W2.setCell ⟨B, 0, none⟩ (.slice none 0 0)).setCell ⟨B, 1, none⟩ (.map none)) := (Env.set _ _ _).trans (Env.set _ _ _)
  refine ⟨⟨h.env.trans he, rfl, h.gl.kp ⟨hk _ (by omega), by rw [hs]; exact Nat.le_refl _⟩, fun k h0 h1 h2 => (hk k h2).trans (h.fr k h0 h1 h2), ⟨_, Nat.le_refl _, .inl (by rw [hs]; omega), Par.fresh _ (by rw [hs]; omega) (Nat.le_refl _) hbx, ?_⟩, by rw [hs]; omega⟩, hk⟩
  exact hI _ _ _ _ _ h.dn he (by rw [hs]; exact Nat.le_refl _) (Nat.le_refl _) (fun k _ h2 => hk k (by omega)) (fun k c t fr _ h2 _ => hk k (by omega))

/-- A LINE IS TAKEN. -/
theorem HoldI.take {M n0 B base : Nat} {I : Nat → List (List Fd) → World → Prop} {w0 W W2 : World} {st : St} (hI : Clo M (n0 + 2) I) (hg : 0 < M) (hMB : M ≤ B) (hB : B < n0) (h : HoldI M I n0 B w0 W st) (hb2 : n0 + 2 ≤ base) (hd : I base st.all W) {p2 : List Fd} (hp2 : Par base B W2 p2) (hf : FB base B W W2) :
    HoldI M I n0 B w0 W2 ⟨st.all, p2, none⟩ :=
  ⟨h.env.trans hf.env, rfl, h.gl.kp ⟨hf.same _ (by omega) (by omega), hf.size⟩, fun k h0 h1 h2 => (hf.same k (by omega) h2).trans (h.fr k h0 h1 h2), ⟨base, hp2.hb, .inl hb2, hp2, hI _ _ _ _ _ hd hf.env (Nat.le_refl _) hp2.hb (fun k h1 h2 => hf.same k h1 (by omega)) (fun k c t fr h1 h2 _ => hf.same k h1 (by omega))⟩, Nat.le_trans h.hn hf.size⟩

end Go.Proofs.YtocjcbdkihbbiaaDoor

namespace Go.Proofs.YtocjcbdkihbbiaaDoor
open Go.RowKit Go.Shelf
attribute [local go_sem] Oper.semAt_some
attribute [local simp] wide_fn
attribute [local go_sem] wide_fn

/-- AN ITERATOR THAT ITSELF ONLY DRAWS. -/
def SeqP {α : Type} (F : Fence) (n : Nat) (P : Program) (g : Nat) (lb : Array Value) (encs : α → Array Value) (Kp : World → World → Prop) (S Sp : List α → Prop) (N : Nat) (w : World) : Prop :=
  ∀ (l : Nat) (J Jx : List α → World → Prop) (W : World), Below w.heap.size w W → (∀ s X m, J s X → J s (X.drewN m)) →
    (∀ pre x W1, J pre W1 → pre.length < N → Sp (pre ++ [x]) → YieldAt F (n - 1) P l (encs x) W1 fun e W2 =>
      (e = .returned (.bool true) ∧ J (pre ++ [x]) W2 ∧ Kp W1 W2) ∨ (e = .returned (.bool false) ∧ Jx (pre ++ [x]) W2)) →
    J [] W →
    CallsIn F n P g (#[.func (.yield l) #[] #[]] ++ lb) W fun e W2 => (∃ v, e = .returned v) ∧ ((∃ xs, S xs ∧ J xs W2) ∨ (∃ pre, Sp pre ∧ Jx pre W2))
set_option maxHeartbeats 1000000 in
/-- A RANGE OVER A FUNCTION WHOSE BODY WRITES MAPS THAT IT MADE ITSELF. -/
theorem rangeFunc_2e {α : Type} {F : Fence} {n : Nat} {P : Program} {g : Operand} {ps : Array Tmp} {assign body : Code} {Q : Exit → Act → World → Prop} {a : Act} {w : World}
    (hro : F.round = none) (h1 : 1 ≤ n) {gf : Nat} {lb : Array Value} (hg : a.eval g = .func (.func gf) #[] lb) (hFg : F.fn gf) (eg : ∀ args w, (callFunc gf args).run P w = .ok (.enter gf args) w)
    {encs : α → Array Value} {Kp : World → World → Prop} {S Sp : List α → Prop} {N : Nat} {w0 : World} (hseq : SeqP F (n - 1) P gf lb encs Kp S Sp N w0)
    (hKt : ∀ {A B C : World}, Kp A B → Kp B C → Kp A C) (hKb : ∀ (W : World) (l : Nat) (o o2 : Obj), w.heap.size ≤ l → W.heap[l]? = some o → o.isCells = false → o.isWalk = false → Kp W (W.putObj l o2)) (hb0 : Below w0.heap.size w0 w) (hps : ∀ x, (encs x).size = ps.size)
    (I : List α → World → Prop) (Ix : Code → List α → World → Prop) (hI : Abide w.heap.size I) (hIx : ∀ c, Abide w.heap.size (Ix c)) (h0 : I [] w) (a1 : α → Act)
    (hassign : ∀ (l : Nat) (x : α) (W : World) (K : Act → World → Prop), K (a1 x) W →
      assign.wpIn (F.inRound l) (n - 1 - 1) P (Exit.then K (fun _ _ _ => False)) { tmps := (ps.zip (encs x)).foldl (fun t (p, v) => t.setIfInBounds p v) a.tmps, defers := [] } W)
    (hbody : ∀ (l : Nat) (pre : List α) (x : α) (W : World), W.heap[w.heap.size]? = some (.deferred (some [])) → (∃ r, W.heap[w.heap.size + 1]? = some (.loop r)) → I pre W → pre.length < N → Sp (pre ++ [x]) → body.wpIn (F.inRound l) (n - 1 - 1) P (post2 w.heap.size Kp I Ix (pre ++ [x]) W) (a1 x) W)
    (hdone : ∀ (D : Nat) (xs : List α) (W : World), D = w.heap.size → S xs → I xs W → W.heap[D]? = some (.deferred (some [])) → Q .normal { a with defers := { target := .collected D, args := #[] } :: a.defers } W)
    (hstop : ∀ (D : Nat) (c : Code) (pre : List α) (W : World), D = w.heap.size → Sp pre → Ix c pre W → W.heap[D]? = some (.deferred (some [])) → c.wpIn F n P Q { a with defers := { target := .collected D, args := #[] } :: a.defers } W) :
    (Code.rangeFunc g ps assign body).wpIn F n P Q a w := by
  refine wpIn_rangeFunc ?_
  intro fn hfn
  rw [hro]
  obtain ⟨rc, hrc⟩ : ∃ rc : LoopState → Option Code → Loop, rc = fun st pe => { state := st, pending := pe, fn, tmps := a.tmps, params := ps, assign, body, defers := w.heap.size } := ⟨_, rfl⟩
  obtain ⟨W1, hW1, hL1, hK1, hI1, hb1⟩ : ∃ W1, (w.alloc (.deferred (some []))).alloc (.loop (rc .ready none)) = W1 ∧ W1.heap[w.heap.size + 1]? = some (.loop (rc .ready none)) ∧ W1.heap[w.heap.size]? = some (.deferred (some [])) ∧ I [] W1 ∧ Below w0.heap.size w0 W1 := by
    refine ⟨_, rfl, ?_, ?_, hI.alloc _ (hI.alloc _ h0), ?_⟩
    · have := World.alloc_heap_new (w.alloc (.deferred (some []))) (.loop (rc .ready none))
      rwa [World.size_alloc] at this
    · exact (Below.heap_alloc _ _ _ (by simp)).trans (World.alloc_heap_new w _)
    · exact hb0.trans ((((Below.refl _ w).alloc (Nat.le_refl _) _).alloc (by simp) _).mono hb0.size)
  have hz1 : W1.heap.size = w.heap.size + 1 + 1 := by rw [← hW1]; simp
  refine ⟨w.heap.size + 1, [{ target := .collected w.heap.size, args := #[] }], W1, { target := .fn (.func gf) lb, args := #[.func (.yield (w.heap.size + 1)) #[] #[]] }, W1, gf,
    #[.func (.yield (w.heap.size + 1)) #[] #[]] ++ lb, W1, ?_, ?_, ?_, ?_, fun _ => h1, ?_⟩
  · rw [← hW1, hrc]; exact run_enterLoop_outer _ _ _ _ _
  · simp only [resolve, hg]
    simp [go_sem]
  · intro f2 hf2; simp [Target.leads] at hf2; subst hf2; exact hFg
  · simp [invoke, go_sem, eg]
  · refine (hseq (w.heap.size + 1)
      (fun pre W => I pre W ∧ W.heap[w.heap.size + 1]? = some (.loop (rc .ready none)) ∧ W.heap[w.heap.size]? = some (.deferred (some [])))
      (fun pre W => ∃ c, Ix c pre W ∧ W.heap[w.heap.size + 1]? = some (.loop (rc .done (some c))) ∧ W.heap[w.heap.size]? = some (.deferred (some [])))
      W1 hb1 ?_ ?_ ⟨hI1, hL1, hK1⟩).mono ?_
    · rintro s X m ⟨i1, i2, i3⟩
      exact ⟨hI s X _ none i1 (grown_drewN X m none) (fun r e => by cases e), i2, i3⟩
    · -- A ROUND
      rintro pre x W ⟨hi, hl, hk⟩ hlen hpre
      have hlt : w.heap.size + 1 < W.heap.size := (Array.getElem?_eq_some_iff.1 hl).1
      have hy := run_yield (P := P) (args := encs x) hl (by rw [hrc]; exact hps x)
      rw [hrc] at hy
      refine ⟨fn, _, assign, body, hy, roundIn_of_wpIn hfn (hassign _ x W _ ⟨_, run_beginRound hl (by rw [hrc]), ?_⟩)⟩
      obtain ⟨Wb, hWb⟩ : ∃ Wb, W.putObj (w.heap.size + 1) (.loop { rc .ready none with state := .busy }) = Wb := ⟨_, rfl⟩
      have hl2 : Wb.heap[w.heap.size + 1]? = some (.loop { rc .ready none with state := .busy }) := by rw [← hWb]; exact World.putObj_heap_same hlt
      have hk2 : Wb.heap[w.heap.size]? = some (.deferred (some [])) := by rw [← hWb]; exact (World.putObj_heap_other (by omega)).trans hk
      have hw2 : Kp W Wb := by rw [← hWb]; exact hKb _ _ _ _ (by omega) hl rfl rfl
      have hi2 : I pre Wb := by rw [← hWb]; exact hI.put _ hi (by omega) hl rfl (fun _ _ e => by cases e)
      rw [hWb]
      refine wpIn_mono (hbody _ pre x Wb hk2 ⟨_, hl2⟩ hi2 hlen hpre) ?_
      have fin : ∀ (jump : Option Code) (W3 : World), (W3.heap[w.heap.size]? = Wb.heap[w.heap.size]? ∧ W3.heap[w.heap.size + 1]? = Wb.heap[w.heap.size + 1]?) →
          (Instr.endRound (w.heap.size + 1) jump).run P W3 = .ok (.bool jump.isNone) (W3.putObj (w.heap.size + 1) (.loop (rc (if jump.isNone then .ready else .done) jump))) ∧
          W3.heap[w.heap.size + 1]? = some (.loop { rc .ready none with state := .busy }) ∧
          (W3.putObj (w.heap.size + 1) (.loop (rc (if jump.isNone then .ready else .done) jump))).heap[w.heap.size + 1]? = some (.loop (rc (if jump.isNone then .ready else .done) jump)) ∧
          (W3.putObj (w.heap.size + 1) (.loop (rc (if jump.isNone then .ready else .done) jump))).heap[w.heap.size]? = some (.deferred (some [])) := fun jump W3 hs => by
        have hl3 := hs.2.trans hl2
        have hr := run_endRound (P := P) jump hl3
        refine ⟨?_, hl3, World.putObj_heap_same (Array.getElem?_eq_some_iff.1 hl3).1, (World.putObj_heap_other (by omega)).trans (hs.1.trans hk2)⟩
        rw [hrc] at hr ⊢
        exact hr
      rintro e a3 W3 hp
      cases e with
      | normal =>
        obtain ⟨hs, hkp, hi3⟩ := hp
        obtain ⟨hr, hl3, hl4, hk4⟩ := fin none W3 hs
        exact ⟨_, _, hr, .inl ⟨rfl, ⟨hI.put _ hi3 (by omega) hl3 rfl (fun _ _ e => by cases e), hl4, hk4⟩, hKt (hKt hw2 hkp) (hKb _ _ _ _ (by omega) hl3 rfl rfl)⟩⟩
      | ret =>
        obtain ⟨hs, hi3⟩ := hp
        obtain ⟨hr, hl3, hl4, hk4⟩ := fin (some .ret) W3 hs
        exact ⟨_, _, hr, .inr ⟨rfl, .ret, (hIx _).put _ hi3 (by omega) hl3 rfl (fun _ _ e => by cases e), hl4, hk4⟩⟩
      | exit id =>
        obtain ⟨hs, hi3⟩ := hp
        obtain ⟨hr, hl3, hl4, hk4⟩ := fin (some (.exit id)) W3 hs
        exact ⟨_, _, hr, .inr ⟨rfl, .exit id, (hIx _).put _ hi3 (by omega) hl3 rfl (fun _ _ e => by cases e), hl4, hk4⟩⟩
      | goto t =>
        obtain ⟨hs, hi3⟩ := hp
        obtain ⟨hr, hl3, hl4, hk4⟩ := fin (some (.goto t)) W3 hs
        exact ⟨_, _, hr, .inr ⟨rfl, .goto t, (hIx _).put _ hi3 (by omega) hl3 rfl (fun _ _ e => by cases e), hl4, hk4⟩⟩
      | panic ch => exact hp.elim
      | outgrown => exact hp.elim
    · -- BEHIND THE ITERATOR
      rintro e W2 ⟨⟨v, rfl⟩, (⟨xs, hS, hi, hl, hk⟩ | ⟨pre, hSp, c, hi, hl, hk⟩)⟩
      · exact ⟨none, _, by have := run_endLoop (P := P) hl (by rw [hrc]; simp); rw [hrc] at this; exact this, hdone _ xs _ rfl hS (hI.put _ hi (by omega) hl rfl (fun _ _ e => by cases e)) ((World.putObj_heap_other (by omega)).trans hk)⟩
      · exact ⟨some c, _, by have := run_endLoop (P := P) hl (by rw [hrc]; simp); rw [hrc] at this; exact this, hstop _ c pre _ rfl hSp ((hIx c).put _ hi (by omega) hl rfl (fun _ _ e => by cases e)) ((World.putObj_heap_other (by omega)).trans hk)⟩


set_option maxRecDepth 100000 in
set_option maxHeartbeats 2000000 in
theorem lines1_p (t : Bs) (ht : t.length ≤ 16777216) (n : Nat) (hn : 1 ≤ n) (l Bt : Nat) (J Jx : List Ln → World → Prop)
    (hJd : ∀ s W m, J s W → J s (W.drewN m))
    (hY : ∀ pre x W, J pre W → pre.length < 16777217 → (∃ r, lnsOf t = (pre ++ [x]).map (·.1) ++ r) → YieldAt Fence.wide (n - 1) Tryd.prog l (encL x) W fun e W2 =>
      (e = .returned (.bool true) ∧ J (pre ++ [x]) W2 ∧ KpL W W2) ∨ (e = .returned (.bool false) ∧ Jx (pre ++ [x]) W2))
    (W : World) (hT : W.cell? ⟨Bt, 0, none⟩ = some (.string (ba t))) (hG : Glob W) (h0 : J [] W) :
    CallsIn Fence.wide n Tryd.prog 70 #[.func (.yield l) #[] #[], .pointer (some ⟨Bt, 0, none⟩)] W fun e W2 => (∃ v, e = .returned v) ∧
      ((∃ xs : List Ln, xs.map (·.1) = lnsOf t ∧ J xs W2) ∨ (∃ pre : List Ln, (∃ r, lnsOf t = pre.map (·.1) ++ r) ∧ Jx pre W2)) := by
  refine callsIn_of_wp Tryd.func70 rfl trivial ?_ rfl
  simp only [Tryd.ntmps70, List.size_toArray, List.length_cons, List.length_nil, Nat.reduceAdd, Nat.reduceSub, Array.replicate_succ, Array.replicate_zero, List.push_toArray, List.append_toArray, List.nil_append, List.cons_append]
  gi_wp2
  gi_loopw [3, 4, 5, 6, 7] (fun rv kv _ _ _ wr => ∃ (pre : List Ln) (rest : Bs), rv = .string (ba rest) ∧ kv = .int .i64 ((pre.length + 1 : Nat) : Int) ∧ Hid (lnsOf t = pre.map (·.1) ++ numb (pre.length + 1) (linesL rest)) ∧ pre.length + rest.length ≤ t.length ∧ Hid (J pre wr) ∧ Hid (Glob wr)) (fun rv _ _ _ _ _ => strLen rv)
  case atStart => exact ⟨[], t, rfl, rfl, hide rfl, by simp, hide h0, hide hG⟩
  case round =>
    obtain ⟨pre, rest, rfl, rfl, HE, hle, HJ, HG⟩ := hrel
    clear hT h0 hG
    by_cases hr : rest = []
    · subst hr
      have hb : (ba []).toList = [] := tl _
      have HF := hide (show pre.map (·.1) = lnsOf t by rw [unhide HE, linesL_nil]; simp [numb])
      clear hY hJd HE
      gi_wp2
      go_end0
      exact ⟨⟨_, rfl⟩, .inl ⟨pre, unhide HF, unhide HJ⟩⟩
    · have hb : (ba rest).toList.isEmpty = false := by rw [ba_tl]; cases rest with
        | nil => exact absurd rfl hr
        | cons _ _ => rfl
      have hlt := aft_lt 10 rest hr
      have hbl := bef_le 10 rest
      have hpos : 0 < rest.length := List.length_pos_iff.2 hr
      have c1 := hide (cCutN rest 10 wr (by omega) (unhide HG))
      obtain ⟨x, hx⟩ : ∃ x : Ln, x.1 = (pre.length + 1, bef 10 rest) := ⟨⟨(pre.length + 1, bef 10 rest), by simp; omega⟩, rfl⟩
      have HE2 := hide (show lnsOf t = (pre ++ [x]).map (·.1) ++ numb ((pre ++ [x]).length + 1) (linesL (aft 10 rest)) by
        rw [unhide HE, linesL_cons rest hr, numb_cons, List.map_append, List.length_append]
        simp [hx])
      have hYN : ∀ m, YieldAt Fence.wide (n - 1) Tryd.prog l #[.int .i64 ((pre.length : Int) + 1), .string (ba (bef 10 rest))] (wr.drewN m) fun e W2 =>
          ∃ bb : Bool, e = .returned (.bool bb) ∧ Hid ((bb = true ∧ J (pre ++ [x]) W2 ∧ KpL (wr.drewN m) W2) ∨ (bb = false ∧ Jx (pre ++ [x]) W2)) := by
        intro m
        have h := hY pre x (wr.drewN m) (hJd _ _ _ (unhide HJ)) (by omega) ⟨_, unhide HE2⟩
        unfold encL at h
        rw [hx] at h
        have e0 : (((pre.length + 1, bef 10 rest) : Nat × Bs).1 : Int) = (pre.length : Int) + 1 := by simp
        rw [e0] at h
        obtain ⟨fn, tmps, assign, body, hy, hR⟩ := h
        refine ⟨fn, tmps, assign, body, hy, hR.mono ?_⟩
        rintro e W2 (⟨rfl, h1, h2⟩ | ⟨rfl, h1⟩)
        · exact ⟨true, rfl, hide (.inl ⟨rfl, h1, h2⟩)⟩
        · exact ⟨false, rfl, hide (.inr ⟨rfl, h1⟩)⟩
      have HYN := hide hYN
      have HX := hide hx
      have HLen := hide (show (pre ++ [x]).length = pre.length + 1 by simp)
      have sz : (ba (aft 10 rest)).size < (ba rest).size := by rw [ba_size, ba_size]; exact hlt
      clear hYN hY hJd hr hx HE
      have hcast : ((pre.length + 1 : Nat) : Int) = (pre.length : Int) + 1 := by omega
      gi_wp2_with (gi_at_call 71; refine (callsIn_wide.2 (unhide c1)).mono ?_; rintro e w1 ⟨rfl, q, rfl⟩; obtain ⟨fn, tmps, assign, body, hy, hR⟩ := unhide HYN q; have HR := hide hR; clear hR HYN c1)
      refine (unhide HR).mono ?_
      rintro e W3 ⟨bb, rfl, hq⟩
      rcases unhide hq with ⟨rfl, hJ3, hk3⟩ | ⟨rfl, hJx3⟩
      · have HJ3 := hide hJ3
        have HG3 := hide (((unhide HG).drewN q).kp hk3)
        clear hJ3 hk3 hq HR
        gi_wp2
        go_roundw
        case rel => exact ⟨pre ++ [x], aft 10 rest, rfl, congrArg (Value.int .i64) (by rw [unhide HLen]; omega), HE2, by rw [unhide HLen]; omega, HJ3, HG3⟩
        case measure => exact sz
      · have HJx := hide hJx3
        clear hJx3 hq HR
        gi_wp2
        refine bodyPost_ret (results_none rfl _ _ _) rfl ?_
        exact ⟨⟨_, rfl⟩, .inr ⟨pre ++ [x], ⟨_, unhide HE2⟩, unhide HJx⟩⟩

/-- A TEXT'S LINES, AS AN ITERATOR. -/
theorem lines_seqp (t : Bs) (ht : t.length ≤ 16777216) (n : Nat) (hn : 1 ≤ n) (Bt : Nat) (w : World) (hBt : Bt < w.heap.size) (hT : w.cell? ⟨Bt, 0, none⟩ = some (.string (ba t))) (hG : Glob w) :
    SeqP Fence.wide n Tryd.prog 70 #[.pointer (some ⟨Bt, 0, none⟩)] encL KpL (fun xs => xs.map (·.1) = lnsOf t) (fun pre => ∃ r, lnsOf t = pre.map (·.1) ++ r) 16777217 w := fun l J Jx W hW hJ hY h0 =>
  lines1_p t ht n hn l Bt J Jx hJ hY W ((hW.cell (p := ⟨Bt, 0, none⟩) hBt).trans hT) (hG.later (n := w.heap.size) hG.big hW) h0


/-- WHAT Each GIVES: the paragraphs ahead of what is wrong. -/
def gw (t : Bs) : List (List Fd) := match (parseT t).err with
  | none => shut (parseT t)
  | some _ => (parseT t).all
theorem shut_pre (st : St) : ∃ r, shut st = st.all ++ r := by
  unfold shut
  split
  · exact ⟨[], by simp⟩
  · exact ⟨[st.p], rfl⟩
theorem stp_pre (st : St) (x : Nat × Bs) : ∃ r, (stp st x).all = st.all ++ r := by
  unfold stp
  split
  · exact ⟨[], by simp⟩
  · split
    · exact shut_pre st
    · split
      · exact ⟨[], by simp⟩
      · exact ⟨[], by simp⟩
theorem fold_pre (xs : List (Nat × Bs)) : ∀ st : St, ∃ r, (xs.foldl stp st).all = st.all ++ r := by
  induction xs with
  | nil => exact fun st => ⟨[], by simp⟩
  | cons x r ih =>
    intro st
    obtain ⟨a, ha⟩ := ih (stp st x)
    obtain ⟨b, hb⟩ := stp_pre st x
    exact ⟨b ++ a, by rw [List.foldl_cons, ha, hb, List.append_assoc]⟩
theorem gw_all (t : Bs) : ∃ r, gw t = (parseT t).all ++ r := by
  unfold gw
  split
  · exact shut_pre _
  · exact ⟨[], by simp⟩
/-- WHAT IS HANDED ON BEGINS WHAT IS GIVEN. -/
theorem gw_pre (t : Bs) (xs : List (Nat × Bs)) (r : List (Nat × Bs)) (h : lnsOf t = xs ++ r) : ∃ r2, gw t = (runL xs).all ++ r2 := by
  obtain ⟨a, ha⟩ := gw_all t
  obtain ⟨b, hb⟩ := fold_pre r (runL xs)
  have : (parseT t).all = (runL xs).all ++ b := by
    rw [← hb]
    unfold parseT
    show (runL (lnsOf t)).all = _
    rw [h]
    unfold runL
    rw [List.foldl_append]
  exact ⟨b ++ a, by rw [ha, this, List.append_assoc]⟩
end Go.Proofs.YtocjcbdkihbbiaaDoor

namespace Go.Proofs.YtocjcbdkihbbiaaDoor
open Go.RowKit Go.Shelf
attribute [local go_sem] Oper.semAt_some
attribute [local simp] wide_fn
attribute [local go_sem] wide_fn

set_option maxRecDepth 100000 in
set_option maxHeartbeats 4000000 in
theorem read_it (t : Bs) (ht : t.length ≤ 16777216) (n : Nat) (hn : 5 ≤ n) (M : Nat) (T : Fn) (L : Array Value) (J : Bool → Nat → List (List Fd) → World → Prop) (w : World) (hG : Glob w) (hM : M ≤ w.heap.size) (hgM : 2 < M) (hJ : ∀ b, Clo M (w.heap.size + 7) (J b)) (hJ0 : J true w.heap.size [] w)
    (hHO : ∀ (n0 B : Nat) (w0 W : World) (st : St), (∀ i, i < w.heap.size → w0.heap[i]? = w.heap[i]?) → n0 = w.heap.size + 5 → w.heap.size ≤ B → B < n0 → HoldI M (J true) n0 B w0 W st → nz st.p → (∃ r, gw t = shut st ++ r) →
      Calls Tryd.prog 56 #[.pointer (some ⟨B, 0, none⟩), .func T #[] L] W fun e W2 => ∃ b, e = .returned (.bool b) ∧ MidI M (J b W2.heap.size (shut st) W2) n0 B w0 W W2) :
    CallsIn Fence.wide n Tryd.prog 35 #[.string (ba t), .func T #[] L] w fun e W2 => ∃ k er : Nat, e = .returned (.tuple #[.int .i64 k, .int .i64 er]) ∧
      Env w W2 ∧ Glob W2 ∧ (∀ i, M ≤ i → i < w.heap.size → W2.heap[i]? = w.heap[i]?) ∧ w.heap.size ≤ W2.heap.size ∧ (J true W2.heap.size (gw t) W2 ∨ ∃ ps, J false W2.heap.size ps W2) := by
  have HHO := hide hHO
  clear hHO
  have h1 : 1 ≤ n := by omega
  have hbig := hG.big
  refine callsIn_of_wp_marks Tryd.func35 rfl trivial ?_ rfl
  simp only [Tryd.ntmps35, List.size_toArray, List.length_cons, List.length_nil, Nat.reduceAdd, Nat.reduceSub, Array.replicate_succ, Array.replicate_zero, List.push_toArray, List.append_toArray, List.nil_append, List.cons_append]
  gi_wp2_with (gi_at_call 54; refine (lines_in _ (n - 1) _).mono ?_; rintro e w' ⟨rfl, rfl⟩)
  obtain ⟨w0, hw0, hS⟩ := start_of t (.func T #[] L) 0 w
  rw [hw0]
  clear hw0
  have hz := hS.z
  have hG0 : Glob w0 := hG.later (n := w.heap.size) hbig hS.bel
  have hbg : 0 < M := by omega
  have hI : ∀ b, Clo M (w0.heap.size + 2) (J b) := fun b => by rw [hz]; exact hJ b
  have HJI := hide hI
  have hIt := hI true
  have H0 : HoldI M (J true) w0.heap.size (w.heap.size + 1 + 1 + 1) w0 w0 st0 := ⟨Env.refl _, rfl, hG0, fun _ _ _ _ => rfl, ⟨w0.heap.size, Nat.le_refl _, .inr ⟨rfl, hS.b⟩, Par.fresh _ (by omega) (Nat.le_refl _) hS.b, hIt _ _ _ _ _ hJ0 (Env.bel hS.bel) (by omega) (Nat.le_refl _) (fun k hk _ => hS.old k hk) (fun k _ _ _ hk _ _ => hS.old k hk)⟩, Nat.le_refl _⟩
  refine rangeFunc_2e rfl h1 (gf := 70) (lb := #[.pointer (some ⟨w.heap.size + 1 + 1 + 1 + 1, 0, none⟩)]) rfl trivial (enters_of Tryd.func70 (by kernel_rfl) rfl)
    (lines_seqp t ht (n - 1) (by omega) (w.heap.size + 1 + 1 + 1 + 1) w0 (by omega) (cell_blk hS.t 0).1 hG0) (fun h k => ⟨k.1.trans h.1, Nat.le_trans h.2 k.2⟩) ?kb (Below.refl _ _) (fun _ => rfl)
    (fun pre W => HoldI M (J true) w0.heap.size (w.heap.size + 1 + 1 + 1) w0 W (runL (pre.map (·.1))))
    (fun c pre W => c = .ret ∧ Env w0 W ∧ Glob W ∧ ∃ k er : Nat, W.heap[w.heap.size + 1]? = some (.cells #[.int .i64 k] 3 (0, 0)) ∧ W.heap[w.heap.size + 1 + 1]? = some (.cells #[.int .i64 er] 25 (0, 0)) ∧ (∀ i, M ≤ i → i < w.heap.size → W.heap[i]? = w.heap[i]?) ∧ w0.heap.size ≤ W.heap.size ∧ (((runL (pre.map (·.1))).err = some (k, er) ∧ J true W.heap.size (runL (pre.map (·.1))).all W) ∨ ∃ ps, J false W.heap.size ps W))
    ?ab ?abx H0
    (fun x => { tmps := #[.string (ba t), .func T #[] L, undef, .pointer (some ⟨w.heap.size, 0, none⟩), .pointer (some ⟨w.heap.size + 1, 0, none⟩), .pointer (some ⟨w.heap.size + 1 + 1, 0, none⟩), .pointer (some ⟨w.heap.size + 1 + 1 + 1, 0, none⟩), .int .i64 x.1.1, .string (ba x.1.2), undef, undef, .string (ba t), .func (.func 70) #[] #[.pointer (some ⟨w.heap.size + 1 + 1 + 1 + 1, 0, none⟩)], .int .i64 x.1.1, .string (ba x.1.2), undef, undef, undef, undef, undef, undef, undef, undef, undef, undef, undef, undef, undef, undef, undef, undef, undef, undef], defers := [] }) ?assign ?body ?done ?stop
  case kb =>
    intro W l o o2 hl ho _ _
    exact ⟨World.putObj_heap_other (by omega), (grownBy_putObj' W l o2).size⟩
  case ab =>
    intro s X Y row hs hg hr
    refine HoldI.cm hIt (by omega) (by omega) hs (CM.of_grown hg hr) fun k hk => hg.block k (by have := hs.hn; omega) fun e => ?_
    have := (hr k e.symm).1
    omega
  case abx =>
    rintro c s X Y row ⟨hc, hev, hgl, k, er, a2, a3, a4, a5, a6⟩ hg hr
    have hk := CM.of_grown hg hr
    have hlow : ∀ k, k < w0.heap.size → Y.heap[k]? = X.heap[k]? := fun k hk => hg.block k (by omega) fun e => by
      have := (hr k e.symm).1
      omega
    have cl : ∀ b ps, J b X.heap.size ps X → J b Y.heap.size ps Y := fun b ps h => hI b _ _ _ _ _ h hk.env hk.size (Nat.le_refl _) (fun k _ h2 => hlow k (by omega)) (fun k c t fr _ _ hc => hk.c k c t fr hc)
    refine ⟨hc, hev.trans hk.env, hgl.kp ⟨hlow _ (by omega), hk.size⟩, k, er, (hk.c _ _ _ _ a2).trans a2, (hk.c _ _ _ _ a3).trans a3, fun i h0 hi => (hlow i (by omega)).trans (a4 i h0 hi), Nat.le_trans a5 hk.size, ?_⟩
    rcases a6 with ⟨a6, a7⟩ | ⟨ps, a7⟩
    · exact .inl ⟨a6, cl _ _ a7⟩
    · exact .inr ⟨ps, cl _ _ a7⟩
  case assign =>
    intro l x W K hK
    gi_wp2
    exact hK
  case body =>
    rintro l pre x W hD ⟨r, hL⟩ hH hlen ⟨rr, hrr⟩
    obtain ⟨⟨k, s⟩, hx1, hx2, hx3⟩ := x
    simp only at hx1 hx2 hx3
    have hgp := gw_pre t _ _ hrr
    have hpost : ∀ W2 st2, stp (runL (pre.map (·.1))) (k, s) = st2 → HoldI M (J true) w0.heap.size (w.heap.size + 1 + 1 + 1) w0 W2 st2 → HoldI M (J true) w0.heap.size (w.heap.size + 1 + 1 + 1) w0 W2 (runL ((pre ++ [(⟨(k, s), hx1, hx2, hx3⟩ : Ln)]).map (·.1))) := fun W2 st2 e h => by
      rw [List.map_append]
      show HoldI _ _ _ _ _ _ (runL (pre.map (·.1) ++ [(k, s)]))
      rw [runL_snoc, e]
      exact h
    have hpx : ∀ a b, (stp (runL (pre.map (·.1))) (k, s)).err = some (a, b) → (runL ((pre ++ [(⟨(k, s), hx1, hx2, hx3⟩ : Ln)]).map (·.1))).err = some (a, b) := fun a b e => by
      rw [List.map_append]
      show (runL (pre.map (·.1) ++ [(k, s)])).err = _
      rw [runL_snoc, e]
    have hpa : (runL ((pre ++ [(⟨(k, s), hx1, hx2, hx3⟩ : Ln)]).map (·.1))).all = (stp (runL (pre.map (·.1))) (k, s)).all := by
      rw [List.map_append]
      show (runL (pre.map (·.1) ++ [(k, s)])).all = _
      rw [runL_snoc]
    rw [hpa] at hgp
    have HGP := hide hgp
    clear hgp hrr
    have hbd := Bd.run (pre.map (·.1))
    rw [List.length_map] at hbd
    generalize runL (pre.map (·.1)) = st at *
    have HP := hide hpost
    have HPA := hide hpa
    have HPX := hide hpx
    clear hpost hpx hpa H0
    have cK := hide (show Calls Tryd.prog 55 #[.string (ba s)] W fun e w' => e = .returned (.int .i64 (kd s)) ∧ Below W.heap.size W w' by
      have := kindOf_any (ba s) W (by rw [ba_size]; omega)
      rw [ba_list] at this
      exact this)
    have HH := hide (fun Wk (hb : Below W.heap.size W Wk) => show HoldI M (J true) w0.heap.size (w.heap.size + 1 + 1 + 1) w0 Wk st from HoldI.cm hIt (by omega) (by omega) hH (CM.of_below hb) fun k hk => hb.block k (by have := hH.hn; omega))
    have herr := hH.err
    have hltD : w0.heap.size < W.heap.size := (Array.getElem?_eq_some_iff.1 hD).1
    have hltL : w0.heap.size + 1 < W.heap.size := (Array.getElem?_eq_some_iff.1 hL).1
    have HDL := hide (fun Wk (hb : Below W.heap.size W Wk) => show Wk.heap[w0.heap.size]? = some (.deferred (some [])) ∧ Wk.heap[w0.heap.size + 1]? = some (.loop r) from ⟨(hb.block _ hltD).trans hD, (hb.block _ hltL).trans hL⟩)
    have HYb := hide (show ∀ Wk, HoldI M (J true) w0.heap.size (w.heap.size + 1 + 1 + 1) w0 Wk st → Wk.cell? ⟨w.heap.size, 0, none⟩ = some (.func T #[] L) from fun Wk h => (cell_blk ((h.fr w.heap.size (by omega) (by omega) (by omega)).trans hS.y) 0).1)
    by_cases hk0 : kd s = 0
    · have hst : stp st (k, s) = ⟨shut st, [], none⟩ := by
        unfold stp
        rw [herr]
        simp [hk0]
      rw [hk0] at cK
      gi_wp2_with (first | (refine ⟨fun _ => (by omega), ?_⟩; gi_at_call 55; refine (CallsIn.inRound l (callsIn_wide.2 (unhide cK))).mono ?_; rintro e Wk ⟨rfl, hbk⟩; have HBk := hide hbk; have cy := unhide HYb Wk (unhide HH Wk hbk); clear hbk) | (refine ⟨fun _ => (by omega), ?_⟩; gi_at_call 56; refine (CallsIn.inRound l (callsIn_wide.2 (unhide HHO w0.heap.size (w.heap.size + 1 + 1 + 1) w0 Wk st hS.old (by omega) (by omega) (by omega) (unhide HH Wk (unhide HBk)) hbd.z (by have := unhide HGP; rw [hst] at this; exact this)))).mono ?_; rintro e W2 ⟨b, rfl, hmid⟩; have HXn := hide ((hmid.fr (w.heap.size + 1) (by omega) (by omega) (by omega)).trans hS.n); have HXe := hide ((hmid.fr (w.heap.size + 1 + 1) (by omega) (by omega) (by omega)).trans hS.e); have dn := (cell_blk (unhide HXn) 0).1; have fn := (cell_blk (unhide HXn) 0).2; have de := (cell_blk (unhide HXe) 0).1; have fe := (cell_blk (unhide HXe) 0).2; have HMid := hide hmid; have HXk := hide (HoldI.bx (unhide HH Wk (unhide HBk))).choose_spec.choose_spec; have HX2 := hide (hmid.bB.trans (unhide HXk)); have d0 := (cell_blk (unhide HX2) 0).1; have f0 := (cell_blk (unhide HX2) 0).2; have d1 := (cell_blk (unhide HX2) 1).1; have f1 := (cell_blk (unhide HX2) 1).2; clear hmid; cases b))
      · obtain ⟨hd1, hd2⟩ := unhide HDL Wk (unhide HBk)
        have hm := unhide HMid
        have hbk := unhide HBk
        have hzk := hbk.size
        have hms := hm.size
        have s1 : ∀ i, i ≠ w.heap.size + 1 → i ≠ w.heap.size + 1 + 1 → ((W2.setCell ⟨w.heap.size + 1, 0, none⟩ (.int .i64 0)).setCell ⟨w.heap.size + 1 + 1, 0, none⟩ (.int .i64 0)).heap[i]? = W2.heap[i]? := fun i h2 h3 => (set_other _ _ _ _ _ h3).trans (set_other _ _ _ _ _ h2)
        have s2 : ((W2.setCell ⟨w.heap.size + 1, 0, none⟩ (.int .i64 0)).setCell ⟨w.heap.size + 1 + 1, 0, none⟩ (.int .i64 0)).heap.size = W2.heap.size := by rw [set_size, set_size]
        have hev : Env W2 ((W2.setCell ⟨w.heap.size + 1, 0, none⟩ (.int .i64 0)).setCell ⟨w.heap.size + 1 + 1, 0, none⟩ (.int .i64 0)) := (Env.set _ _ _).trans (Env.set _ _ _)
        refine ⟨⟨?_, ?_⟩, rfl, hm.env.trans hev, hm.gl.kp ⟨s1 _ (by omega) (by omega), by rw [s2]; exact Nat.le_refl _⟩, 0, 0, ?_, ?_, ?_, by rw [s2]; omega, .inr ⟨shut st, ?_⟩⟩
        · rw [s1 _ (by omega) (by omega), hm.lp _ (by omega) (by omega), hbk.block _ hltD]
        · rw [s1 _ (by omega) (by omega), hm.lp _ (by omega) (by omega), hbk.block _ hltL]
        · rw [set_other _ _ _ _ _ (by omega)]
          exact set_blk (unhide HXn) 0 (.int .i64 0)
        · exact set_blk ((set_other _ _ _ _ _ (by omega)).trans (unhide HXe)) 0 (.int .i64 0)
        · intro i h0 hi
          rw [s1 _ (by omega) (by omega), hm.fr _ h0 (by omega) (by omega), hS.old _ hi]
        · exact (unhide HJI) false _ _ _ _ _ hm.dn hev (by rw [s2]; exact Nat.le_refl _) (Nat.le_refl _) (fun k _ h2 => s1 k (by omega) (by omega)) (fun k c t fr _ h2 _ => s1 k (by omega) (by omega))
      · gi_wp2_with fail
        obtain ⟨hr1, hr2⟩ := MidI.reset (unhide HJI true) (by omega) (unhide HMid) (by omega) (by omega) (unhide HXk) (by have := (unhide HBk).size; omega)
        obtain ⟨hd1, hd2⟩ := unhide HDL Wk (unhide HBk)
        have hm := unhide HMid
        have hbk := unhide HBk
        have hzk := hbk.size
        refine ⟨⟨?_, ?_⟩, ⟨?_, ?_⟩, unhide HP _ _ hst hr1⟩
        · rw [hr2 _ (by omega), hm.lp _ (by omega) (by omega), hbk.block _ hltD]
        · rw [hr2 _ (by omega), hm.lp _ (by omega) (by omega), hbk.block _ hltL]
        · rw [hr2 _ (by omega), hm.gm, hbk.block _ (by omega)]
        · have := hm.size
          have h7 : ((W2.setCell ⟨w.heap.size + 1 + 1 + 1, 0, none⟩ (.slice none 0 0)).setCell ⟨w.heap.size + 1 + 1 + 1, 1, none⟩ (.map none)).heap.size = W2.heap.size := by rw [set_size, set_size]
          rw [h7]
          omega
    · have HOp := hide (fun Wk (hb : Below W.heap.size W Wk) => HoldI.open' (unhide HJI true) (unhide HH Wk hb) (by omega) (by have := hb.size; omega))
      have HGl := hide (fun Wk (hb : Below W.heap.size W Wk) => (unhide HH Wk hb).gl)
      have hbd2 : bd 16777216 st.p := hbd.b.mono (by omega)
      by_cases hT : (takeP st.p k s).1 = 0
      · have hst : stp st (k, s) = ⟨st.all, (takeP st.p k s).2, none⟩ := by
          unfold stp
          rw [herr]
          simp [hk0, hT]
        have hT2 : ((takeP st.p k s).1 : Int) = 0 := by omega
        have hkn : ¬ ((kd s : Int) = 0) := by omega
        gi_wp2_with (first | (refine ⟨fun _ => (by omega), ?_⟩; gi_at_call 55; refine (CallsIn.inRound l (callsIn_wide.2 (unhide cK))).mono ?_; rintro e Wk ⟨rfl, hbk⟩; have HBk := hide hbk; obtain ⟨base, q1, q2, q3, q4⟩ := unhide HOp Wk hbk; have HQ3 := hide q3; have HQ4 := hide q4; clear hbk q3 q4) | (refine ⟨fun _ => (by omega), ?_⟩; gi_at_call 57; refine (CallsIn.inRound l (callsIn_wide.2 (take_any base (w.heap.size + 1 + 1 + 1) st.p k s Wk hx3 hk0 (unhide HQ3) (unhide HGl Wk (unhide HBk)) hbd2 hx1 hx2))).mono ?_; rintro e W2 ⟨rfl, hp2, hf2⟩; have HP2 := hide hp2; have HF2 := hide hf2; clear hp2 hf2))
        have hf := unhide HF2
        have hbk := unhide HBk
        have hzk := hbk.size
        have hzf := hf.size
        refine ⟨⟨?_, ?_⟩, ⟨?_, by omega⟩, unhide HP _ _ hst (HoldI.take (unhide HJI true) (by omega) (by omega) (by omega) (unhide HH Wk hbk) q2 (unhide HQ4) (unhide HP2) hf)⟩
        · rw [hf.same _ (by omega) (by omega), hbk.block _ hltD]
        · rw [hf.same _ (by omega) (by omega), hbk.block _ hltL]
        · rw [hf.same _ (by omega) (by omega), hbk.block _ (by omega)]
      · have hste : (stp st (k, s)).err = some (k, (takeP st.p k s).1) := by
          unfold stp
          rw [herr]
          simp [hk0, hT]
        have hT2 : ¬ ((takeP st.p k s).1 : Int) = 0 := by omega
        have hkn : ¬ ((kd s : Int) = 0) := by omega
        gi_wp2_with (first | (refine ⟨fun _ => (by omega), ?_⟩; gi_at_call 55; refine (CallsIn.inRound l (callsIn_wide.2 (unhide cK))).mono ?_; rintro e Wk ⟨rfl, hbk⟩; have HBk := hide hbk; obtain ⟨base, q1, q2, q3, q4⟩ := unhide HOp Wk hbk; have HQ3 := hide q3; have HQ4 := hide q4; clear hbk q3 q4) | (refine ⟨fun _ => (by omega), ?_⟩; gi_at_call 57; refine (CallsIn.inRound l (callsIn_wide.2 (take_any base (w.heap.size + 1 + 1 + 1) st.p k s Wk hx3 hk0 (unhide HQ3) (unhide HGl Wk (unhide HBk)) hbd2 hx1 hx2))).mono ?_; rintro e W2 ⟨rfl, hp2, hf2⟩; have HP2 := hide hp2; have HF2 := hide hf2; have HXn := hide ((hf2.same (w.heap.size + 1) (by omega) (by omega)).trans (((unhide HH Wk (unhide HBk)).fr (w.heap.size + 1) (by omega) (by omega) (by omega)).trans hS.n)); have HXe := hide ((hf2.same (w.heap.size + 1 + 1) (by omega) (by omega)).trans (((unhide HH Wk (unhide HBk)).fr (w.heap.size + 1 + 1) (by omega) (by omega) (by omega)).trans hS.e)); have dn := (cell_blk (unhide HXn) 0).1; have fn := (cell_blk (unhide HXn) 0).2; have de := (cell_blk (unhide HXe) 0).1; have fe := (cell_blk (unhide HXe) 0).2; clear hp2 hf2))
        have hf := unhide HF2
        have hbk := unhide HBk
        have hzk := hbk.size
        have hzf := hf.size
        have s1 : ∀ i, i ≠ w.heap.size + 1 → i ≠ w.heap.size + 1 + 1 → ((W2.setCell ⟨w.heap.size + 1, 0, none⟩ (.int .i64 k)).setCell ⟨w.heap.size + 1 + 1, 0, none⟩ (.int .i64 (takeP st.p k s).1)).heap[i]? = W2.heap[i]? := fun i h2 h3 => (set_other _ _ _ _ _ h3).trans (set_other _ _ _ _ _ h2)
        have s2 : ((W2.setCell ⟨w.heap.size + 1, 0, none⟩ (.int .i64 k)).setCell ⟨w.heap.size + 1 + 1, 0, none⟩ (.int .i64 (takeP st.p k s).1)).heap.size = W2.heap.size := by rw [set_size, set_size]
        have hev : Env W2 ((W2.setCell ⟨w.heap.size + 1, 0, none⟩ (.int .i64 k)).setCell ⟨w.heap.size + 1 + 1, 0, none⟩ (.int .i64 (takeP st.p k s).1)) := (Env.set _ _ _).trans (Env.set _ _ _)
        refine ⟨⟨?_, ?_⟩, rfl, hH.env.trans ((Env.bel hbk).trans (hf.env.trans hev)), (unhide HGl Wk hbk).kp ⟨(s1 _ (by omega) (by omega)).trans (hf.same _ (by omega) (by omega)), by rw [s2]; exact hf.size⟩, k, (takeP st.p k s).1, ?_, ?_, ?_, by rw [s2]; omega, .inl ⟨unhide HPX _ _ hste, ?_⟩⟩
        · rw [s1 _ (by omega) (by omega), hf.same _ (by omega) (by omega), hbk.block _ hltD]
        · rw [s1 _ (by omega) (by omega), hf.same _ (by omega) (by omega), hbk.block _ hltL]
        · rw [set_other _ _ _ _ _ (by omega)]
          exact set_blk (unhide HXn) 0 (.int .i64 k)
        · exact set_blk ((set_other _ _ _ _ _ (by omega)).trans (unhide HXe)) 0 (.int .i64 (takeP st.p k s).1)
        · intro i h0 hi
          rw [s1 _ (by omega) (by omega), hf.same _ (by omega) (by omega), (unhide HH Wk hbk).fr _ h0 (by omega) (by omega), hS.old _ hi]
        · have hal : (stp st (k, s)).all = st.all := by
            unfold stp
            rw [herr]
            simp [hk0, hT]
          rw [unhide HPA, hal]
          exact unhide HJI true _ _ _ _ _ (unhide HQ4) (hf.env.trans hev) (by rw [s2]; omega) (Nat.le_refl _) (fun i hi h2 => (s1 i (by omega) (by omega)).trans (hf.same i hi (by omega))) (fun i c t fr hi h2 _ => (s1 i (by omega) (by omega)).trans (hf.same i hi (by omega)))
  case done =>
    rintro D ys W hDe hSx hH hK
    have hDz : w0.heap.size ≤ D := by omega
    have hDy : D ≤ w0.heap.size := by omega
    clear hDe
    have hrun : runL (ys.map (·.1)) = parseT t := by rw [hSx]; rfl
    have hbd := Bd.run (ys.map (·.1))
    have hln : (ys.map (·.1)).length ≤ 16777216 := by
      rw [hSx]
      unfold lnsOf
      rw [numb_len]
      have := linesL_len t.length t (Nat.le_refl _)
      omega
    rw [hrun] at hH hbd
    have cy : W.cell? ⟨w.heap.size, 0, none⟩ = some (.func T #[] L) := (cell_blk ((hH.fr w.heap.size (by omega) (by omega) (by omega)).trans hS.y) 0).1
    have cH := hide (unhide HHO w0.heap.size (w.heap.size + 1 + 1 + 1) w0 W (parseT t) hS.old (by omega) (by omega) (by omega) hH hbd.z ⟨[], by unfold gw; rw [hH.err]; simp⟩)
    have herr := hH.err
    have hn0 := hH.hn
    have hDl : D < W.heap.size := (Array.getElem?_eq_some_iff.1 hK).1
    have HK := hide hK
    clear hK hSx H0
    gi_wp2_with (gi_at_call 56; refine (callsIn_wide.2 (unhide cH)).mono ?_; rintro e W2 ⟨b, rfl, hmid⟩; have HMid := hide hmid; have HXn := hide ((hmid.fr (w.heap.size + 1) (by omega) (by omega) (by omega)).trans hS.n); have HXe := hide ((hmid.fr (w.heap.size + 1 + 1) (by omega) (by omega) (by omega)).trans hS.e); have dn := (cell_blk (unhide HXn) 0).1; have fn := (cell_blk (unhide HXn) 0).2; have de := (cell_blk (unhide HXe) 0).1; have fe := (cell_blk (unhide HXe) 0).2; clear hmid)
    have hm := unhide HMid
    have hms := hm.size
    have hK := unhide HK
    have s2 : ((W2.setCell ⟨w.heap.size + 1, 0, none⟩ (.int .i64 0)).setCell ⟨w.heap.size + 1 + 1, 0, none⟩ (.int .i64 0)).heap.size = W2.heap.size := by rw [set_size, set_size]
    have x1 : ((W2.setCell ⟨w.heap.size + 1, 0, none⟩ (.int .i64 0)).setCell ⟨w.heap.size + 1 + 1, 0, none⟩ (.int .i64 0)).heap[w.heap.size + 1]? = some (.cells #[.int .i64 0] 3 (0, 0)) := (set_other _ _ _ _ _ (by omega)).trans (set_blk (unhide HXn) 0 (.int .i64 0))
    have x2 : ((W2.setCell ⟨w.heap.size + 1, 0, none⟩ (.int .i64 0)).setCell ⟨w.heap.size + 1 + 1, 0, none⟩ (.int .i64 0)).heap[w.heap.size + 1 + 1]? = some (.cells #[.int .i64 0] 25 (0, 0)) := set_blk ((set_other _ _ _ _ _ (by omega)).trans (unhide HXe)) 0 (.int .i64 0)
    have s1 : ∀ i, ((W2.setCell ⟨w.heap.size + 1, 0, none⟩ (.int .i64 0)).setCell ⟨w.heap.size + 1 + 1, 0, none⟩ (.int .i64 0)).heap[i]? = W2.heap[i]? := fun i => by
      by_cases h2 : i = w.heap.size + 1
      · rw [h2, x1, unhide HXn]
      · by_cases h3 : i = w.heap.size + 1 + 1
        · rw [h3, x2, unhide HXe]
        · exact (set_other _ _ _ _ _ h3).trans (set_other _ _ _ _ _ h2)
    have hes : Env W2 ((W2.setCell ⟨w.heap.size + 1, 0, none⟩ (.int .i64 0)).setCell ⟨w.heap.size + 1 + 1, 0, none⟩ (.int .i64 0)) := (Env.set _ _ _).trans (Env.set _ _ _)
    have hev3 : Env w ((W2.setCell ⟨w.heap.size + 1, 0, none⟩ (.int .i64 0)).setCell ⟨w.heap.size + 1 + 1, 0, none⟩ (.int .i64 0)) := (Env.bel hS.bel).trans (hm.env.trans ((Env.set _ _ _).trans (Env.set _ _ _)))
    generalize (W2.setCell ⟨w.heap.size + 1, 0, none⟩ (.int .i64 0)).setCell ⟨w.heap.size + 1 + 1, 0, none⟩ (.int .i64 0) = W3 at *
    have hK3 : W3.heap[D]? = some (.deferred (some [])) := by rw [s1, hm.lp D (by omega) (by omega), hK]
    refine ⟨by simp, .inl ⟨_, _, rfl, run_takeDeferred hK3, ?_⟩⟩
    have p1 : ∀ i, i ≠ D → (W3.putObj D (.deferred none)).heap[i]? = W3.heap[i]? := fun i hi => World.putObj_heap_other hi
    have ps : (W3.putObj D (.deferred none)).heap.size = W3.heap.size := by
      show (W3.heap.setIfInBounds D _).size = _
      simp
    have l1 := (cell_blk ((p1 (w.heap.size + 1) (by omega)).trans x1) 0).1
    have l2 := (cell_blk ((p1 (w.heap.size + 1 + 1) (by omega)).trans x2) 0).1
    have hep := Env.put W3 D (.deferred none)
    have hev := hev3.trans hep
    generalize W3.putObj D (.deferred none) = W4 at *
    have hl1 : (loadVar 3 ⟨w.heap.size + 1, 0, none⟩).run Tryd.prog W4 = .ok (.int .i64 0) W4 := by go_simp
    have hl2 : (loadVar 25 ⟨w.heap.size + 1 + 1, 0, none⟩).run Tryd.prog W4 = .ok (.int .i64 0) W4 := by go_simp
    refine ⟨_, results_cells2 (show Tryd.f35.results = #[.cell 4 3, .cell 5 25] from Tryd.results35) _ _ _ _ _ _ _ rfl rfl hl1 hl2, 0, 0, rfl, hev, hm.gl.kp ⟨(p1 _ (by omega)).trans (s1 _), by omega⟩, fun i h0 hi => ?_, by omega, ?_⟩
    · rw [p1 _ (by omega), s1, hm.fr _ h0 (by omega) (by omega), hS.old _ hi]
    · have cl := unhide HJI b _ W4.heap.size _ _ W4 hm.dn (hes.trans hep) (by omega) (Nat.le_refl _) (fun i _ h2 => (p1 i (by omega)).trans (s1 i)) (fun i c t fr _ h2 _ => (p1 i (by omega)).trans (s1 i))
      cases b
      · exact .inr ⟨_, cl⟩
      · refine .inl ?_
        unfold gw
        rw [herr]
        exact cl
  case stop =>
    rintro D c pre W hDe ⟨r, hr⟩ ⟨rfl, hev, hgl, k, er, a2, a3, a4, a5, a6⟩ hK
    have hDz : w0.heap.size ≤ D := by omega
    have hDy : D ≤ w0.heap.size := by omega
    clear hDe
    gi_wp2
    refine ⟨by simp, .inl ⟨_, _, rfl, run_takeDeferred hK, ?_⟩⟩
    have p1 : ∀ i, i ≠ D → (W.putObj D (.deferred none)).heap[i]? = W.heap[i]? := fun i hi => World.putObj_heap_other hi
    have ps : (W.putObj D (.deferred none)).heap.size = W.heap.size := by
      show (W.heap.setIfInBounds D _).size = _
      simp
    have l1 := (cell_blk ((p1 (w.heap.size + 1) (by omega)).trans a2) 0).1
    have l2 := (cell_blk ((p1 (w.heap.size + 1 + 1) (by omega)).trans a3) 0).1
    have hep := Env.put W D (.deferred none)
    have hev2 := (Env.bel hS.bel).trans (hev.trans hep)
    generalize W.putObj D (.deferred none) = W4 at *
    have hl1 : (loadVar 3 ⟨w.heap.size + 1, 0, none⟩).run Tryd.prog W4 = .ok (.int .i64 k) W4 := by go_simp
    have hl2 : (loadVar 25 ⟨w.heap.size + 1 + 1, 0, none⟩).run Tryd.prog W4 = .ok (.int .i64 er) W4 := by go_simp
    refine ⟨_, results_cells2 (show Tryd.f35.results = #[.cell 4 3, .cell 5 25] from Tryd.results35) _ _ _ _ _ _ _ rfl rfl hl1 hl2, ⟨k, er, rfl⟩, hev2, hgl.kp ⟨p1 _ (by omega), by omega⟩, fun i h0 hi => by rw [p1 _ (by omega), a4 i h0 hi], by omega, ?_⟩
    have cl : ∀ b ps, J b W.heap.size ps W → J b W4.heap.size ps W4 := fun b ps h => unhide HJI b _ W4.heap.size _ _ W4 h hep (by omega) (Nat.le_refl _) (fun i _ h2 => p1 i (by omega)) (fun i c t fr _ h2 _ => p1 i (by omega))
    rcases a6 with ⟨a1, a7⟩ | ⟨ps2, a7⟩
    · have hpe : (parseT t).err = some (k, er) := by
        unfold parseT
        show (runL (lnsOf t)).err = _
        rw [hr, runL_err (by rw [a1]; rfl), a1]
      have hpa : (parseT t).all = (runL (pre.map (·.1))).all := by
        unfold parseT
        show (runL (lnsOf t)).all = _
        rw [hr, runL_err (by rw [a1]; rfl)]
      refine .inl ?_
      unfold gw
      rw [hpe]
      show J true W4.heap.size (parseT t).all W4
      rw [hpa]
      exact cl _ _ a7
    · exact .inr ⟨ps2, cl _ _ a7⟩
end Go.Proofs.YtocjcbdkihbbiaaDoor

namespace Go.Proofs.YtocjcbdkihbbiaaDoor
open Go.RowKit Go.Shelf
attribute [local go_sem] Oper.semAt_some
attribute [local simp] wide_fn
attribute [local go_sem] wide_fn

set_option maxRecDepth 100000 in
set_option maxHeartbeats 4000000 in
theorem handOn_y2 (lo B g n cap ag ac N q : Nat) (k : Int) (w : World) (R : Bool → World → Prop) (hn : 1 ≤ n) (hN : 1 ≤ N)
    (hB : w.cell? ⟨B, 0, none⟩ = some (.slice (some ⟨g, 0, none⟩) n cap)) (hg : w.cell? ⟨g, 2, none⟩ = some (.slice (some ⟨ag, 0, none⟩) N ac)) (ha : w.cell? ⟨ag, 0, none⟩ = some (.int .i64 k))
    (hY : ∀ W', W'.heap = w.heap → Below w.heap.size w W' → YieldAt Fence.wide q Tryd.prog lo #[.int .i64 k, .slice (some ⟨g, 0, none⟩) n cap] W' fun e w' => ∃ b, e = .returned (.bool b) ∧ R b w') :
    Calls Tryd.prog 56 #[.pointer (some ⟨B, 0, none⟩), .func (.yield lo) #[] #[]] w fun e w' => ∃ b, e = .returned (.bool b) ∧ R b w' := by
  have n1 : (1 : Int) ≤ (n : Int) := by omega
  have n2 : (1 : Int) ≤ (N : Int) := by omega
  have n3 : (0 : Int) < (n : Int) := by omega
  have n4 : (0 : Int) < (N : Int) := by omega
  have n5 : ¬ ((n : Int) = 0) := by omega
  obtain ⟨fn, tmps, assign, body, hy, hR⟩ := hY w.drew rfl ((Below.refl _ _).drew)
  have HR := hide hR
  clear hY hR
  refine (callsIn_wide (n := q + 1)).1 ?_
  refine callsIn_of_wp Tryd.func56 rfl trivial ?_ rfl
  simp only [Tryd.ntmps56, List.size_toArray, List.length_cons, List.length_nil, Nat.reduceAdd, Nat.reduceSub, Array.replicate_succ, Array.replicate_zero, List.push_toArray, List.append_toArray, List.nil_append, List.cons_append]
  gi_wp2
  gi_region_with (first | (with_reducible refine (unhide HR).mono ?_; rintro e w3 ⟨b, rfl, hT⟩; have HT := hide hT; clear hT) | (go_simp; with_reducible refine (unhide HR).mono ?_; rintro e w3 ⟨b, rfl, hT⟩; have HT := hide hT; clear hT))
  all_goals
    gi_wp2
    go_ret
    exact ⟨b, rfl, unhide HT⟩

set_option maxHeartbeats 1000000 in
theorem each2_it (t : Bs) (ht : t.length ≤ 16777216) (Bk lo q : Nat) (J : Bool → Nat → List (List Fd) → World → Prop) (w : World) (hG : Glob w) (hT : w.cell? ⟨Bk, 0, none⟩ = some (.string (ba t))) (hJ : ∀ b, Clo w.heap.size (w.heap.size + 7) (J b)) (hJ0 : J true w.heap.size [] w)
    (hY : ∀ (base g n cap n1 : Nat) (nr : List Nat) (f : Fd) (p : List Fd) (ps : List (List Fd)) (W : World), Glob W → w.heap.size + 7 ≤ base → base ≤ W.heap.size → Wh base W.heap.size W (.slice (some ⟨g, 0, none⟩) n cap) (f :: p) → f.ns = n1 :: nr → (∃ r, gw t = ps ++ [f :: p] ++ r) → J true base ps W →
      YieldAt Fence.wide q Tryd.prog lo #[.int .i64 (n1 : Int), .slice (some ⟨g, 0, none⟩) n cap] W fun e W2 => ∃ b, e = .returned (.bool b) ∧ Yd w.heap.size (w.heap.size + 7) W W2 ∧ J b W2.heap.size (ps ++ [f :: p]) W2) :
    Calls Tryd.prog 42 #[.func (.yield lo) #[] #[], .pointer (some ⟨Bk, 0, none⟩)] w fun e W2 => (∃ v, e = .returned v) ∧ Env w W2 ∧ Glob W2 ∧ w.heap.size ≤ W2.heap.size ∧ (J true W2.heap.size (gw t) W2 ∨ ∃ ps, J false W2.heap.size ps W2) := by
  have cR := (callsIn_wide (n := 5)).1 (read_it t ht 5 (Nat.le_refl _) w.heap.size (.yield lo) #[] J w hG (Nat.le_refl _) hG.big hJ hJ0 (by
    intro n0 B w0 W st hold hn0 hBw hB hH hnz hpre
    subst hn0
    refine handOn_genI w.heap.size (w.heap.size + 5) B J w0 W st hB hBw (hJ true) hH hnz _ ?_
    intro base g n cap ag ac N n1 nr f p h1 h2 h3 h4 h5 h6 h7 h8 h9 h10 h11
    refine handOn_y2 lo B g n cap ag ac N q n1 W _ h1 h2 h3 h4 h5 ?_
    intro W' hh hb
    have hz : W'.heap.size = W.heap.size := by rw [hh]
    obtain ⟨fn, tmps, ass, bd, hy, hR⟩ := hY base g n cap n1 nr f p st.all W' (hH.gl.kp ⟨by rw [hh], by rw [hz]; exact Nat.le_refl _⟩) h6 (by rw [hz]; exact h7) (by rw [hz]; exact h8.keep fun _ _ _ _ _ _ _ => by rw [hh]) h9 (by rw [← h10]; exact hpre)
      (hJ true _ _ _ _ _ h11 (Env.bel hb) (Nat.le_refl _) (by rw [hz]; exact h7) (fun _ _ _ => by rw [hh]) (fun _ _ _ _ _ _ _ => by rw [hh]))
    refine ⟨fn, tmps, ass, bd, hy, hR.mono ?_⟩
    rintro e W2 ⟨b, h12, h13, h14⟩
    exact ⟨b, h12, ⟨(Env.bel hb).trans h13.env, by rw [h13.gm, hh], fun k a c => by rw [h13.own k a c, hh], by rw [← hz]; exact h13.size⟩, h14⟩))
  have cR2 := hide (show Calls Tryd.prog 35 #[.string (ba t), .func (.yield lo) #[] #[]] w fun e W2 => (∃ k er : Nat, e = .returned (.tuple #[.int .i64 k, .int .i64 er])) ∧ Env w W2 ∧ Glob W2 ∧ w.heap.size ≤ W2.heap.size ∧ (J true W2.heap.size (gw t) W2 ∨ ∃ ps, J false W2.heap.size ps W2) from cR.mono fun e W2 ⟨k, er, h1, h2, h3, _, h4, h5⟩ => ⟨⟨k, er, h1⟩, h2, h3, h4, h5⟩)
  clear cR hY hJ hJ0
  go_enter Tryd.func42, Tryd.ntmps42
  go_wp2_with (go_at_call 35; refine (unhide cR2).mono ?_; rintro e W2 ⟨⟨k, er, rfl⟩, hres⟩; have HR := hide hres; clear hres)
  go_end0
  exact ⟨⟨_, rfl⟩, unhide HR⟩

/-- WHAT A ROUND IS CALLED WITH. -/
structure Yp where
  base : Nat
  g : Nat
  n : Nat
  cap : Nat
  n1 : Nat
  nr : List Nat
  f : Fd
  p : List Fd
  ps : List (List Fd)
abbrev Yp.v (x : Yp) : Value := .slice (some ⟨x.g, 0, none⟩) x.n x.cap
abbrev encP (x : Yp) : Array Value := #[.int .i64 (x.n1 : Int), x.v]
abbrev Yp.now (x : Yp) : List (List Fd) := x.ps ++ [x.f :: x.p]
structure PreE (G : List (List Fd)) (M : Nat) (I : Nat → List (List Fd) → World → Prop) (x : Yp) (W : World) : Prop where
  gl : Glob W
  lo : M + 9 ≤ x.base
  hi : x.base ≤ W.heap.size
  wh : Wh x.base W.heap.size W x.v (x.f :: x.p)
  ns : x.f.ns = x.n1 :: x.nr
  pre : ∃ r, G = x.now ++ r
  i : I x.base x.ps W
/-- HOW A ROUND MAY BE LEFT. -/
def postE (M : Nat) (I : Nat → List (List Fd) → World → Prop) (Ix : Code → Nat → List (List Fd) → World → Prop) (x : Yp) (W : World) : Exit → Act → World → Prop
  | .normal, _, W2 => (W2.heap[M]? = W.heap[M]? ∧ W2.heap[M + 1]? = W.heap[M + 1]?) ∧ Yd (M + 2) (M + 9) W W2 ∧ I W2.heap.size x.now W2
  | .ret, _, W2 => (W2.heap[M]? = W.heap[M]? ∧ W2.heap[M + 1]? = W.heap[M + 1]?) ∧ Yd (M + 2) (M + 9) W W2 ∧ Ix .ret W2.heap.size x.now W2
  | .exit id, _, W2 => (W2.heap[M]? = W.heap[M]? ∧ W2.heap[M + 1]? = W.heap[M + 1]?) ∧ Yd (M + 2) (M + 9) W W2 ∧ Ix (.exit id) W2.heap.size x.now W2
  | .goto t, _, W2 => (W2.heap[M]? = W.heap[M]? ∧ W2.heap[M + 1]? = W.heap[M + 1]?) ∧ Yd (M + 2) (M + 9) W W2 ∧ Ix (.goto t) W2.heap.size x.now W2
  | .panic _, _, _ => False
  | .outgrown, _, _ => False

theorem Clo.put {M Mx l base : Nat} {I : Nat → List (List Fd) → World → Prop} {ps : List (List Fd)} {W : World} {o : Obj} (hI : Clo M Mx I) (h : I base ps W) (hb : base ≤ W.heap.size) (hl : W.heap[l]? = some o) (ho : o.isCells = false) (hM : M ≤ l) (o2 : Obj) : I base ps (W.putObj l o2) :=
  hI _ _ _ _ _ h (Env.put W l o2) (Nat.le_refl _) (by rw [World.putObj_size]; exact hb) (fun k _ hk => World.putObj_heap_other (by omega)) (fun k c t fr _ _ hc => World.putObj_heap_other fun e => by
    rw [e, hl] at hc
    cases hc
    cases ho)

set_option maxHeartbeats 1000000 in
/-- A RANGE OVER Each, WHATEVER THE BODY DOES TO WHAT IT IS GIVEN. -/
theorem rangeFunc_ea (t : Bs) (ht : t.length ≤ 16777216) {n : Nat} {g : Operand} {ps : Array Tmp} {assign body : Code} {Q : Exit → Act → World → Prop} {a : Act} {w : World} {Bk : Nat} (h1 : 1 ≤ n)
    (hg : a.eval g = .func (.func 42) #[] #[.pointer (some ⟨Bk, 0, none⟩)]) (hG : Glob w) (hT : w.cell? ⟨Bk, 0, none⟩ = some (.string (ba t))) (hps : ps.size = 2)
    (I : Nat → List (List Fd) → World → Prop) (Ix : Code → Nat → List (List Fd) → World → Prop) (hI : Clo w.heap.size (w.heap.size + 9) I) (hIx : ∀ c, Clo w.heap.size (w.heap.size + 9) (Ix c)) (h0 : I w.heap.size [] w) (a1 : Yp → Act)
    (hassign : ∀ (l : Nat) (x : Yp) (W : World) (K : Act → World → Prop), K (a1 x) W →
      assign.wpIn (Fence.wide.inRound l) (n - 1 - 1) Tryd.prog (Exit.then K (fun _ _ _ => False)) { tmps := (ps.zip (encP x)).foldl (fun t (p, v) => t.setIfInBounds p v) a.tmps, defers := [] } W)
    (hbody : ∀ (l : Nat) (x : Yp) (W : World), W.heap[w.heap.size]? = some (.deferred (some [])) → (∃ r, W.heap[w.heap.size + 1]? = some (.loop r)) → PreE (gw t) w.heap.size I x W → body.wpIn (Fence.wide.inRound l) (n - 1 - 1) Tryd.prog (postE w.heap.size I Ix x W) (a1 x) W)
    (hdone : ∀ (W : World), Env w W → Glob W → w.heap.size + 2 ≤ W.heap.size → I W.heap.size (gw t) W → W.heap[w.heap.size]? = some (.deferred (some [])) → Q .normal { a with defers := { target := .collected w.heap.size, args := #[] } :: a.defers } W)
    (hstop : ∀ (c : Code) (qs : List (List Fd)) (W : World), Env w W → Glob W → w.heap.size + 2 ≤ W.heap.size → Ix c W.heap.size qs W → W.heap[w.heap.size]? = some (.deferred (some [])) → c.wpIn Fence.wide n Tryd.prog Q { a with defers := { target := .collected w.heap.size, args := #[] } :: a.defers } W) :
    (Code.rangeFunc g ps assign body).wpIn Fence.wide n Tryd.prog Q a w := by
  refine wpIn_rangeFunc ?_
  intro fn hfn
  rw [show Fence.wide.round = none from rfl]
  obtain ⟨rc, hrc⟩ : ∃ rc : LoopState → Option Code → Loop, rc = fun st pe => { state := st, pending := pe, fn, tmps := a.tmps, params := ps, assign, body, defers := w.heap.size } := ⟨_, rfl⟩
  obtain ⟨W1, hW1, hL1, hK1, hb1⟩ : ∃ W1, (w.alloc (.deferred (some []))).alloc (.loop (rc .ready none)) = W1 ∧ W1.heap[w.heap.size + 1]? = some (.loop (rc .ready none)) ∧ W1.heap[w.heap.size]? = some (.deferred (some [])) ∧ Below w.heap.size w W1 := by
    refine ⟨_, rfl, ?_, ?_, ?_⟩
    · have := World.alloc_heap_new (w.alloc (.deferred (some []))) (.loop (rc .ready none))
      rwa [World.size_alloc] at this
    · exact (Below.heap_alloc _ _ _ (by simp)).trans (World.alloc_heap_new w _)
    · exact ((Below.refl _ w).alloc (Nat.le_refl _) _).alloc (by simp) _
  have hz1 : W1.heap.size = w.heap.size + 1 + 1 := by rw [← hW1]; simp
  refine ⟨w.heap.size + 1, [{ target := .collected w.heap.size, args := #[] }], W1, { target := .fn (.func 42) #[.pointer (some ⟨Bk, 0, none⟩)], args := #[.func (.yield (w.heap.size + 1)) #[] #[]] }, W1, 42,
    #[.func (.yield (w.heap.size + 1)) #[] #[]] ++ #[.pointer (some ⟨Bk, 0, none⟩)], W1, ?_, ?_, ?_, ?_, fun _ => h1, ?_⟩
  · rw [← hW1, hrc]; exact run_enterLoop_outer _ _ _ _ _
  · simp only [resolve, hg]
    simp [go_sem]
  · intro f2 hf2; simp [Target.leads] at hf2; subst hf2; trivial
  · simp [invoke, go_sem]
  · obtain ⟨J, hJt, hJf⟩ : ∃ J : Bool → Nat → List (List Fd) → World → Prop, (∀ base qs W, J true base qs W ↔ (w.heap.size + 2 ≤ base ∧ base ≤ W.heap.size ∧ I base qs W ∧ W.heap[w.heap.size + 1]? = some (.loop (rc .ready none)) ∧ W.heap[w.heap.size]? = some (.deferred (some [])))) ∧
        (∀ base qs W, J false base qs W ↔ (w.heap.size + 2 ≤ base ∧ base ≤ W.heap.size ∧ ∃ c, Ix c base qs W ∧ W.heap[w.heap.size + 1]? = some (.loop (rc .done (some c))) ∧ W.heap[w.heap.size]? = some (.deferred (some [])))) :=
      ⟨fun b base qs W => match b with
        | true => w.heap.size + 2 ≤ base ∧ base ≤ W.heap.size ∧ I base qs W ∧ W.heap[w.heap.size + 1]? = some (.loop (rc .ready none)) ∧ W.heap[w.heap.size]? = some (.deferred (some []))
        | false => w.heap.size + 2 ≤ base ∧ base ≤ W.heap.size ∧ ∃ c, Ix c base qs W ∧ W.heap[w.heap.size + 1]? = some (.loop (rc .done (some c))) ∧ W.heap[w.heap.size]? = some (.deferred (some [])), fun _ _ _ => Iff.rfl, fun _ _ _ => Iff.rfl⟩
    have hJ : ∀ b, Clo W1.heap.size (W1.heap.size + 7) (J b) := by
      rw [hz1]
      intro b base base2 qs X Y hj he hbb hb2 hlow hcel
      cases b with
      | true =>
        obtain ⟨a1, a2, a3, a4, a5⟩ := (hJt _ _ _).1 hj
        exact (hJt _ _ _).2 ⟨by omega, hb2, hI _ _ _ _ _ a3 he hbb hb2 (fun k h2 h3 => hlow k h2 (by omega)) (fun k c t fr h2 h3 h4 => hcel k c t fr h2 (by omega) h4), (hlow _ (by omega) (by omega)).trans a4, (hlow _ (by omega) (by omega)).trans a5⟩
      | false =>
        obtain ⟨a1, a2, c, a3, a4, a5⟩ := (hJf _ _ _).1 hj
        exact (hJf _ _ _).2 ⟨by omega, hb2, c, hIx c _ _ _ _ _ a3 he hbb hb2 (fun k h2 h3 => hlow k h2 (by omega)) (fun k c t fr h2 h3 h4 => hcel k c t fr h2 (by omega) h4), (hlow _ (by omega) (by omega)).trans a4, (hlow _ (by omega) (by omega)).trans a5⟩
    have hG1 : Glob W1 := hG.later (n := w.heap.size) hG.big hb1
    have hbk : Bk < w.heap.size := by
      by_cases hb : Bk < w.heap.size
      · exact hb
      · exfalso
        have : w.heap[Bk]? = none := Array.getElem?_eq_none (by omega)
        simp [World.cell?, this] at hT
    have hmx := hG.big
    refine (callsIn_wide.2 (each2_it t ht Bk (w.heap.size + 1) (n - 1 - 1) J W1 hG1 ((hb1.cell (p := ⟨Bk, 0, none⟩) hbk).trans hT) hJ ((hJt _ _ _).2 ⟨by omega, Nat.le_refl _, hI _ _ _ _ _ h0 (Env.bel hb1) hb1.size (Nat.le_refl _) (fun k h2 _ => hb1.block k h2) (fun k _ _ _ h2 _ _ => hb1.block k h2), hL1, hK1⟩) ?_)).mono ?_
    · -- A ROUND
      rintro base gg nn cap n1 nr f p qs W hgl hlo hhi hwh hns hpre hj
      rw [hz1] at hlo ⊢
      obtain ⟨j1, j2, hi, hl, hk⟩ := (hJt _ _ _).1 hj
      obtain ⟨x, hx⟩ : ∃ x : Yp, x = ⟨base, gg, nn, cap, n1, nr, f, p, qs⟩ := ⟨_, rfl⟩
      have hlt : w.heap.size + 1 < W.heap.size := (Array.getElem?_eq_some_iff.1 hl).1
      have hy := run_yield (P := Tryd.prog) (args := encP x) hl (by rw [hrc]; exact hps.symm)
      rw [hrc] at hy
      have hex : encP x = #[.int .i64 (n1 : Int), .slice (some ⟨gg, 0, none⟩) nn cap] := by rw [hx]
      rw [← hex]
      refine ⟨fn, _, assign, body, hy, roundIn_of_wpIn hfn (hassign _ x W _ ⟨_, run_beginRound hl (by rw [hrc]), ?_⟩)⟩
      obtain ⟨Wb, hWb⟩ : ∃ Wb, W.putObj (w.heap.size + 1) (.loop { rc .ready none with state := .busy }) = Wb := ⟨_, rfl⟩
      have hl2 : Wb.heap[w.heap.size + 1]? = some (.loop { rc .ready none with state := .busy }) := by rw [← hWb]; exact World.putObj_heap_same hlt
      have hk2 : Wb.heap[w.heap.size]? = some (.deferred (some [])) := by rw [← hWb]; exact (World.putObj_heap_other (by omega)).trans hk
      have hbz : Wb.heap.size = W.heap.size := by rw [← hWb, World.putObj_size]
      have hbo : ∀ k, k ≠ w.heap.size + 1 → Wb.heap[k]? = W.heap[k]? := fun k hk => by rw [← hWb]; exact World.putObj_heap_other hk
      have hbe : Env W Wb := by rw [← hWb]; exact Env.put _ _ _
      have hpe : PreE (gw t) w.heap.size I x Wb := by
        subst hx
        refine ⟨hgl.kp ⟨hbo _ (by omega), by rw [hbz]; exact Nat.le_refl _⟩, by omega, by rw [hbz]; exact hhi, (by rw [hbz]; exact hwh.keep fun k c ty _ _ _ hc => hbo k fun e => (by rw [e, hl] at hc; cases hc)), hns, hpre, ?_⟩
        rw [← hWb]
        exact hI.put hi j2 hl rfl (by omega) _
      rw [hWb]
      refine wpIn_mono (hbody _ x Wb hk2 ⟨_, hl2⟩ hpe) ?_
      have fin : ∀ (jump : Option Code) (W3 : World), (W3.heap[w.heap.size]? = Wb.heap[w.heap.size]? ∧ W3.heap[w.heap.size + 1]? = Wb.heap[w.heap.size + 1]?) → Yd (w.heap.size + 2) (w.heap.size + 9) Wb W3 →
          (Instr.endRound (w.heap.size + 1) jump).run Tryd.prog W3 = .ok (.bool jump.isNone) (W3.putObj (w.heap.size + 1) (.loop (rc (if jump.isNone then .ready else .done) jump))) ∧
          W3.heap[w.heap.size + 1]? = some (.loop { rc .ready none with state := .busy }) ∧
          (W3.putObj (w.heap.size + 1) (.loop (rc (if jump.isNone then .ready else .done) jump))).heap[w.heap.size + 1]? = some (.loop (rc (if jump.isNone then .ready else .done) jump)) ∧
          (W3.putObj (w.heap.size + 1) (.loop (rc (if jump.isNone then .ready else .done) jump))).heap[w.heap.size]? = some (.deferred (some [])) ∧
          Yd (w.heap.size + 1 + 1) (w.heap.size + 1 + 1 + 7) W (W3.putObj (w.heap.size + 1) (.loop (rc (if jump.isNone then .ready else .done) jump))) := fun jump W3 hs hyd => by
        have hl3 := hs.2.trans hl2
        have hr := run_endRound (P := Tryd.prog) jump hl3
        refine ⟨?_, hl3, World.putObj_heap_same (Array.getElem?_eq_some_iff.1 hl3).1, (World.putObj_heap_other (by omega)).trans (hs.1.trans hk2), ⟨hbe.trans (hyd.env.trans (Env.put _ _ _)), (World.putObj_heap_other (by omega)).trans (hyd.gm.trans (hbo _ (by omega))), fun k q1 q2 => (World.putObj_heap_other (by omega)).trans ((hyd.own k (by omega) (by omega)).trans (hbo k (by omega))), by rw [World.putObj_size, ← hbz]; exact hyd.size⟩⟩
        rw [hrc] at hr ⊢
        exact hr
      have hnow : x.now = qs ++ [f :: p] := by rw [hx]
      rw [← hnow]
      rintro e a3 W3 hp
      cases e with
      | normal =>
        obtain ⟨hs, hyd, hi3⟩ := hp
        obtain ⟨hr, hl3, hl4, hk4, hy4⟩ := fin none W3 hs hyd
        have hz3 := hyd.size
        exact ⟨_, _, hr, true, rfl, hy4, (hJt _ _ _).2 ⟨by rw [World.putObj_size]; omega, Nat.le_refl _, by rw [World.putObj_size]; exact hI.put hi3 (Nat.le_refl _) hl3 rfl (by omega) _, hl4, hk4⟩⟩
      | ret =>
        obtain ⟨hs, hyd, hi3⟩ := hp
        obtain ⟨hr, hl3, hl4, hk4, hy4⟩ := fin (some .ret) W3 hs hyd
        have hz3 := hyd.size
        exact ⟨_, _, hr, false, rfl, hy4, (hJf _ _ _).2 ⟨by rw [World.putObj_size]; omega, Nat.le_refl _, .ret, by rw [World.putObj_size]; exact (hIx _).put hi3 (Nat.le_refl _) hl3 rfl (by omega) _, hl4, hk4⟩⟩
      | exit id =>
        obtain ⟨hs, hyd, hi3⟩ := hp
        obtain ⟨hr, hl3, hl4, hk4, hy4⟩ := fin (some (.exit id)) W3 hs hyd
        have hz3 := hyd.size
        exact ⟨_, _, hr, false, rfl, hy4, (hJf _ _ _).2 ⟨by rw [World.putObj_size]; omega, Nat.le_refl _, .exit id, by rw [World.putObj_size]; exact (hIx _).put hi3 (Nat.le_refl _) hl3 rfl (by omega) _, hl4, hk4⟩⟩
      | goto tt =>
        obtain ⟨hs, hyd, hi3⟩ := hp
        obtain ⟨hr, hl3, hl4, hk4, hy4⟩ := fin (some (.goto tt)) W3 hs hyd
        have hz3 := hyd.size
        exact ⟨_, _, hr, false, rfl, hy4, (hJf _ _ _).2 ⟨by rw [World.putObj_size]; omega, Nat.le_refl _, .goto tt, by rw [World.putObj_size]; exact (hIx _).put hi3 (Nat.le_refl _) hl3 rfl (by omega) _, hl4, hk4⟩⟩
      | panic ch => exact hp.elim
      | outgrown => exact hp.elim
    · -- BEHIND THE ITERATOR
      rintro e W2 ⟨⟨v, rfl⟩, he2, hgl2, hz2, hj | ⟨qs, hj⟩⟩
      · obtain ⟨j1, j2, hi, hl, hk⟩ := (hJt _ _ _).1 hj
        exact ⟨none, _, by have := run_endLoop (P := Tryd.prog) hl (by rw [hrc]; simp); rw [hrc] at this; exact this, hdone _ ((Env.bel hb1).trans (he2.trans (Env.put _ _ _))) (hgl2.kp ⟨World.putObj_heap_other (by omega), by rw [World.putObj_size]; exact Nat.le_refl _⟩) (by rw [World.putObj_size]; exact j1) (by rw [World.putObj_size]; exact hI.put hi (Nat.le_refl _) hl rfl (by omega) _) ((World.putObj_heap_other (by omega)).trans hk)⟩
      · obtain ⟨j1, j2, c, hi, hl, hk⟩ := (hJf _ _ _).1 hj
        exact ⟨some c, _, by have := run_endLoop (P := Tryd.prog) hl (by rw [hrc]; simp); rw [hrc] at this; exact this, hstop c qs _ ((Env.bel hb1).trans (he2.trans (Env.put _ _ _))) (hgl2.kp ⟨World.putObj_heap_other (by omega), by rw [World.putObj_size]; exact Nat.le_refl _⟩) (by rw [World.putObj_size]; exact j1) (by rw [World.putObj_size]; exact (hIx c).put hi (Nat.le_refl _) hl rfl (by omega) _) ((World.putObj_heap_other (by omega)).trans hk)⟩
end Go.Proofs.YtocjcbdkihbbiaaDoor

namespace Go.Proofs.YtocjcbdkihbbiaaDoor
open Go.RowKit Go.Shelf

/-- WHAT IS GIVEN OF ANY BYTES. -/
def gx (t : Bs) : List (List Fd) := if 16777216 < t.length then [] else gw t
theorem gx_le (t : Bs) : tot (gx t) ≤ 16777216 ∧ (gx t).length ≤ 16777216 ∧ ∀ p ∈ gx t, p ≠ [] ∧ bd 16777216 p := by
  unfold gx
  split
  · exact ⟨Nat.zero_le _, Nat.zero_le _, fun p hp => (by cases hp)⟩
  · rename_i hl
    have h := Sm.run (numb 1 (linesL t))
    have hle := linesL_len t.length t (Nat.le_refl _)
    rw [numb_len] at h
    unfold gw
    split
    · have hs := parse_sm t
      exact ⟨by omega, by omega, fun p hp => ⟨(hs.2.2 p hp).1, (hs.2.2 p hp).2.mono (by omega)⟩⟩
    · have h1 : tot (parseT t).all + (parseT t).p.length ≤ (linesL t).length := h.t
      have h2 : ∀ p ∈ (parseT t).all, p ≠ [] ∧ bd (linesL t).length p := h.a
      have h3 := len_tot (parseT t).all (fun p hp => (h2 p hp).1)
      exact ⟨by omega, by omega, fun p hp => ⟨(h2 p hp).1, (h2 p hp).2.mono (by omega)⟩⟩

theorem rEach_any (t : Bs) (pa : Option Addr) (c : Nat) (w : World) (hc : t.length ≤ c) (hR : Rb w pa t) :
    Calls Tryd.prog 28 #[.slice pa t.length c] w fun e w' => ∃ va vc vs, e = .returned (.slice va (gx t).length vc) ∧ Below w.heap.size w w' ∧ RD w.heap.size w' (.slice va (gx t).length vc) (gx t) vs := by
  have c1 : Calls Tryd.prog 52 #[.slice pa t.length c] w fun e w' => ∃ va vc vs n er, e = .returned (.tuple #[.slice va (gx t).length vc, .int .i64 (n : Nat), .int .i64 (er : Nat)]) ∧ Below w.heap.size w w' ∧ RD w.heap.size w' (.slice va (gx t).length vc) (gx t) vs := by
    by_cases hl : 16777216 < t.length
    · have hg : gx t = [] := by unfold gx; rw [if_pos hl]
      rw [hg]
      refine (rRead_long t pa c w hl).mono ?_
      rintro e w' ⟨rfl, rfl⟩
      exact ⟨none, 0, [], 0, 2, rfl, Below.refl _ _, RD.nil _ _⟩
    · have hg : gx t = gw t := by unfold gx; rw [if_neg hl]
      rw [hg]
      refine (rRead_any t pa c w (by omega) hc hR).mono ?_
      rintro e w' ⟨v, vs, n, er, rfl, hb, h⟩
      unfold gw
      rcases h with ⟨h1, _, _, h2⟩ | ⟨h1, h2⟩
      · rw [h1]
        obtain ⟨a, c, rfl⟩ := h2.shape
        exact ⟨a, c, vs, n, er, rfl, hb, h2⟩
      · rw [h1]
        obtain ⟨a, c, rfl⟩ := h2.shape
        exact ⟨a, c, vs, n, er, rfl, hb, h2⟩
  have C1 := hide c1
  clear c1 hR hc
  generalize (gx t).length = N at *
  go_enter Tryd.func28, Tryd.ntmps28
  go_wp2_with (go_at_call 52; refine (unhide C1).mono ?_; rintro e w1 ⟨va, vc, vs, n, er, rfl, hb, h⟩; have HB := hide hb; have HH := hide h; clear hb h)
  go_ret
  exact ⟨va, vc, vs, rfl, unhide HB, unhide HH⟩

theorem turned_rb2 {W : World} {g qc L lo : Nat} {gt : Bs} (hg : gt.length = L + 70) (h : W.ownsRow lo 5 1 (.slice (some ⟨g, 0, none⟩) (L + 70) qc) (L + 70) (encB gt)) : Rb W (some ⟨g, 0, none⟩) (gt.take L) := by
  have h1 := (Rb.of_owns (t := gt) (by rw [hg]; exact h)).2
  intro h0
  obtain ⟨b, o, e, hc⟩ := h1 (by omega)
  refine ⟨b, o, e, fun i hi => ?_⟩
  have h2 : i < gt.length := by rw [List.length_take] at hi; omega
  have := hc i h2
  rw [this, List.getElem_take]
theorem rb_pre2 {W : World} {g : Nat} {t : Bs} {k : Nat} (h : Rb W (some ⟨g, 0, none⟩) (pad t k)) : Rb W (some ⟨g, 0, none⟩) t := fun h0 => by
  obtain ⟨b, o, e, hc⟩ := h (by rw [pad_len]; omega)
  refine ⟨b, o, e, fun i hi => ?_⟩
  have := hc i (by rw [pad_len]; omega)
  rw [this]
  have e1 : (pad t k)[i]'(by rw [pad_len]; omega) = t[i] := List.getElem_append_left hi
  rw [e1]
/-- ONE BYTE IS WRITTEN. -/
theorem put_one {W : World} {g qc L lo : Nat} {gt : Bs} (hg : gt.length = L + 70) (h : W.ownsRow lo 5 1 (.slice (some ⟨g, 0, none⟩) (L + 70) qc) (L + 70) (encB gt)) (i : Nat) (hi : i < L) (b : UInt8) :
    (∃ y : Nat, W.cell? ⟨g, i, none⟩ = some (.int .u8 y)) ∧ W.frozen? ⟨g, i, none⟩ = false ∧ ∃ gt2 : Bs, gt2.length = L + 70 ∧ (W.setCell ⟨g, i, none⟩ (.int .u8 (b.toNat : Int))).ownsRow lo 5 1 (.slice (some ⟨g, 0, none⟩) (L + 70) qc) (L + 70) (encB gt2) := by
  obtain ⟨u, u1, u2, u3⟩ := own_place h i (by omega)
  have hi2 : i < gt.length := by omega
  simp only [encB, List.getElem?_map, List.getElem?_eq_getElem hi2, Option.map_some, Option.some.injEq] at u1
  subst u1
  refine ⟨⟨_, u2⟩, u3, gt.set i b, by rw [List.length_set]; exact hg, ?_⟩
  obtain ⟨r, _⟩ := h.stored i (.int .u8 (b.toNat : Int))
  rw [show encB (gt.set i b) = (encB gt).set i (.int .u8 (b.toNat : Int)) by simp [encB, List.map_set]]
  exact r
theorem each1_2 (yv : Value) (w : World) : Calls Tryd.prog 41 #[yv] w fun e w' => (∃ v, e = .returned v) ∧ w' = w := by
  go_enter Tryd.func41, Tryd.ntmps41
  go_wp2_with fail
  go_end0
  exact ⟨⟨_, rfl⟩, rfl⟩
theorem Each_L (L : Nat) (pa : Option Addr) (c : Nat) (w : World) (ht : 16777216 < L) :
    Calls Tryd.prog 17 #[.slice pa L c] w fun e w' => e = .returned (.func (.func 41) #[] #[]) ∧ w' = w := by
  have h1 : (16777216 : Int) < (L : Int) := by omega
  go_enter Tryd.func17, Tryd.ntmps17
  go_wp2_with fail
  go_ret
  exact ⟨rfl, rfl⟩
theorem Each_S (t : Bs) (L : Nat) (hL : t.length = L) (pa : Option Addr) (c : Nat) (w : World) (ht : L ≤ 16777216) (hR : Rb w pa t) :
    Calls Tryd.prog 17 #[.slice pa L c] w fun e w' => e = .returned (.func (.func 42) #[] #[.pointer (some ⟨w.heap.size, 0, none⟩)]) ∧ w' = w.alloc (.cells #[.string (ba t)] 9) := by
  have h1 : ¬ (16777216 : Int) < (L : Int) := by omega
  have hcv1 := hR.cv c
  rw [hL] at hcv1
  clear hR hL
  go_enter Tryd.func17, Tryd.ntmps17
  go_wp2_with fail
  go_ret
  exact ⟨rfl, rfl⟩

/-- ONE PARAGRAPH IN A ROW OF ITS OWN. -/
theorem doc_one {W : World} {b c : Nat} {v : Value} {p : List Fd} (hc : W.cell? ⟨b, 0, none⟩ = some v) (hp : ParC W v p) : DocC W (.slice (some ⟨b, 0, none⟩) 1 c) [p] := by
  refine ⟨some ⟨b, 0, none⟩, c, rfl, fun _ => ⟨b, 0, rfl, fun i q hi => ?_⟩⟩
  cases i with
  | zero =>
    obtain rfl : p = q := by simpa using hi
    exact ⟨v, hc, hp⟩
  | succ i => simp at hi
theorem alike_one {W : World} {b1 b2 c1 c2 : Nat} {v u : Value} {p : List Fd} (hbd : bd 16777216 p) (h1 : W.cell? ⟨b1, 0, none⟩ = some v) (h2 : W.cell? ⟨b2, 0, none⟩ = some u) (hv : ParC W v p) (hu : ParC W u p) :
    Calls Tryd.prog 26 #[.slice (some ⟨b1, 0, none⟩) 1 c1, .slice (some ⟨b2, 0, none⟩) 1 c2] W fun e w' => e = .returned (.bool true) ∧ Below W.heap.size W w' :=
  alike_yes [p] _ _ c1 c2 W (by simp) (fun q hq => by
    obtain rfl : q = p := List.mem_singleton.1 hq
    exact ⟨hbd.1, fun f hf => hbd.2 f hf⟩) (doc_one h1 hv) (doc_one h2 hu)
/-- SPOIL OF ONE. -/
theorem spoil_one {W : World} {base hi b c : Nat} {v : Value} {p : List Fd} (hne : p ≠ []) (hbd : bd 16777216 p) (hwh : Wh base hi W v p) (hbw : base ≤ W.heap.size) (hrow : W.ownsRow base 39 1 (.slice (some ⟨b, 0, none⟩) 1 c) 1 [v]) :
    Calls Tryd.prog 30 #[.slice (some ⟨b, 0, none⟩) 1 c] W fun e W2 => e = .returned (.bool true) ∧ Env W W2 ∧ W.heap.size ≤ W2.heap.size ∧ ∀ q, q < W.heap.size → (q < base ∨ hi ≤ q) → W2.heap[q]? = W.heap[q]? := by
  have hw : Wn (fun _ => base) (fun _ => hi) W [v] [p] := by
    refine ⟨fun i j hij hj => ?_, fun i u q hu hq => ?_⟩
    · simp at hj; omega
    · cases i with
      | zero =>
        simp at hu hq
        subst hu hq
        exact hwh
      | succ i => simp at hu
  refine (spoil_wn hw rfl (fun q hq => ?_) ?_ b base c hbw (fun _ _ => Nat.le_refl _) hrow).mono ?_
  · obtain rfl : q = p := by simpa using hq
    exact ⟨hne, hbd.mono (by omega)⟩
  · have := hbd.1
    simp [tot]
    omega
  · rintro e W2 ⟨rfl, h1, h2, h3⟩
    exact ⟨rfl, h1, h2, fun q hq hk => h3 q hq (fun _ _ h => by omega)⟩
theorem Dn.rd {bl Bl base : Nat} {W : World} {lv : Value} {vs : List Value} {ps : List (List Fd)} (h : Dn bl Bl base W lv vs ps) : RD bl W lv ps vs :=
  ⟨h.len, by rw [← h.len]; exact h.row, fun i u p h1 h2 => (h.each i u p h1 h2).rp⟩

set_option maxRecDepth 100000 in
set_option maxHeartbeats 2000000 in
theorem spoil_nil (c : Nat) (a : Option Addr) (w : World) :
    Calls Tryd.prog 30 #[.slice a 0 c] w fun e w' => e = .returned (.bool true) ∧ w' = w := by
  go_enter Tryd.func30, Tryd.ntmps30
  go_wp2_with fail
  repeat (refine wp_loop_once ?_; go_wp2_with fail)
  go_ret
  exact ⟨rfl, rfl⟩

/-- SPOIL OF WHAT WAS LEFT. -/
theorem spoil_dn {bl Bl base : Nat} {W : World} {va : Option Addr} {n vc : Nat} {vs : List Value} {ps : List (List Fd)} (h : Dn bl Bl base W (.slice va n vc) vs ps) (hbw : bl ≤ W.heap.size) (hne : ∀ p ∈ ps, p ≠ [] ∧ bd 16777216 p) (ht : tot ps ≤ 16777216) :
    Calls Tryd.prog 30 #[.slice va n vc] W fun e W2 => e = .returned (.bool true) ∧ Env W W2 ∧ W.heap.size ≤ W2.heap.size ∧ ∀ q, q < W.heap.size → (q < bl ∨ base ≤ q) → W2.heap[q]? = W.heap[q]? := by
  rcases h.row.2 with ⟨e, _⟩ | ⟨g, cap, cur, e, _⟩
  · cases e
    refine (spoil_nil 0 none W).mono ?_
    rintro e W2 ⟨rfl, rfl⟩
    exact ⟨rfl, Env.refl _, Nat.le_refl _, fun _ _ _ => rfl⟩
  · cases e
    obtain ⟨lo, hi, hw, hb⟩ := h.win.wn
    refine (spoil_wn hw h.len (fun p hp => ⟨(hne p hp).1, (hne p hp).2.mono (by omega)⟩) (by omega) g bl vc hbw (fun i hi' => (hb i hi').1) h.row).mono ?_
    rintro e W2 ⟨rfl, h1, h2, h3⟩
    exact ⟨rfl, h1, h2, fun q hq hk => h3 q hq (fun i hi' hl => by have := hb i hi'; omega)⟩

/-- THE PARAGRAPH THAT IS WANTED, AS IT LIES. -/
theorem want_at {base : Nat} {W : World} {va : Option Addr} {N c : Nat} {ps : List (List Fd)} {vs : List Value} (h : RD base W (.slice va N c) ps vs) {i : Nat} {f : Fd} {p : List Fd} {n1 : Nat} {nr : List Nat} (hp : ps[i]? = some (f :: p)) (hn : f.ns = n1 :: nr) :
    ∃ b g cap ag ac, va = some ⟨b, 0, none⟩ ∧ W.cell? ⟨b, i, none⟩ = some (.slice (some ⟨g, 0, none⟩) (p.length + 1) cap) ∧ ParC W (.slice (some ⟨g, 0, none⟩) (p.length + 1) cap) (f :: p) ∧ W.cell? ⟨g, 2, none⟩ = some (.slice (some ⟨ag, 0, none⟩) (nr.length + 1) ac) ∧ W.cell? ⟨ag, 0, none⟩ = some (.int .i64 (n1 : Int)) := by
  have hi : i < ps.length := (List.getElem?_eq_some_iff.1 hp).1
  have hiv : i < vs.length := by rw [h.len]; exact hi
  obtain ⟨eN, hs⟩ := h.src
  rcases hs with hs | ⟨b, rfl, hb, hc⟩
  · omega
  · obtain ⟨ts, ht⟩ := h.each i vs[i] (f :: p) (List.getElem?_eq_getElem hiv) hp
    obtain ⟨g, cap, hg⟩ : ∃ g cap, vs[i] = .slice (some ⟨g, 0, none⟩) (p.length + 1) cap := by
      rcases ht.row.2 with ⟨_, e2⟩ | ⟨g, cap, cur, e, _⟩
      · simp at e2
      · exact ⟨g, cap, e⟩
    have hpc := ht.parC
    have h0 := hc i vs[i] (List.getElem?_eq_getElem hiv)
    rw [hg] at h0 hpc ht
    have hit : 0 < ts.length := by rw [ht.len]; simp
    obtain ⟨_, _, c2⟩ := RP.cellA (p := f :: p) ht 0 ts[0] (List.getElem?_eq_getElem hit)
    have hF := ht.each 0 ts[0] f (List.getElem?_eq_getElem hit) rfl
    obtain ⟨ab, ac, e2, har⟩ := hF.ns
    obtain ⟨hab, _, hacell⟩ := row_cells har
    rw [e2, hn] at c2
    refine ⟨b, g, cap, ab, ac, rfl, h0, hpc, c2, hacell 0 _ ?_⟩
    rw [hn]
    rfl
end Go.Proofs.YtocjcbdkihbbiaaDoor

namespace Go.Proofs.YtocjcbdkihbbiaaDoor
open Go.RowKit Go.Shelf
theorem equal_nil {P : Program} {t : TypeId} {a b : Array TypeId} {c : Bool} (hu : P.underlying t = some (.func a b c)) (d f : Nat) (lb : Array Value) (W : World) : (Op.equalIn (d + 1) t (.func (.func f) #[] lb) .nilFunc).run P W = .ok false W := by
  simp [Op.equalIn, run_underlying hu]
theorem seq_nil (f : Nat) (lb : Array Value) (W : World) : (binOp .eql 37 (.func (.func f) #[] lb) .nilFunc).run Tryd.prog W = .ok (.bool false) W := by
  have h := equal_nil (P := Tryd.prog) Tryd.underlying37 9999 f lb W
  show (do pure (Value.bool (← Op.equalIn (9999 + 1) 37 (.func (.func f) #[] lb) .nilFunc)) : Sem Value).run Tryd.prog W = _
  simp [h]
end Go.Proofs.YtocjcbdkihbbiaaDoor
namespace Go.Proofs.YtocjcbdkihbbiaaDoor
open Go.RowKit Go.Shelf
/-- WHAT STANDS WHILE StanzaEach GOES. -/
structure Ev (w : World) (t : Bs) (sp : Int) (g Bk nw Bw : Nat) (wa : Option Addr) (wc N : Nat) (vsw : List Value) (W : World) : Prop where
  bel : Below w.heap.size w W
  st : W.heap[w.heap.size]? = some (.cells #[.int .i64 sp] 3 (0, 0))
  rs : W.heap[w.heap.size + 1]? = some (.cells #[.bool false] 4 (0, 0))
  sq : t.length ≤ 16777216 → W.heap[Bk]? = some (.cells #[.string (ba t)] 9 (0, 0))
  wb : W.heap[Bw]? = some (.cells #[.slice wa N wc] 24 (0, 0))
  wt : Sw nw Bw W (fun W2 => RD nw W2 (.slice wa N wc) (gx t) vsw)
  o : w.heap.size + 2 ≤ g ∧ g < Bk ∧ Bk ≤ nw ∧ nw ≤ Bw ∧ Bw < W.heap.size
theorem Ev.next {w : World} {t : Bs} {sp : Int} {g Bk nw Bw : Nat} {wa : Option Addr} {wc N : Nat} {vsw : List Value} {W W2 : World} (h : Ev w t sp g Bk nw Bw wa wc N vsw W) (he : Env W W2) (hs : W.heap.size ≤ W2.heap.size) (hk : ∀ k, k ≤ Bw → k ≠ g → W2.heap[k]? = W.heap[k]?) : Ev w t sp g Bk nw Bw wa wc N vsw W2 := by
  have ho := h.o
  exact ⟨⟨he.os.trans h.bel.os, he.tape.trans h.bel.tape, he.output.trans h.bel.output, Nat.le_trans h.bel.size hs, fun k hk' => (hk k (by omega) (by omega)).trans (h.bel.block k hk')⟩, (hk _ (by omega) (by omega)).trans h.st, (hk _ (by omega) (by omega)).trans h.rs, fun hl => (hk _ (by omega) (by omega)).trans (h.sq hl), (hk _ (by omega) (by omega)).trans h.wb, h.wt.next fun q a b => hk q (by omega) (by omega), by omega⟩
theorem Ev.later {w : World} {t : Bs} {sp : Int} {g Bk nw Bw : Nat} {wa : Option Addr} {wc N : Nat} {vsw : List Value} {W W2 : World} (h : Ev w t sp g Bk nw Bw wa wc N vsw W) (hb : Below W.heap.size W W2) : Ev w t sp g Bk nw Bw wa wc N vsw W2 := by
  have ho := h.o
  exact h.next (Env.bel hb) hb.size fun k hk _ => hb.block k (by omega)
theorem Ev.set {w : World} {t : Bs} {sp : Int} {g Bk nw Bw : Nat} {wa : Option Addr} {wc N : Nat} {vsw : List Value} {W : World} (h : Ev w t sp g Bk nw Bw wa wc N vsw W) (i : Nat) (v : Value) : Ev w t sp g Bk nw Bw wa wc N vsw (W.setCell ⟨g, i, none⟩ v) :=
  h.next (Env.set _ _ _) (by rw [set_size]; exact Nat.le_refl _) fun k _ hk => set_other _ _ _ _ _ hk
theorem Ev.glob {w : World} {t : Bs} {sp : Int} {g Bk nw Bw : Nat} {wa : Option Addr} {wc N : Nat} {vsw : List Value} {W : World} (h : Ev w t sp g Bk nw Bw wa wc N vsw W) (hG : Glob w) : Glob W := hG.later (n := w.heap.size) hG.big h.bel
end Go.Proofs.YtocjcbdkihbbiaaDoor

namespace Go.Proofs.YtocjcbdkihbbiaaDoor
open Go.RowKit Go.Shelf

/-- A RANGE OVER Each THAT MAY BE LEFT BY ONE BREAK, AND GOES ON ALIKE. -/
theorem rangeFunc_eb (t : Bs) (ht : t.length ≤ 16777216) {n : Nat} {g : Operand} {ps : Array Tmp} {assign body : Code} {Q : Exit → Act → World → Prop} {a : Act} {w : World} {Bk : Nat} (h1 : 1 ≤ n) (id : Nat)
    (hg : a.eval g = .func (.func 42) #[] #[.pointer (some ⟨Bk, 0, none⟩)]) (hG : Glob w) (hT : w.cell? ⟨Bk, 0, none⟩ = some (.string (ba t))) (hps : ps.size = 2)
    (I : Nat → List (List Fd) → World → Prop) (hI : Clo w.heap.size (w.heap.size + 9) I) (h0 : I w.heap.size [] w) (hQ : ∀ a W, Q .normal a W → Q (.exit id) a W) (a1 : Yp → Act)
    (hassign : ∀ (l : Nat) (x : Yp) (W : World) (K : Act → World → Prop), K (a1 x) W →
      assign.wpIn (Fence.wide.inRound l) (n - 1 - 1) Tryd.prog (Exit.then K (fun _ _ _ => False)) { tmps := (ps.zip (encP x)).foldl (fun t (p, v) => t.setIfInBounds p v) a.tmps, defers := [] } W)
    (hbody : ∀ (l : Nat) (x : Yp) (W : World), W.heap[w.heap.size]? = some (.deferred (some [])) → (∃ r, W.heap[w.heap.size + 1]? = some (.loop r)) → PreE (gw t) w.heap.size I x W → body.wpIn (Fence.wide.inRound l) (n - 1 - 1) Tryd.prog (postE w.heap.size I (fun c base qs W => c = .exit id ∧ I base qs W) x W) (a1 x) W)
    (hend : ∀ (qs : List (List Fd)) (W : World), Env w W → Glob W → w.heap.size + 2 ≤ W.heap.size → I W.heap.size qs W → W.heap[w.heap.size]? = some (.deferred (some [])) → Q .normal { a with defers := { target := .collected w.heap.size, args := #[] } :: a.defers } W) :
    (Code.rangeFunc g ps assign body).wpIn Fence.wide n Tryd.prog Q a w := by
  refine rangeFunc_ea t ht h1 hg hG hT hps I (fun c base qs W => c = .exit id ∧ I base qs W) hI (fun c base base2 qs X Z h he hb hb2 hl hc => ⟨h.1, hI base base2 qs X Z h.2 he hb hb2 hl hc⟩) h0 a1 hassign hbody (fun W h2 h3 h4 h5 h6 => hend _ W h2 h3 h4 h5 h6) ?_
  rintro c qs W h2 h3 h4 ⟨rfl, h5⟩ h6
  exact wpIn_exit (hQ _ _ (hend qs W h2 h3 h4 h5 h6))

set_option maxHeartbeats 1000000 in
/-- A RANGE OVER WHAT GIVES NOTHING. -/
theorem rangeFunc_e1 {n : Nat} {g : Operand} {ps : Array Tmp} {assign body : Code} {Q : Exit → Act → World → Prop} {a : Act} {w : World} (h1 : 1 ≤ n) (hg : a.eval g = .func (.func 41) #[] #[])
    (hend : ∀ (W : World), Env w W → w.heap.size + 2 ≤ W.heap.size → (∀ k, k < w.heap.size → W.heap[k]? = w.heap[k]?) → W.heap[w.heap.size]? = some (.deferred (some [])) → Q .normal { a with defers := { target := .collected w.heap.size, args := #[] } :: a.defers } W) :
    (Code.rangeFunc g ps assign body).wpIn Fence.wide n Tryd.prog Q a w := by
  refine wpIn_rangeFunc ?_
  intro fn hfn
  rw [show Fence.wide.round = none from rfl]
  obtain ⟨rc, hrc⟩ : ∃ rc : LoopState → Option Code → Loop, rc = fun st pe => { state := st, pending := pe, fn, tmps := a.tmps, params := ps, assign, body, defers := w.heap.size } := ⟨_, rfl⟩
  obtain ⟨W1, hW1, hL1, hK1, hb1⟩ : ∃ W1, (w.alloc (.deferred (some []))).alloc (.loop (rc .ready none)) = W1 ∧ W1.heap[w.heap.size + 1]? = some (.loop (rc .ready none)) ∧ W1.heap[w.heap.size]? = some (.deferred (some [])) ∧ Below w.heap.size w W1 := by
    refine ⟨_, rfl, ?_, ?_, ?_⟩
    · have := World.alloc_heap_new (w.alloc (.deferred (some []))) (.loop (rc .ready none))
      rwa [World.size_alloc] at this
    · exact (Below.heap_alloc _ _ _ (by simp)).trans (World.alloc_heap_new w _)
    · exact ((Below.refl _ w).alloc (Nat.le_refl _) _).alloc (by simp) _
  have hz1 : W1.heap.size = w.heap.size + 1 + 1 := by rw [← hW1]; simp
  refine ⟨w.heap.size + 1, [{ target := .collected w.heap.size, args := #[] }], W1, { target := .fn (.func 41) #[], args := #[.func (.yield (w.heap.size + 1)) #[] #[]] }, W1, 41,
    #[.func (.yield (w.heap.size + 1)) #[] #[]] ++ #[], W1, ?_, ?_, ?_, ?_, fun _ => h1, ?_⟩
  · rw [← hW1, hrc]; exact run_enterLoop_outer _ _ _ _ _
  · simp only [resolve, hg]
    simp [go_sem]
  · intro f2 hf2; simp [Target.leads] at hf2; subst hf2; trivial
  · simp [invoke, go_sem]
  · refine (callsIn_wide.2 (each1_2 _ W1)).mono ?_
    rintro e W2 ⟨⟨v, rfl⟩, rfl⟩
    exact ⟨none, _, by have := run_endLoop (P := Tryd.prog) hL1 (by rw [hrc]; simp); rw [hrc] at this; exact this, hend _ ((Env.bel hb1).trans (Env.put _ _ _)) (by rw [World.putObj_size]; omega) (fun k hk => (World.putObj_heap_other (by omega)).trans (hb1.block k hk)) ((World.putObj_heap_other (by omega)).trans hK1)⟩

/-- WHAT STANDS WHILE A RANGE OVER Each GOES: all below but the counter. -/
structure Fr0 (Y : World) (Bn base : Nat) (ps : List (List Fd)) (W : World) : Prop where
  env : Env Y W
  le : Y.heap.size ≤ base
  fr : ∀ k, k < Y.heap.size → k ≠ Bn → W.heap[k]? = Y.heap[k]?
  n : W.heap[Bn]? = some (.cells #[.int .i64 (ps.length : Int)] 3 (0, 0))
theorem Fr0.clo (Y : World) (Bn : Nat) (hB : Bn < Y.heap.size) : Clo Y.heap.size (Y.heap.size + 9) (Fr0 Y Bn) := fun base base2 ps X Z h he hb _ hlow _ =>
  ⟨h.env.trans he, Nat.le_trans h.le hb, fun k hk hn => (hlow k (by have := h.le; omega) hk).trans (h.fr k hk hn), (hlow Bn (by have := h.le; omega) hB).trans h.n⟩
theorem fr0_post {G : List (List Fd)} {Y W W9 : World} {Bn : Nat} {x : Yp} (hp : PreE G Y.heap.size (Fr0 Y Bn) x W) (hB : Bn < Y.heap.size) (hgB : 0 ≠ Bn) (he : Env W W9) (hs : W.heap.size ≤ W9.heap.size) (key : ∀ k, k < x.base → k ≠ Bn → W9.heap[k]? = W.heap[k]?)
    (hn : W9.heap[Bn]? = some (.cells #[.int .i64 (x.now.length : Int)] 3 (0, 0))) :
    (W9.heap[Y.heap.size]? = W.heap[Y.heap.size]? ∧ W9.heap[Y.heap.size + 1]? = W.heap[Y.heap.size + 1]?) ∧ Yd (Y.heap.size + 2) (Y.heap.size + 9) W W9 ∧ Fr0 Y Bn W9.heap.size x.now W9 := by
  have hlo := hp.lo
  have hhi := hp.hi
  exact ⟨⟨key _ (by omega) (by omega), key _ (by omega) (by omega)⟩, ⟨he, key _ (by omega) hgB, fun k h1 h2 => key k (by omega) (by omega), hs⟩, ⟨hp.i.env.trans he, by omega, fun k h1 h2 => (key k (by omega) h2).trans (hp.i.fr k h1 h2), hn⟩⟩
theorem now_len (x : Yp) : (x.now.length : Int) = (x.ps.length : Int) + 1 := by simp [Yp.now]
/-- THE PARAGRAPH's PLACE. -/
theorem now_at {G : List (List Fd)} {x : Yp} (h : ∃ r, G = x.now ++ r) : G[x.ps.length]? = some (x.f :: x.p) ∧ x.ps.length < G.length := by
  obtain ⟨r, rfl⟩ := h
  refine ⟨?_, by simp [Yp.now]⟩
  unfold Yp.now
  rw [List.append_assoc, List.getElem?_append_right (Nat.le_refl _)]
  simp
theorem Wh.parC {lo hi : Nat} {W : World} {v : Value} {p : List Fd} (h : Wh lo hi W v p) : ParC W v p := by
  obtain ⟨ts, ht⟩ := h.rp
  exact ht.parC
theorem Wh.bel {lo hi : Nat} {W W2 : World} {v : Value} {p : List Fd} (h : Wh lo hi W v p) (hh : hi ≤ W.heap.size) (hb : Below W.heap.size W W2) : Wh lo hi W2 v p := h.keep fun k _ _ _ _ h2 _ => hb.block k (by omega)

theorem two_rows (W : World) (v u : Value) : ((W.alloc (.cells #[v] 39)).alloc (.cells #[u] 39)).cell? ⟨W.heap.size, 0, none⟩ = some v ∧ ((W.alloc (.cells #[v] 39)).alloc (.cells #[u] 39)).cell? ⟨W.heap.size + 1, 0, none⟩ = some u := by
  refine ⟨(cell_blk ((Below.heap_alloc _ _ _ (by simp)).trans (World.alloc_heap_new W (.cells #[v] 39))) 0).1, ?_⟩
  have h := World.alloc_heap_new (W.alloc (.cells #[v] 39)) (.cells #[u] 39)
  rw [World.size_alloc] at h
  exact (cell_blk h 0).1
theorem one_row (W : World) (v : Value) (base : Nat) (hb : base ≤ W.heap.size) : (W.alloc (.cells #[v] 39)).ownsRow base 39 1 (.slice (some ⟨W.heap.size, 0, none⟩) 1 1) 1 [v] :=
  World.ownsRow_lit W #[v] 1 hb (by decide) (by simp)

/-- .. AND WHAT IS LEFT. -/
structure Fr1 (Y : World) (Bn Bl base : Nat) (ps : List (List Fd)) (W : World) : Prop where
  env : Env Y W
  le : Y.heap.size ≤ base
  fr : ∀ k, k < Y.heap.size → k ≠ Bn → k ≠ Bl → W.heap[k]? = Y.heap[k]?
  n : W.heap[Bn]? = some (.cells #[.int .i64 (ps.length : Int)] 3 (0, 0))
  lf : (ps = [] ∧ W.heap[Bl]? = some (.cells #[.slice none 0 0] 24 (0, 0))) ∨ ∃ lv vs, Dn (Y.heap.size + 9) Bl base W lv vs ps
theorem Fr1.clo (Y : World) (Bn Bl : Nat) (hB : Bn < Y.heap.size) (hL : Bl < Y.heap.size) : Clo Y.heap.size (Y.heap.size + 9) (Fr1 Y Bn Bl) := fun base base2 ps X Z h he hb _ hlow hcel => by
  have hle := h.le
  refine ⟨h.env.trans he, Nat.le_trans h.le hb, fun k hk hn hl => (hlow k (by omega) hk).trans (h.fr k hk hn hl), (hlow Bn (by omega) hB).trans h.n, ?_⟩
  rcases h.lf with ⟨h1, h2⟩ | ⟨lv, vs, hd⟩
  · exact .inl ⟨h1, (hlow Bl (by omega) hL).trans h2⟩
  · refine .inr ⟨lv, vs, (hd.keep fun k c t _ h1 h2 hc => ?_).mono hb⟩
    rcases h1 with rfl | h1
    · exact hlow _ h2 hL
    · exact hcel k c t (0, 0) h2 h1 hc
theorem dn_nil {bl Bl base : Nat} {W : World} (hb : W.heap[Bl]? = some (.cells #[.slice none 0 0] 24 (0, 0))) (h1 : Bl < base) (h2 : bl ≤ base) : Dn bl Bl base W (.slice none 0 0) [] [] :=
  ⟨hb, h1, World.ownsRow_nil _ _ _ _, fun g hg => (by cases hg), rfl, fun _ => bl, fun _ _ _ => Nat.le_refl _, Nat.le_refl _, h2, fun i v p hv => (by simp at hv)⟩
theorem Fr1.dn {Y W : World} {Bn Bl base : Nat} {ps : List (List Fd)} (h : Fr1 Y Bn Bl base ps W) (hL : Bl < Y.heap.size) (hb : Y.heap.size + 9 ≤ base) : ∃ lv vs, Dn (Y.heap.size + 9) Bl base W lv vs ps := by
  rcases h.lf with ⟨rfl, h2⟩ | h2
  · exact ⟨_, _, dn_nil h2 (by omega) hb⟩
  · exact h2
theorem Fr1.fin {Y W : World} {Bn Bl base : Nat} {ps : List (List Fd)} (h : Fr1 Y Bn Bl base ps W) (hL : Bl < Y.heap.size) (hb : Y.heap.size + 2 ≤ base) : ∃ bl lv vs, Y.heap.size + 2 ≤ bl ∧ bl ≤ base ∧ Dn bl Bl base W lv vs ps := by
  rcases h.lf with ⟨rfl, h2⟩ | ⟨lv, vs, hd⟩
  · exact ⟨Y.heap.size + 2, _, _, Nat.le_refl _, hb, dn_nil h2 (by omega) hb⟩
  · obtain ⟨c, h1, h2, h3, _⟩ := hd.win
    exact ⟨Y.heap.size + 9, lv, vs, by omega, Nat.le_trans h2 (Nat.le_trans (h1 0 vs.length (Nat.zero_le _)) h3), hd⟩
end Go.Proofs.YtocjcbdkihbbiaaDoor

namespace Go.Proofs.YtocjcbdkihbbiaaDoor
open Go.RowKit Go.Shelf

/-- ALL THAT STAYS TILL THE END, whatever becomes of the block Bl. -/
structure Pk (w : World) (t : Bs) (sp : Int) (g Bk nw Bw : Nat) (wa : Option Addr) (wc N : Nat) (vsw : List Value) (qc L : Nat) (gt : Bs) (Bl : Nat) (Ds : List Nat) (H : Nat) (W : World) : Prop where
  ev : Ev w t sp g Bk nw Bw wa wc N vsw W
  gr : W.ownsRow (w.heap.size + 2) 5 1 (.slice (some ⟨g, 0, none⟩) (L + 70) qc) (L + 70) (encB gt)
  ds : ∀ d ∈ Ds, d < H ∧ d ≠ Bl ∧ w.heap.size ≤ d ∧ W.heap[d]? = some (.deferred (some []))
  o : Bw < Bl ∧ Bl < H ∧ H ≤ W.heap.size
theorem Pk.next {w : World} {t : Bs} {sp : Int} {g Bk nw Bw : Nat} {wa : Option Addr} {wc N : Nat} {vsw : List Value} {qc L : Nat} {gt : Bs} {Bl : Nat} {Ds : List Nat} {H : Nat} {W W2 : World} (h : Pk w t sp g Bk nw Bw wa wc N vsw qc L gt Bl Ds H W) (he : Env W W2) (hs : W.heap.size ≤ W2.heap.size) (hk : ∀ k, k < H → k ≠ Bl → W2.heap[k]? = W.heap[k]?) (H2 : Nat) (h2 : H ≤ H2) (h3 : H2 ≤ W2.heap.size) : Pk w t sp g Bk nw Bw wa wc N vsw qc L gt Bl Ds H2 W2 := by
  have ho := h.o
  have eo := h.ev.o
  exact ⟨h.ev.next he hs fun k h1 _ => hk k (by omega) (by omega), ownsRow_same h.gr fun q c hq hc => by
    have hq2 := ownsRow_blk h.gr hq
    obtain ⟨_, _, h5, h6⟩ := hq2
    have : q = g := by simpa [Value.ownBlock] using hq.symm
    exact hk q (by omega) (by omega), fun d hd => by
    have := h.ds d hd
    exact ⟨by omega, this.2.1, this.2.2.1, (hk d this.1 this.2.1).trans this.2.2.2⟩, by omega⟩
theorem Pk.later {w : World} {t : Bs} {sp : Int} {g Bk nw Bw : Nat} {wa : Option Addr} {wc N : Nat} {vsw : List Value} {qc L : Nat} {gt : Bs} {Bl : Nat} {Ds : List Nat} {H : Nat} {W W2 : World} (h : Pk w t sp g Bk nw Bw wa wc N vsw qc L gt Bl Ds H W) (hb : Below W.heap.size W W2) : Pk w t sp g Bk nw Bw wa wc N vsw qc L gt Bl Ds W2.heap.size W2 := by
  have ho := h.o
  have := hb.size
  exact h.next (Env.bel hb) hb.size (fun k hk _ => hb.block k (by omega)) _ (by omega) (Nat.le_refl _)
theorem Pk.add {w : World} {t : Bs} {sp : Int} {g Bk nw Bw : Nat} {wa : Option Addr} {wc N : Nat} {vsw : List Value} {qc L : Nat} {gt : Bs} {Bl : Nat} {Ds : List Nat} {H : Nat} {W : World} (h : Pk w t sp g Bk nw Bw wa wc N vsw qc L gt Bl Ds H W) (d : Nat) (hd : W.heap[d]? = some (.deferred (some []))) (h1 : d < H) (h2 : d ≠ Bl) (h3 : w.heap.size ≤ d) : Pk w t sp g Bk nw Bw wa wc N vsw qc L gt Bl (d :: Ds) H W :=
  ⟨h.ev, h.gr, fun e he => by
    rcases List.mem_cons.1 he with rfl | he
    · exact ⟨h1, h2, h3, hd⟩
    · exact h.ds e he, h.o⟩
theorem Pk.next2 {w : World} {t : Bs} {sp : Int} {g Bk nw Bw : Nat} {wa : Option Addr} {wc N : Nat} {vsw : List Value} {qc L : Nat} {gt : Bs} {Bl : Nat} {Ds : List Nat} {H : Nat} {W W2 : World} (h : Pk w t sp g Bk nw Bw wa wc N vsw qc L gt Bl Ds H W) (he : Env W W2) (hs : W.heap.size ≤ W2.heap.size) (hk : ∀ k, k ≤ Bw → W2.heap[k]? = W.heap[k]?) (hd : ∀ d ∈ Ds, W2.heap[d]? = W.heap[d]?) : Pk w t sp g Bk nw Bw wa wc N vsw qc L gt Bl Ds W2.heap.size W2 := by
  have ho := h.o
  have eo := h.ev.o
  exact ⟨h.ev.next he hs fun k h1 _ => hk k h1, ownsRow_same h.gr fun q c hq hc => by
    have : q = g := by simpa [Value.ownBlock] using hq.symm
    exact hk q (by omega), fun d hd' => by
    have := h.ds d hd'
    exact ⟨by omega, this.2.1, this.2.2.1, (hd d hd').trans this.2.2.2⟩, by omega⟩
theorem below_put2 {w W : World} {D : Nat} (h : Below w.heap.size w W) (hD : w.heap.size ≤ D) (o : Obj) : Below w.heap.size w (W.putObj D o) :=
  h.trans ⟨rfl, rfl, rfl, by rw [World.putObj_size]; exact Nat.le_refl _, fun i hi => World.putObj_heap_other (by omega)⟩
theorem results_cell1 {fn : Func} {a : Tmp} {t : TypeId} (h : fn.results = #[.cell a t]) (tmps : Array Value) (P : Program) (w : World) (ad : Addr) (v : Value) (ha : tmps.getD a undef = .pointer (some ad)) (hl : (loadVar t ad).run P w = .ok v w) :
    (results fn tmps).run P w = .ok v w := by
  have ha2 : tmps[a]?.getD undef = .pointer (some ad) := by simpa using ha
  simp [results, h, asAddr, ha2, hl]
theorem alike_g (t : Bs) {b1 b2 : Nat} {W : World} {v u : Value} {vs us : List Value} (h1 : RD b1 W v (gx t) vs) (h2 : RD b2 W u (gx t) us) :
    Calls Tryd.prog 26 #[v, u] W fun e w' => e = .returned (.bool true) ∧ Below W.heap.size W w' := by
  obtain ⟨va, vc, rfl⟩ := h1.shape
  obtain ⟨ua, uc, rfl⟩ := h2.shape
  have hs := gx_le t
  exact alike_yes (gx t) va ua vc uc W (by omega) (fun p hp => (hs.2.2 p hp).2) h1.docC h2.docC

theorem alike_0 (la ua : Option Addr) (lc uc : Nat) (W : World) : Calls Tryd.prog 26 #[.slice la 0 lc, .slice ua 0 uc] W fun e w' => e = .returned (.bool true) ∧ Below W.heap.size W w' :=
  alike_yes [] la ua lc uc W (by simp) (fun p hp => (by cases hp)) ⟨la, lc, rfl, fun h => absurd h (by simp)⟩ ⟨ua, uc, rfl, fun h => absurd h (by simp)⟩

/-- BEHIND ONE MORE THAT IS LEFT. -/
theorem fr1_post {G : List (List Fd)} {Y W W6 w7 : World} {Bn Bl : Nat} {x : Yp} {lv v2 : Value} {vs : List Value} (hp : PreE G Y.heap.size (Fr1 Y Bn Bl) x W) (hB : Bn < Y.heap.size) (hL : Bl < Y.heap.size) (hgB : 0 ≠ Bn) (hgL : 0 ≠ Bl) (hne : Bn ≠ Bl)
    (hd : Dn (Y.heap.size + 9) Bl x.base W lv vs x.ps) (b6 : Below W.heap.size W W6) (g7 : (W6.alloc (.cells #[x.v] 39)).grownBy w7 lv.ownBlock) (o7 : w7.ownsRow (Y.heap.size + 9) 39 1 v2 (vs.length + 1) (vs ++ [x.v])) (b7 : w7.heap[Bl]? = some (.cells #[lv] 24 (0, 0)))
    (n7 : w7.heap[Bn]? = some (.cells #[.int .i64 (x.ps.length : Int)] 3 (0, 0))) :
    let W9 := (w7.setCell ⟨Bl, 0, none⟩ v2).setCell ⟨Bn, 0, none⟩ (.int .i64 ((x.ps.length : Int) + 1))
    (W9.heap[Y.heap.size]? = W.heap[Y.heap.size]? ∧ W9.heap[Y.heap.size + 1]? = W.heap[Y.heap.size + 1]?) ∧ Yd (Y.heap.size + 2) (Y.heap.size + 9) W W9 ∧ Fr1 Y Bn Bl W9.heap.size x.now W9 := by
  intro W9
  have hlo := hp.lo
  have hhi := hp.hi
  have hi := hp.i
  have z6 := b6.size
  have z7 := g7.size
  rw [World.size_alloc] at z7
  have z9 : W9.heap.size = w7.heap.size := by show ((w7.setCell _ _).setCell _ _).heap.size = _; rw [set_size, set_size]
  have hob : ∀ k, lv.ownBlock = some k → Y.heap.size + 9 ≤ k ∧ ∃ c, W.heap[k]? = some (.cells c 39 (0, 0)) := fun k hk => by
    obtain ⟨c, hc, h1, _⟩ := ownsRow_blk hd.row hk
    exact ⟨h1, c, hc⟩
  have ke : ∀ k, k < W.heap.size → lv.ownBlock ≠ some k → k ≠ Bl → k ≠ Bn → W9.heap[k]? = W.heap[k]? := fun k hk h5 h6 h7 =>
    (set_other _ _ _ _ _ h7).trans ((set_other _ _ _ _ _ h6).trans ((g7.block k (by simp; omega) (fun e => h5 e.symm)).trans ((Below.heap_alloc W6 _ k (by omega)).trans (b6.block k hk))))
  have low : ∀ k, k < Y.heap.size + 9 → k ≠ Bl → k ≠ Bn → W9.heap[k]? = W.heap[k]? := fun k hk h6 h7 => ke k (by omega) (fun e => by have := (hob k e).1; omega) h6 h7
  have kt : ∀ (k : Nat) (c : Array Value) (t : TypeId), (t = 49 ∨ t = 9 ∨ t = 3) → Y.heap.size + 9 ≤ k → W.heap[k]? = some (Obj.cells c t (0, 0)) → W9.heap[k]? = W.heap[k]? := fun k c t ht h5 hk => by
    refine ke k (Array.getElem?_eq_some_iff.1 hk).1 (fun e => ?_) (by omega) (by omega)
    obtain ⟨_, c2, hc2⟩ := hob k e
    rw [hk] at hc2
    rcases ht with rfl | rfl | rfl <;> cases hc2
  have bx9 : W9.heap[Bl]? = some (.cells #[v2] 24 (0, 0)) := (set_other _ _ _ _ _ (fun e => hne e.symm)).trans (set_blk b7 0 v2)
  have bn9 : W9.heap[Bn]? = some (.cells #[.int .i64 ((x.ps.length : Int) + 1)] 3 (0, 0)) := set_blk ((set_other _ _ _ _ _ hne).trans n7) 0 _
  have he : Env W W9 := (Env.bel b6).trans ((Env.al _ _).trans ((Env.grown g7).trans ((Env.set _ _ _).trans (Env.set _ _ _))))
  have r9 : W9.ownsRow (Y.heap.size + 9) 39 1 v2 (vs.length + 1) (vs ++ [x.v]) := ownsRow_same o7 fun k c hk hc => by
    have h5 := (ownsRow_blk o7 hk).choose_spec.2.1
    exact (set_other _ _ _ _ _ (by omega)).trans (set_other _ _ _ _ _ (by omega))
  refine ⟨⟨low _ (by omega) (by omega) (by omega), low _ (by omega) (by omega) (by omega)⟩, ⟨he, low _ (by omega) hgL hgB, fun k h1 h2 => low k h2 (by omega) (by omega), by omega⟩, ⟨hi.env.trans he, by omega, fun k h1 h2 h3 => (low k (by omega) h3 h2).trans (hi.fr k h1 h2 h3), by rw [now_len]; exact bn9, .inr ⟨v2, vs ++ [x.v], ⟨bx9, by omega, by rw [List.length_append]; exact r9, fun k hk => (ownsRow_blk r9 hk).choose_spec.2.2, by simp [Yp.now, hd.len], ?_⟩⟩⟩⟩
  refine Win.put (hd.win.keep fun k c t ht h1 _ hk => kt k c t ht h1 hk) hd.len (by omega) (by omega) ?_
  exact (hp.wh.keep fun k c t ht h1 _ hk => kt k c t ht (by omega) hk).mono (by omega)
end Go.Proofs.YtocjcbdkihbbiaaDoor

