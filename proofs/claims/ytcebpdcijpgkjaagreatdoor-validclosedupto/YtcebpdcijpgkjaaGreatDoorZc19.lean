import Derived.Test.YtcebpdcijpgkjaaGreatDoorZc18
import Derived.Shelf.Sort.Plain
import Derived.Shelf.Slices.CompactI
import Derived.Test.YtcebpdcijpgkjaaGreatDoorProg
import Derived.Sort.OwnSortedInts
import Derived.Lib.SlicesCompact
import Derived.Test.YtcebpdcijpgkjaaGreatDoorZc11
namespace Go.Proofs.YtcebpdcijpgkjaaGreatDoor
open Go.RowKit Go.Maps Go.Shelf
attribute [local go_sem] Oper.semAt_some
attribute [local simp] wide_fn
attribute [local go_sem] wide_fn

set_option maxHeartbeats 1000000 in
/-- A RANGE OVER A FUNCTION WHOSE VARIABLE LIES IN A BLOCK OF ITS OWN. -/
theorem rangeFunc_2h {α : Type} {F : Fence} {n : Nat} {P : Program} {g : Operand} {ps : Array Tmp} {assign body : Code} {Q : Exit → Act → World → Prop} {a : Act} {w : World}
    (hro : F.round = none) (h1 : 1 ≤ n) {gf : Nat} {lb : Array Value} (hg : a.eval g = .func (.func gf) #[] lb) (hFg : F.fn gf) (eg : ∀ args w, (callFunc gf args).run P w = .ok (.enter gf args) w)
    {encs : α → Array Value} {Kp : World → World → Prop} {S Sp : List α → Prop} {N : Nat} {w0 : World} (hseq : SeqB F (n - 1) P gf lb encs Kp S Sp N w0)
    (hKt : ∀ {A B C : World}, Kp A B → Kp B C → Kp A C) (hKb : ∀ (W : World) (l : Nat) (o o2 : Obj), w.heap.size ≤ l → W.heap[l]? = some o → o.isCells = false → o.isWalk = false → Kp W (W.putObj l o2)) (hKa : ∀ (W : World) (o : Obj), w.heap.size ≤ W.heap.size → Kp W (W.alloc o)) (hb0 : RowKit.Below w0.heap.size w0 w) (hps : ∀ x, (encs x).size = ps.size)
    (I : List α → World → Prop) (Ix : Code → List α → World → Prop) (hI : Abide w.heap.size I) (hIx : ∀ c, Abide w.heap.size (Ix c)) (h0 : I [] w) (ob : α → Obj) (a1 : α → Nat → Act)
    (hassign : ∀ (l : Nat) (x : α) (W : World) (K : Act → World → Prop), K (a1 x W.heap.size) (W.alloc (ob x)) →
      assign.wpIn (F.inRound l) (n - 1 - 1) P (Exit.then K (fun _ _ _ => False)) { tmps := (ps.zip (encs x)).foldl (fun t (p, v) => t.setIfInBounds p v) a.tmps, defers := [] } W)
    (hbody : ∀ (l : Nat) (pre : List α) (x : α) (g : Nat) (W : World), w.heap.size + 1 < g → W.heap[g]? = some (ob x) → W.heap[w.heap.size]? = some (.deferred (some [])) → (∃ r, W.heap[w.heap.size + 1]? = some (.loop r)) → I pre W → pre.length < N → Sp (pre ++ [x]) → body.wpIn (F.inRound l) (n - 1 - 1) P (post2 w.heap.size Kp I Ix (pre ++ [x]) W) (a1 x g) W)
    (hdone : ∀ (D : Nat) (xs : List α) (W : World), D = w.heap.size → S xs → I xs W → W.heap[D]? = some (.deferred (some [])) → Q .normal { a with defers := { target := .collected D, args := #[] } :: a.defers } W)
    (hstop : ∀ (D : Nat) (c : Code) (pre : List α) (W : World), D = w.heap.size → Sp pre → Ix c pre W → W.heap[D]? = some (.deferred (some [])) → c.wpIn F n P Q { a with defers := { target := .collected D, args := #[] } :: a.defers } W) :
    (Code.rangeFunc g ps assign body).wpIn F n P Q a w := by
  refine wpIn_rangeFunc ?_
  intro fn hfn
  rw [hro]
  obtain ⟨rc, hrc⟩ : ∃ rc : LoopState → Option Code → Loop, rc = fun st pe => { state := st, pending := pe, fn, tmps := a.tmps, params := ps, assign, body, defers := w.heap.size } := ⟨_, rfl⟩
  obtain ⟨W1, hW1, hL1, hK1, hI1, hb1⟩ : ∃ W1, (w.alloc (.deferred (some []))).alloc (.loop (rc .ready none)) = W1 ∧ W1.heap[w.heap.size + 1]? = some (.loop (rc .ready none)) ∧ W1.heap[w.heap.size]? = some (.deferred (some [])) ∧ I [] W1 ∧ RowKit.Below w0.heap.size w0 W1 := by
    refine ⟨_, rfl, ?_, ?_, hI.alloc _ (hI.alloc _ h0), ?_⟩
    · have := World.alloc_heap_new (w.alloc (.deferred (some []))) (.loop (rc .ready none))
      rwa [World.size_alloc] at this
    · exact (Below.heap_alloc _ _ _ (by simp)).trans (World.alloc_heap_new w _)
    · exact hb0.trans ((((Below.refl _ w).alloc (Nat.le_refl _) _).alloc (by simp) _).mono hb0.size)
  have hz1 : W1.heap.size = w.heap.size + 1 + 1 := by rw [← hW1]; simp
  refine ⟨w.heap.size + 1, [{ target := .collected w.heap.size, args := #[] }], W1, { target := .fn (.func gf) lb, args := #[.func (.yield (w.heap.size + 1)) #[] #[]] }, W1, gf,
    #[.func (.yield (w.heap.size + 1)) #[] #[]] ++ lb, W1, ?_, ?_, ?_, ?_, fun _ => h1, ?_⟩
  · rw [← hW1, hrc]; exact run_enterLoop_outer _ _ _ _ _
  · simp only [resolve, hg]
    simp [go_sem]
  · intro f2 hf2; simp [Target.leads] at hf2; subst hf2; exact hFg
  · simp [invoke, go_sem, eg]
  · refine (hseq (w.heap.size + 1)
      (fun pre W => I pre W ∧ W.heap[w.heap.size + 1]? = some (.loop (rc .ready none)) ∧ W.heap[w.heap.size]? = some (.deferred (some [])))
      (fun pre W => ∃ c, Ix c pre W ∧ W.heap[w.heap.size + 1]? = some (.loop (rc .done (some c))) ∧ W.heap[w.heap.size]? = some (.deferred (some [])))
      W1 hb1 ?_ ?_ ⟨hI1, hL1, hK1⟩).mono ?_
    · rintro s X Y ⟨i1, i2, i3⟩ hb
      exact ⟨hI s X Y none i1 (grown_below hb) (fun r e => by cases e), (hb.block _ (blk_lt i2)).trans i2, (hb.block _ (blk_lt i3)).trans i3⟩
    · -- A ROUND
      rintro pre x W ⟨hi, hl, hk⟩ hlen hpre
      have hlt : w.heap.size + 1 < W.heap.size := (Array.getElem?_eq_some_iff.1 hl).1
      have hy := run_yield (P := P) (args := encs x) hl (by rw [hrc]; exact hps x)
      rw [hrc] at hy
      obtain ⟨Wa, hWa⟩ : ∃ Wa, W.alloc (ob x) = Wa := ⟨_, rfl⟩
      have hla : Wa.heap[w.heap.size + 1]? = some (.loop (rc .ready none)) := by rw [← hWa]; exact (Below.heap_alloc _ _ _ hlt).trans hl
      have hka : Wa.heap[w.heap.size]? = some (.deferred (some [])) := by rw [← hWa]; exact (Below.heap_alloc _ _ _ (by omega)).trans hk
      have hga : Wa.heap[W.heap.size]? = some (ob x) := by rw [← hWa]; exact World.alloc_heap_new W _
      have hia : I pre Wa := by rw [← hWa]; exact hI.alloc _ hi
      have hwa : Kp W Wa := by rw [← hWa]; exact hKa W _ (by omega)
      have hlta : w.heap.size + 1 < Wa.heap.size := (Array.getElem?_eq_some_iff.1 hla).1
      refine ⟨fn, _, assign, body, hy, roundIn_of_wpIn hfn (hassign _ x W _ ?_)⟩
      rw [hWa]
      refine ⟨_, run_beginRound hla (by rw [hrc]), ?_⟩
      obtain ⟨Wb, hWb⟩ : ∃ Wb, Wa.putObj (w.heap.size + 1) (.loop { rc .ready none with state := .busy }) = Wb := ⟨_, rfl⟩
      have hl2 : Wb.heap[w.heap.size + 1]? = some (.loop { rc .ready none with state := .busy }) := by rw [← hWb]; exact World.putObj_heap_same hlta
      have hk2 : Wb.heap[w.heap.size]? = some (.deferred (some [])) := by rw [← hWb]; exact (World.putObj_heap_other (by omega)).trans hka
      have hg2 : Wb.heap[W.heap.size]? = some (ob x) := by rw [← hWb]; exact (World.putObj_heap_other (by omega)).trans hga
      have hw2 : Kp W Wb := by rw [← hWb]; exact hKt hwa (hKb _ _ _ _ (by omega) hla rfl rfl)
      have hi2 : I pre Wb := by rw [← hWb]; exact hI.put _ hia (by omega) hla rfl (fun _ _ e => by cases e)
      rw [hWb]
      refine wpIn_mono (hbody _ pre x W.heap.size Wb hlt hg2 hk2 ⟨_, hl2⟩ hi2 hlen hpre) ?_
      have fin : ∀ (jump : Option Code) (W3 : World), (W3.heap[w.heap.size]? = Wb.heap[w.heap.size]? ∧ W3.heap[w.heap.size + 1]? = Wb.heap[w.heap.size + 1]?) →
          (Instr.endRound (w.heap.size + 1) jump).run P W3 = .ok (.bool jump.isNone) (W3.putObj (w.heap.size + 1) (.loop (rc (if jump.isNone then .ready else .done) jump))) ∧
          W3.heap[w.heap.size + 1]? = some (.loop { rc .ready none with state := .busy }) ∧
          (W3.putObj (w.heap.size + 1) (.loop (rc (if jump.isNone then .ready else .done) jump))).heap[w.heap.size + 1]? = some (.loop (rc (if jump.isNone then .ready else .done) jump)) ∧
          (W3.putObj (w.heap.size + 1) (.loop (rc (if jump.isNone then .ready else .done) jump))).heap[w.heap.size]? = some (.deferred (some [])) := fun jump W3 hs => by
        have hl3 := hs.2.trans hl2
        have hr := run_endRound (P := P) jump hl3
        refine ⟨?_, hl3, World.putObj_heap_same (Array.getElem?_eq_some_iff.1 hl3).1, (World.putObj_heap_other (by omega)).trans (hs.1.trans hk2)⟩
        rw [hrc] at hr ⊢
        exact hr
      rintro e a3 W3 hp
      cases e with
      | normal =>
        obtain ⟨hs, hkp, hi3⟩ := hp
        obtain ⟨hr, hl3, hl4, hk4⟩ := fin none W3 hs
        exact ⟨_, _, hr, .inl ⟨rfl, ⟨hI.put _ hi3 (by omega) hl3 rfl (fun _ _ e => by cases e), hl4, hk4⟩, hKt (hKt hw2 hkp) (hKb _ _ _ _ (by omega) hl3 rfl rfl)⟩⟩
      | ret =>
        obtain ⟨hs, hi3⟩ := hp
        obtain ⟨hr, hl3, hl4, hk4⟩ := fin (some .ret) W3 hs
        exact ⟨_, _, hr, .inr ⟨rfl, .ret, (hIx _).put _ hi3 (by omega) hl3 rfl (fun _ _ e => by cases e), hl4, hk4⟩⟩
      | exit id =>
        obtain ⟨hs, hi3⟩ := hp
        obtain ⟨hr, hl3, hl4, hk4⟩ := fin (some (.exit id)) W3 hs
        exact ⟨_, _, hr, .inr ⟨rfl, .exit id, (hIx _).put _ hi3 (by omega) hl3 rfl (fun _ _ e => by cases e), hl4, hk4⟩⟩
      | goto t =>
        obtain ⟨hs, hi3⟩ := hp
        obtain ⟨hr, hl3, hl4, hk4⟩ := fin (some (.goto t)) W3 hs
        exact ⟨_, _, hr, .inr ⟨rfl, .goto t, (hIx _).put _ hi3 (by omega) hl3 rfl (fun _ _ e => by cases e), hl4, hk4⟩⟩
      | panic ch => exact hp.elim
      | outgrown => exact hp.elim
    · -- BEHIND THE ITERATOR
      rintro e W2 ⟨⟨v, rfl⟩, (⟨xs, hS, hi, hl, hk⟩ | ⟨pre, hSp, c, hi, hl, hk⟩)⟩
      · exact ⟨none, _, by have := run_endLoop (P := P) hl (by rw [hrc]; simp); rw [hrc] at this; exact this, hdone _ xs _ rfl hS (hI.put _ hi (by omega) hl rfl (fun _ _ e => by cases e)) ((World.putObj_heap_other (by omega)).trans hk)⟩
      · exact ⟨some c, _, by have := run_endLoop (P := P) hl (by rw [hrc]; simp); rw [hrc] at this; exact this, hstop _ c pre _ rfl hSp ((hIx c).put _ hi (by omega) hl rfl (fun _ _ e => by cases e)) ((World.putObj_heap_other (by omega)).trans hk)⟩
theorem Iw.turn {w0 : World} {Bs Ba : Nat} {S A : Obj} {X Y : World} {C : Nat} {row : Option Nat} (h : Iw w0 Bs Ba S A X) (hg : X.grownBy Y row) (hr : ∀ k, row = some k → C ≤ k) (h0 : w0.heap.size ≤ C) (hs : Bs < C) (ha : Ba < C) : Iw w0 Bs Ba S A Y := by
  have ne : ∀ j, j < C → some j ≠ row := fun j hj e => by have := hr j e.symm; omega
  refine ⟨⟨hg.os.trans h.bel.os, hg.tape.trans h.bel.tape, hg.output.trans h.bel.output, Nat.le_trans h.bel.size hg.size, fun j hj => ?_⟩, (hg.block _ (blk_lt h.s) (ne _ hs)).trans h.s, (hg.block _ (blk_lt h.a) (ne _ ha)).trans h.a⟩
  have := h.bel.size
  exact (hg.block j (by omega) (ne j (by omega))).trans (h.bel.block j hj)
end Go.Proofs.YtcebpdcijpgkjaaGreatDoor

namespace Go.Proofs.YtcebpdcijpgkjaaGreatDoor
open Go.RowKit Go.Maps Go.Shelf
attribute [local go_sem] Oper.semAt_some
attribute [local simp] wide_fn
attribute [local go_sem] wide_fn

/-- WHAT AppendSeq HAS COLLECTED. -/
structure Cs (w Z : World) (s : Value) (l : List Nat) : Prop where
  b0 : Z.heap[w.heap.size]? = some (.cells #[s] 34 (0, 0))
  row : Z.ownsRow (w.heap.size + 1) 3 1 s l.length (ints l)
  bw : RowKit.Below w.heap.size w Z
theorem Cs.lt {w Z : World} {s : Value} {l : List Nat} (h : Cs w Z s l) : w.heap.size + 1 ≤ Z.heap.size := blk_lt h.b0
theorem Cs.grow {w X w9 : World} {s v' : Value} {l : List Nat} {x : Nat} {o : Obj} (h : Cs w X s l) (hown : w9.ownsRow (w.heap.size + 1) 3 1 v' (l.length + 1) (ints l ++ [.int .i64 (x : Int)])) (hg : (X.alloc o).grownBy w9 s.ownBlock) :
    w9.heap[w.heap.size]? = some (.cells #[s] 34 (0, 0)) ∧ Cs w (w9.setCell ⟨w.heap.size, 0, none⟩ v') v' (l ++ [x]) ∧ RowKit.Below w.heap.size X (w9.setCell ⟨w.heap.size, 0, none⟩ v') ∧ ∀ c, c < X.heap.size → c ≠ w.heap.size → s.ownBlock ≠ some c → (w9.setCell ⟨w.heap.size, 0, none⟩ v').heap[c]? = X.heap[c]? := by
  have hz := h.lt
  have ne : ∀ j, j < w.heap.size + 1 → some j ≠ s.ownBlock := fun j hj e => by have := (World.ownsRow.lt h.row j e.symm).1; omega
  have k9 : ∀ j, j < X.heap.size → some j ≠ s.ownBlock → w9.heap[j]? = X.heap[j]? := fun j hj e => (hg.block j (by rw [World.size_alloc]; omega) e).trans (Below.heap_alloc _ _ _ hj)
  have hb9 : RowKit.Below w.heap.size w w9 := (h.bw.alloc h.bw.size o).grown hg (by have := h.bw.size; rw [World.size_alloc]; omega) fun j e => by have := (World.ownsRow.lt h.row j e).1; omega
  have hX9 : RowKit.Below w.heap.size X w9 := ((Below.refl _ X).alloc h.bw.size o).grown hg (by rw [World.size_alloc]; have := h.bw.size; omega) fun j e => by have := (World.ownsRow.lt h.row j e).1; omega
  have hbx := (k9 w.heap.size (by omega) (ne _ (by omega))).trans h.b0
  have hob : ∀ b, v'.ownBlock = some b → b ≠ w.heap.size := fun b e => by have := (World.ownsRow.lt hown b e).1; omega
  refine ⟨hbx, ⟨set_blk hbx 0 v', ?_, hb9.setCell (p := ⟨w.heap.size, 0, none⟩) (Nat.le_refl _) _⟩, hX9.setCell (p := ⟨w.heap.size, 0, none⟩) (Nat.le_refl _) _, fun c hc hn hs => ?_⟩
  · rw [List.length_append, show ints (l ++ [x]) = ints l ++ [.int .i64 (x : Int)] from by simp [ints]]
    exact own_same hown fun b e => set_other w9 _ 0 v' b (hob b e)
  · exact (set_other w9 _ 0 v' c hn).trans (k9 c hc (fun e => hs e.symm))
end Go.Proofs.YtcebpdcijpgkjaaGreatDoor

/-
  DERIVED: THE SHELF's CONTRACTS AT THIS DUMP, IN PLAIN WORDS (tools/lay-plain.mjs out of 'TrydShelf.lean', which tools/lay-shelf.mjs wrote): THE SAME DECLARATIONS UNDER THE SAME NAMES: 'import', 'namespace', 'open', 'def', 'theorem' AND NOTHING ELSE: no command of the shelf's: FOR A HAND-IN. Each laying: the table of numbers ('.._ren') and one theorem, a field a fact of the dump's own or the kernel's comparison; each contract: ONE APPLICATION.
-/
namespace Go.Proofs
open Go.Shelf
def Tryz.lays189_ren : Go.Shelf.Ren := ⟨fun | 189 => 68 | 125 => 73 | 257 => 86 | 128 => 96 | 129 => 97 | 294 => 106 | 295 => 107 | 296 => 108 | 297 => 109 | 298 => 110 | 299 => 111 | 216 => 112 | 300 => 113 | 301 => 114 | 328 => 127 | 329 => 116 | 330 => 117 | 331 => 128 | 332 => 129 | 215 => 130 | 343 => 141 | n => n, fun | 28 => 34 | 3 => 3 | 46 => 120 | 0 => 0 | 51 => 144 | 53 => 146 | 4 => 4 | 183 => 138 | 182 => 137 | 131 => 100 | 5 => 5 | 9 => 9 | 218 => 163 | 222 => 167 | 228 => 180 | 229 => 151 | n => n, fun | n => n⟩
theorem Tryz.lays189 : Go.Proofs.Lays.n189 Tryz.prog Tryz.lays189_ren := {
  mixed := by kernel_rfl
  f125 := Tryz.func73.trans (congrArg some (by kernel_rfl))
  f128 := Tryz.func96.trans (congrArg some (by kernel_rfl))
  f129 := Tryz.func97.trans (congrArg some (by kernel_rfl))
  f189 := Tryz.func68.trans (congrArg some (by kernel_rfl))
  f215 := Tryz.func130.trans (congrArg some (by kernel_rfl))
  f216 := Tryz.func112.trans (congrArg some (by kernel_rfl))
  f257 := Tryz.func86.trans (congrArg some (by kernel_rfl))
  f294 := Tryz.func106.trans (congrArg some (by kernel_rfl))
  f295 := Tryz.func107.trans (congrArg some (by kernel_rfl))
  f296 := Tryz.func108.trans (congrArg some (by kernel_rfl))
  f297 := Tryz.func109.trans (congrArg some (by kernel_rfl))
  f298 := Tryz.func110.trans (congrArg some (by kernel_rfl))
  f299 := Tryz.func111.trans (congrArg some (by kernel_rfl))
  f300 := Tryz.func113.trans (congrArg some (by kernel_rfl))
  f301 := Tryz.func114.trans (congrArg some (by kernel_rfl))
  f328 := Tryz.func127.trans (congrArg some (by kernel_rfl))
  f329 := Tryz.func116.trans (congrArg some (by kernel_rfl))
  f330 := Tryz.func117.trans (congrArg some (by kernel_rfl))
  f331 := Tryz.func128.trans (congrArg some (by kernel_rfl))
  f332 := Tryz.func129.trans (congrArg some (by kernel_rfl))
  f343 := Tryz.func141.trans (congrArg some (by kernel_rfl))
  t0 := Tryz.underlying0
  a0 := Tryz.isAgg0
  z0 := Tryz.sizeOf0
  v0 := Tryz.zeroValue0
  t3 := Tryz.underlying3
  a3 := Tryz.isAgg3
  z3 := Tryz.sizeOf3
  v3 := Tryz.zeroValue3
  t4 := Tryz.underlying4
  a4 := Tryz.isAgg4
  z4 := Tryz.sizeOf4
  v4 := Tryz.zeroValue4
  t5 := Tryz.underlying5
  a5 := Tryz.isAgg5
  z5 := Tryz.sizeOf5
  v5 := Tryz.zeroValue5
  t9 := Tryz.underlying9
  a9 := Tryz.isAgg9
  z9 := Tryz.sizeOf9
  v9 := Tryz.zeroValue9
  t28 := Tryz.underlying34
  a28 := Tryz.isAgg34
  z28 := Tryz.sizeOf34
  v28 := Tryz.zeroValue34
  t46 := Tryz.underlying120
  a46 := Tryz.isAgg120
  z46 := Tryz.sizeOf120
  v46 := Tryz.zeroValue120
  t51 := Tryz.underlying144
  a51 := Tryz.isAgg144
  z51 := Tryz.sizeOf144
  v51 := Tryz.zeroValue144
  t53 := Tryz.underlying146
  a53 := Tryz.isAgg146
  z53 := Tryz.sizeOf146
  v53 := Tryz.zeroValue146
  t131 := Tryz.underlying100
  a131 := Tryz.isAgg100
  z131 := Tryz.sizeOf100
  v131 := Tryz.zeroValue100
  t182 := Tryz.underlying137
  a182 := Tryz.isAgg137
  z182 := Tryz.sizeOf137
  v182 := Tryz.zeroValue137
  t183 := Tryz.underlying138
  a183 := Tryz.isAgg138
  z183 := Tryz.sizeOf138
  v183 := Tryz.zeroValue138
  t218 := Tryz.underlying163
  a218 := Tryz.isAgg163
  z218 := Tryz.sizeOf163
  v218 := Tryz.zeroValue163
  t222 := Tryz.underlying167
  a222 := Tryz.isAgg167
  z222 := Tryz.sizeOf167
  v222 := Tryz.zeroValue167
  t228 := Tryz.underlying180
  a228 := Tryz.isAgg180
  z228 := Tryz.sizeOf180
  v228 := Tryz.zeroValue180
  t229 := Tryz.underlying151
  a229 := Tryz.isAgg151
  z229 := Tryz.sizeOf151
  v229 := Tryz.zeroValue151 }
def Tryz.lays20_ren : Go.Shelf.Ren := ⟨fun | 20 => 69 | n => n, fun | 22 => 34 | 3 => 3 | 4 => 4 | 0 => 0 | n => n, fun | n => n⟩
theorem Tryz.lays20 : Go.Proofs.Lays2.n20 Tryz.prog Tryz.lays20_ren := {
  mixed := by kernel_rfl
  f20 := Tryz.func69.trans (congrArg some (by kernel_rfl))
  t0 := Tryz.underlying0
  a0 := Tryz.isAgg0
  z0 := Tryz.sizeOf0
  v0 := Tryz.zeroValue0
  t3 := Tryz.underlying3
  a3 := Tryz.isAgg3
  z3 := Tryz.sizeOf3
  v3 := Tryz.zeroValue3
  t4 := Tryz.underlying4
  a4 := Tryz.isAgg4
  z4 := Tryz.sizeOf4
  v4 := Tryz.zeroValue4
  t22 := Tryz.underlying34
  a22 := Tryz.isAgg34
  z22 := Tryz.sizeOf34
  v22 := Tryz.zeroValue34
  i3 := by kernel_rfl }
end Go.Proofs

namespace Go.Proofs.YtcebpdcijpgkjaaGreatDoor
open Go.RowKit Go.Maps Go.Shelf Go.Sort

theorem cpU (d : Array Int) (hs : ∀ i j, i ≤ j → j < d.size → d[i]! ≤ d[j]!) : ∀ m, m ≤ d.size → (Lib.compactUpTo d m).Pairwise (· < ·) ∧ (∀ x, x ∈ Lib.compactUpTo d m ↔ ∃ j, j < m ∧ d[j]! = x)
  | 0, _ => ⟨List.Pairwise.nil, fun x => by simp [Lib.compactUpTo]⟩
  | m + 1, hm => by
    obtain ⟨h1, h2⟩ := cpU d hs m (by omega)
    have e := Lib.compactUpTo_succ d m
    rw [e]
    by_cases hk : Lib.keeps d m = true
    · rw [if_pos hk]
      refine ⟨List.pairwise_append.2 ⟨h1, List.pairwise_singleton _ _, fun a ha b hb => ?_⟩, fun x => ?_⟩
      · rw [List.mem_singleton] at hb
        subst hb
        obtain ⟨j, hj, rfl⟩ := (h2 a).1 ha
        have l1 := hs j (m - 1) (by omega) (by omega)
        have l2 := hs (m - 1) m (by omega) (by omega)
        have hn : d[m]! ≠ d[m - 1]! := fun e => by
          rw [Lib.keeps_neg (by omega) e] at hk
          cases hk
        omega
      · rw [List.mem_append, h2, List.mem_singleton]
        constructor
        · rintro (⟨j, hj, q⟩ | q)
          · exact ⟨j, by omega, q⟩
          · exact ⟨m, by omega, q.symm⟩
        · rintro ⟨j, hj, q⟩
          by_cases ej : j = m
          · subst ej; exact .inr q.symm
          · exact .inl ⟨j, by omega, q⟩
    · rw [if_neg hk, List.append_nil]
      refine ⟨h1, fun x => ?_⟩
      rw [h2]
      have hm0 : 0 < m := Nat.pos_of_ne_zero fun e => hk (by subst e; exact Lib.keeps_lt_one d 0 (by omega))
      have hq : d[m]! = d[m - 1]! := Classical.byContradiction fun e => hk (Lib.keeps_pos e)
      constructor
      · rintro ⟨j, hj, q⟩; exact ⟨j, by omega, q⟩
      · rintro ⟨j, hj, q⟩
        by_cases ej : j = m
        · subst ej; exact ⟨j - 1, by omega, by rw [← hq]; exact q⟩
        · exact ⟨j, by omega, q⟩
theorem uniq_sorted : ∀ (a b : List Int), a.Pairwise (· < ·) → b.Pairwise (· < ·) → (∀ x, x ∈ a ↔ x ∈ b) → a = b
  | [], [], _, _, _ => rfl
  | [], y :: b, _, _, h => by have := (h y).2 (by simp); simp at this
  | x :: a, [], _, _, h => by have := (h x).1 (by simp); simp at this
  | x :: a, y :: b, ha, hb, h => by
    rw [List.pairwise_cons] at ha hb
    have e : x = y := by
      have hx := (h x).1 (by simp)
      have hy := (h y).2 (by simp)
      rw [List.mem_cons] at hx hy
      rcases hx with hx | hx
      · exact hx
      · rcases hy with hy | hy
        · exact hy.symm
        · have := ha.1 y hy; have := hb.1 x hx; omega
    subst e
    rw [uniq_sorted a b ha.2 hb.2 fun z => ?_]
    constructor
    · intro hz
      have := (h z).1 (by simp [hz])
      rw [List.mem_cons] at this
      rcases this with q | q
      · have := ha.1 z hz; omega
      · exact q
    · intro hz
      have := (h z).2 (by simp [hz])
      rw [List.mem_cons] at this
      rcases this with q | q
      · have := hb.1 z hz; omega
      · exact q
/-- What is sorted and freed of what stands twice. -/
theorem sorted_once (l : List Int) (r : List Int) (hr : r.Pairwise (· < ·)) (h : ∀ x, x ∈ l ↔ x ∈ r) : Lib.compact (l.mergeSort fun x y => decide (x ≤ y)) = r := by
  obtain ⟨s, hs⟩ : ∃ s, s = l.mergeSort fun x y => decide (x ≤ y) := ⟨_, rfl⟩
  have hp : s.Pairwise fun x y => decide (x ≤ y) = true := by
    rw [hs]
    exact List.pairwise_mergeSort (fun a b c h1 h2 => by simp at *; omega) (fun a b => by simp; omega) l
  have hm : ∀ x, x ∈ s ↔ x ∈ l := fun x => by rw [hs]; exact List.mem_mergeSort
  rw [← hs]
  have hd : ∀ i j, i ≤ j → j < s.toArray.size → s.toArray[i]! ≤ s.toArray[j]! := fun i j hij hj => by
    have hj' : j < s.length := by simpa using hj
    rw [getElem!_pos _ i (by simp; omega), getElem!_pos _ j (by simp; omega)]
    by_cases e : i = j
    · subst e; exact Int.le_refl _
    · have := List.pairwise_iff_getElem.1 hp i j (by omega) hj' (by omega)
      simpa using this
  obtain ⟨k1, k2⟩ := cpU s.toArray hd s.length (by simp)
  refine uniq_sorted _ _ k1 hr fun x => ?_
  rw [show Lib.compact s = Lib.compactUpTo s.toArray s.length from rfl, k2, ← h x, ← hm x]
  constructor
  · rintro ⟨j, hj, q⟩
    rw [getElem!_pos _ j (by simp; omega)] at q
    rw [← q]
    simp
  · intro hx
    obtain ⟨j, hj, q⟩ := List.getElem_of_mem hx
    exact ⟨j, hj, by rw [getElem!_pos _ j (by simp; omega)]; simpa using q⟩

def zsI (l : List Nat) : List Int := l.map fun (p : Nat) => (p : Int)
theorem zsI_len (l : List Nat) : (zsI l).length = l.length := by simp [zsI]
theorem ints_zs (l : List Nat) : ints l = (zsI l).map (Value.int .i64) := by simp [ints, zsI]
theorem ins_nil (w : World) : Calls Tryz.prog 106 #[.slice none 0 0, .int .i64 0, .int .i64 0] w fun e w' => e = .returned (.tuple #[]) ∧ w' = w := by
  go_enter Tryz.func106, Tryz.ntmps106
  go_wp2
  refine wp_loop_rounds 1 ?_
  rw [rounds_succ]
  go_wp2
  go_end0
  exact ⟨rfl, rfl⟩
set_option maxRecDepth 100000 in
theorem pdq_nil (l : Int) (w : World) : Calls Tryz.prog 86 #[.slice none 0 0, .int .i64 0, .int .i64 0, .int .i64 l] w fun e w' => e = .returned (.tuple #[]) ∧ w' = w := by
  go_enter Tryz.func86, Tryz.ntmps86
  go_wp2
  refine wp_loop_rounds 1 ?_
  rw [rounds_succ]
  go_wp2_with (first | (go_at_call 106; refine (ins_nil _).mono ?_; rintro e w' ⟨rfl, rfl⟩))
  refine bodyPost_ret (results_none rfl _ _ _) rfl ?_
  exact ⟨rfl, rfl⟩
set_option maxRecDepth 100000 in
/-- SORTING NONE. -/
theorem sort_nil (w : World) : Calls Tryz.prog 68 #[.slice none 0 0] w fun e w' => e = .returned (.tuple #[]) ∧ w' = w := by
  go_enter Tryz.func68, Tryz.ntmps68
  go_wp2_with (first | (go_at_call 86; refine (pdq_nil _ _).mono ?_; rintro e w' ⟨rfl, rfl⟩) | go_in)
  go_end0
  exact ⟨rfl, rfl⟩
/-- WHAT IS SORTED. -/
def So (w w' : World) (r : Value) (L : List Nat) : Prop := (r = .slice none 0 0 ∧ L = []) ∨ ∃ g cap, r = .slice (some ⟨g, 0, none⟩) L.length cap ∧ L.length ≤ cap ∧ w.heap.size ≤ g ∧ g < w'.heap.size ∧ Holds (Value.int .i64) w' g 0 ((zsI L).mergeSort fun x y => decide (x ≤ y)).toArray
/-- PLACES, EACH ONCE, RISING, AS THEY LIE. -/
def Pl (lo : Nat) (w : World) (r : Value) (l : List Nat) : Prop := ∃ a c, r = .slice a l.length c ∧ ∀ (i p : Nat), l[i]? = some p → ∃ g, a = some ⟨g, 0, none⟩ ∧ lo ≤ g ∧ g < w.heap.size ∧ w.cell? ⟨g, i, none⟩ = some (.int .i64 (p : Int))
theorem compact_any {w0 w : World} {r : Value} {L M : List Nat} (hL : L.length ≤ 2097152) (hs : So w0 w r L) (hM : M.Pairwise (· < ·)) (hm : ∀ x, x ∈ L ↔ x ∈ M) (hb : RowKit.Below w0.heap.size w0 w) :
    Calls Tryz.prog 69 #[r] w fun e w' => ∃ r2, e = .returned r2 ∧ RowKit.Below w0.heap.size w0 w' ∧ Pl w0.heap.size w' r2 M := by
  have hMz : (zsI M).Pairwise (· < ·) := by
    unfold zsI
    rw [List.pairwise_map]
    exact hM.imp fun h => by omega
  have hmz : ∀ x, x ∈ zsI L ↔ x ∈ zsI M := fun x => by simp [zsI, hm]
  rcases hs with ⟨rfl, h0⟩ | ⟨g, cap, rfl, hcap, hg, hgl, hH⟩
  · subst h0
    have e : M = [] := List.eq_nil_iff_forall_not_mem.2 fun x hx => by have := (hm x).2 hx; cases this
    subst e
    refine (Any.slices_Compact_int_empty Tryz.lays20 none 0 w).mono ?_
    rintro e w' ⟨rfl, rfl⟩
    exact ⟨_, rfl, hb, none, 0, rfl, fun i p h => by simp at h⟩
  · have hlen : ((zsI L).mergeSort fun x y => decide (x ≤ y)).length = L.length := by simp [zsI_len]
    have hc := Any.slices_Compact_int Tryz.lays20 g 0 cap ((zsI L).mergeSort fun x y => decide (x ≤ y)) w hH (by rw [hlen]; omega) (by rw [hlen]; exact hcap)
    rw [hlen, sorted_once (zsI L) (zsI M) hMz hmz, zsI_len] at hc
    refine Calls.mono hc ?_
    rintro e w' ⟨rfl, q, rfl⟩
    have hml : M.length ≤ L.length := by
      have := sorted_once (zsI L) (zsI M) hMz hmz
      have h2 : (Lib.compact ((zsI L).mergeSort fun x y => decide (x ≤ y))).length ≤ ((zsI L).mergeSort fun x y => decide (x ≤ y)).length := by
        unfold Lib.compact Lib.compactUpTo
        rw [List.length_map]
        refine Nat.le_trans (List.length_filter_le _ _) ?_
        rw [List.length_range]
        exact Nat.le_refl _
      rw [this, hlen, zsI_len] at h2
      exact h2
    have hsz : (zsI M ++ List.replicate (L.length - M.length) 0).toArray.size = ((zsI L).mergeSort fun x y => decide (x ≤ y)).toArray.size := by
      simp [zsI_len, hlen]
      omega
    refine ⟨_, rfl, ?_, some ⟨g, 0, none⟩, cap, rfl, fun i p hp => ⟨g, rfl, hg, by simpa using hgl, ?_⟩⟩
    · have hgr : w.grownBy (putRow (Value.int .i64) (Sort.ahead w q) g 0 (zsI M ++ List.replicate (L.length - M.length) 0).toArray) (some g) := by
        refine ⟨rfl, rfl, rfl, by simp, fun k hk hne => ?_⟩
        have : g ≠ k := fun e => hne (by rw [e])
        simp [putRow, mapBlock, Sort.ahead, Array.getElem?_modify, this]
      exact hb.grown hgr hb.size (fun j hj => by cases hj; exact hg)
    · have hil := (List.getElem?_eq_some_iff.1 hp).1
      have := (holds_putRow (Value.int .i64) (Sort.ahead w q) g 0 _ (zsI M ++ List.replicate (L.length - M.length) 0).toArray (holds_ahead _ w q g 0 _ hH) hsz i (by simp [zsI_len]; omega)).1
      rw [Nat.zero_add] at this
      rw [this]
      congr 2
      rw [getElem!_pos _ i (by simp [zsI_len]; omega)]
      rw [List.getElem_toArray, List.getElem_append_left (by rw [zsI_len]; exact hil)]
      obtain ⟨_, rfl⟩ := List.getElem?_eq_some_iff.1 hp
      simp [zsI]
end Go.Proofs.YtcebpdcijpgkjaaGreatDoor

namespace Go.Proofs.YtcebpdcijpgkjaaGreatDoor
open Go.RowKit Go.Maps

/-- THE PACKAGES AS THEIR NAMES ARE ASKED. -/
def Sim (xs : List Pd) (ps : List Pk) : Prop := xs.length = ps.length ∧ ∀ (i : Nat) (x : Pd) (p : Pk), xs[i]? = some x → ps[i]? = some p → x.nm = p.nm ∧ x.vr = p.vr ∧ x.pl = p.pv
theorem Sim.at {xs : List Pd} {ps : List Pk} (h : Sim xs ps) {i : Nat} {x : Pd} (hx : xs[i]? = some x) : ∃ p, ps[i]? = some p ∧ x.nm = p.nm ∧ x.vr = p.vr ∧ x.pl = p.pv := by
  have hl := (List.getElem?_eq_some_iff.1 hx).1
  rw [h.1] at hl
  exact ⟨_, List.getElem?_eq_getElem hl, h.2 i x _ hx (List.getElem?_eq_getElem hl)⟩
theorem sim_of {w : World} {v : Value} {ps : List Pk} (h : Pkl w v ps) (hv : ∀ p ∈ ps, p.vr.size ≤ maxLen) : ∃ xs : List Pd, Pks w v xs ∧ Sim xs ps := by
  obtain ⟨a, c, rfl, h2⟩ := h
  by_cases h0 : 0 < ps.length
  · obtain ⟨b, o, rfl, hb, hc⟩ := h2 h0
    have step : ∀ n, n ≤ ps.length → ∃ xs : List Pd, xs.length = n ∧ ∀ (i : Nat) (x : Pd) (p : Pk), xs[i]? = some x → ps[i]? = some p → (w.rangeAt b (o + i * 43) x.cs ∧ PdOk w x) ∧ x.nm = p.nm ∧ x.vr = p.vr ∧ x.pl = p.pv := by
      intro n
      induction n with
      | zero => intro _; exact ⟨[], rfl, fun i x p hx => by simp at hx⟩
      | succ n ih =>
        intro hn
        obtain ⟨xs, hl, hx⟩ := ih (by omega)
        obtain ⟨p, hp⟩ : ∃ p, ps[n]? = some p := ⟨_, List.getElem?_eq_getElem (by omega)⟩
        obtain ⟨cs, d, r, c, v, f, k1, k2, k3⟩ := hc n p hp
        refine ⟨xs ++ [⟨cs, p.nm, p.vr, v, p.pv⟩], by simp [hl], fun i x q hi hq => ?_⟩
        by_cases e : i < n
        · rw [List.getElem?_append_left (by omega)] at hi
          exact hx i x q hi hq
        · have hi' := (List.getElem?_eq_some_iff.1 hi).1
          rw [List.length_append, hl, List.length_singleton] at hi'
          obtain rfl : i = n := by omega
          rw [List.getElem?_append_right (by omega), hl, Nat.sub_self] at hi
          simp at hi
          subst hi
          rw [hp] at hq; cases hq
          exact ⟨⟨k1, ⟨k2.len, k2.c0, k2.c1, k2.c6⟩, k3.vl, hv p (List.mem_of_getElem? hp)⟩, rfl, rfl, rfl⟩
    obtain ⟨xs, hl, hx⟩ := step ps.length (Nat.le_refl _)
    refine ⟨xs, ⟨_, c, by rw [hl], fun _ => ⟨b, o, rfl, hb, fun i x hi => ?_⟩⟩, hl, fun i x p hi hp => (hx i x p hi hp).2⟩
    obtain ⟨p, hp⟩ : ∃ p, ps[i]? = some p := ⟨_, List.getElem?_eq_getElem (by rw [← hl]; exact (List.getElem?_eq_some_iff.1 hi).1)⟩
    exact (hx i x p hi hp).1
  · have e : ps = [] := by cases ps with
      | nil => rfl
      | cons p ps => simp at h0
    subst e
    exact ⟨[], ⟨a, c, rfl, fun h => absurd h (by simp)⟩, rfl, fun i x p hx => by simp at hx⟩
/-- DOES THE PACKAGE AT A PLACE MEET AN ATOM? -/
def mP (ps : List Pk) (a : At) (p : Nat) : Bool := match ps[p]? with | some q => meetsA a.n a.op a.v q.nm q.vr q.pv | none => false
theorem mP_lt {ps : List Pk} {a : At} {p : Nat} (h : mP ps a p = true) : p < ps.length := by
  unfold mP at h
  cases e : ps[p]? with
  | none => rw [e] at h; cases h
  | some q => exact (List.getElem?_eq_some_iff.1 e).1
theorem mt_mP {xs : List Pd} {ps : List Pk} (h : Sim xs ps) (a : At) (p : Nat) : mt xs a.n a.op a.v p = mP ps a p := by
  unfold mt mP
  cases e : xs[p]? with
  | none =>
    have : ps[p]? = none := by rw [List.getElem?_eq_none_iff] at e ⊢; rw [← h.1]; exact e
    rw [this]
  | some x =>
    obtain ⟨q, hq, h1, h2, h3⟩ := h.at e
    rw [hq]
    simp only
    rw [h1, h2, h3]
theorem satL_mem {xs : List Pd} {ps : List Pk} (h : Sim xs ps) (a : At) (p : Nat) : p ∈ satL xs a.n a.op a.v (nmP xs xs.length a.n) (pvP xs xs.length a.n) ↔ mP ps a p = true := by
  unfold satL
  rw [List.mem_filter, mt_mP h]
  refine ⟨fun h => h.2, fun hm => ⟨?_, hm⟩⟩
  rw [← mt_mP h] at hm
  unfold mt at hm
  cases e : xs[p]? with
  | none => rw [e] at hm; cases hm
  | some x =>
    rw [e] at hm
    simp only at hm
    have hp := (List.getElem?_eq_some_iff.1 e).1
    unfold meetsA at hm
    rw [Bool.or_eq_true, Bool.and_eq_true, Bool.and_eq_true] at hm
    rw [List.mem_append]
    rcases hm with ⟨h1, _⟩ | ⟨_, h2⟩
    · exact .inl ((nmP_mem xs _ _ _).2 ⟨hp, x, e, toList_eq.1 h1⟩)
    · exact .inr ((pvP_mem xs _ _ _).2 ⟨hp, x, e, (Lib.containsS_iff _ _).1 h2⟩)
/-- WHERE A NAME STANDS, RISING. -/
def isN (ps : List Pk) (x : Nm) (i : Nat) : Bool := match ps[i]? with | some q => decide (q.nm = x) | none => false
theorem nmP_eq {xs : List Pd} {ps : List Pk} (h : Sim xs ps) (x : Nm) : ∀ n, nmP xs n x = (List.range n).filter (isN ps x)
  | 0 => rfl
  | n + 1 => by
    have ih := nmP_eq h x n
    rw [List.range_succ, List.filter_append, ← ih, show nmP xs (n + 1) = (match xs[n]? with | some q => upF (nmP xs n) q.nm (nmP xs n q.nm ++ [n]) | none => nmP xs n) from rfl, List.filter_cons, List.filter_nil]
    cases e : xs[n]? with
    | none =>
      have e2 : ps[n]? = none := by rw [List.getElem?_eq_none_iff] at e ⊢; rw [← h.1]; exact e
      have e3 : isN ps x n = false := by unfold isN; rw [e2]
      rw [e3]
      simp only [Bool.false_eq_true, if_false, List.append_nil]
    | some q =>
      obtain ⟨p, hp, h1, _⟩ := h.at e
      have e3 : isN ps x n = decide (p.nm = x) := by unfold isN; rw [hp]
      rw [e3]
      simp only
      rw [h1]
      by_cases q2 : p.nm = x
      · rw [q2, upF_same, decide_eq_true rfl, if_pos rfl]
      · rw [upF_other _ _ (fun e => q2 e.symm), decide_eq_false q2]
        simp
/-- IS A CLAUSE MET IN A PART, BY ANOTHER THAN ONE? -/
def hitP (inn : Nat → Bool) (but : Int) (p : Nat) : Bool := inn p && !(decide ((p : Int) = but))
def imP (ps : List Pk) (inn : Nat → Bool) (but : Int) (al : List At) : Bool := al.any fun a => (List.range ps.length).any fun p => mP ps a p && hitP inn but p
theorem imP_one {xs : List Pd} {ps : List Pk} (h : Sim xs ps) (inn : Nat → Bool) (but : Int) (a : At) : (satL xs a.n a.op a.v (nmP xs xs.length a.n) (pvP xs xs.length a.n)).any (hitP inn but) = (List.range ps.length).any fun p => mP ps a p && hitP inn but p := by
  rw [Bool.eq_iff_iff, List.any_eq_true, List.any_eq_true]
  constructor
  · rintro ⟨p, hp, hh⟩
    have hm := (satL_mem h a p).1 hp
    exact ⟨p, List.mem_range.2 (mP_lt hm), by rw [hm, hh]; rfl⟩
  · rintro ⟨p, hp, hh⟩
    rw [Bool.and_eq_true] at hh
    exact ⟨p, (satL_mem h a p).2 hh.1, hh.2⟩
/-- SIZES THAT WILL DO. -/
structure SmP (ps : List Pk) : Prop where
  l : ps.length ≤ 262144
  t : (ps.map fun p => p.pv.length).sum ≤ 1048576
  sd : (ps.map fun p => p.dp.length).sum ≤ 1048576
  sr : (ps.map fun p => p.pr.length).sum ≤ 1048576
  sc : (ps.map fun p => p.cf.length).sum ≤ 1048576
  sf : (ps.map fun p => p.fs.length).sum ≤ 1048576
  z : ∀ p ∈ ps, p.nm.size ≤ maxLen ∧ p.vr.size ≤ maxLen ∧ ∀ n ∈ p.pv, n.size ≤ maxLen
  d : ∀ p ∈ ps, ∀ al ∈ p.dp, al.length ≤ 1048576 ∧ ∀ a ∈ al, a.n.size ≤ maxLen ∧ a.v.size ≤ maxLen
  r : ∀ p ∈ ps, ∀ al ∈ p.pr, al.length ≤ 1048576 ∧ ∀ a ∈ al, a.n.size ≤ maxLen ∧ a.v.size ≤ maxLen
  c : ∀ p ∈ ps, ∀ a ∈ p.cf, a.n.size ≤ maxLen ∧ a.v.size ≤ maxLen
  f : ∀ p ∈ ps, ∀ x ∈ p.fs, ∃ s : Nm, x[0]? = some (Value.string s) ∧ s.size ≤ maxLen
theorem le_sum {α : Type} (g : α → Nat) {l : List α} {x : α} (h : x ∈ l) : g x ≤ (l.map g).sum := by
  induction l with
  | nil => cases h
  | cons a l ih =>
    rw [List.map_cons, List.sum_cons]
    rcases List.mem_cons.1 h with rfl | h
    · omega
    · have := ih h; omega
theorem totX_le {xs : List Pd} {ps : List Pk} (h : Sim xs ps) : ∀ n, totP xs n ≤ ((ps.take n).map fun p => p.pv.length).sum
  | 0 => Nat.zero_le _
  | n + 1 => by
    have ih := totX_le h n
    rw [List.take_add_one, List.map_append, List.sum_append]
    unfold totP
    cases e : xs[n]? with
    | none => simp only; omega
    | some x =>
      obtain ⟨p, hp, _, _, h3⟩ := h.at e
      rw [hp]
      have e3 : ((some p).toList.map fun p => p.pv.length).sum = p.pv.length := by simp
      rw [e3]
      simp only
      rw [h3]
      omega
theorem SmP.tot {xs : List Pd} {ps : List Pk} (sm : SmP ps) (h : Sim xs ps) : totP xs xs.length ≤ 1048576 := by
  have := totX_le h xs.length
  rw [h.1, List.take_length] at this
  rw [h.1]
  exact Nat.le_trans this sm.t
theorem SmP.sz {xs : List Pd} {ps : List Pk} (sm : SmP ps) (h : Sim xs ps) : ∀ q ∈ xs, q.nm.size ≤ maxLen ∧ ∀ n ∈ q.pl, n.size ≤ maxLen := fun q hq => by
  obtain ⟨i, hi, e⟩ := List.getElem_of_mem hq
  obtain ⟨p, hp, h1, _, h3⟩ := h.at (show xs[i]? = some q by rw [List.getElem?_eq_getElem hi, e])
  have hz := sm.z p (List.mem_of_getElem? hp)
  rw [h1, h3]
  exact ⟨hz.1, hz.2.2⟩
end Go.Proofs.YtcebpdcijpgkjaaGreatDoor

