import Derived.Test.YtokgegbodbnimaaPqW
import Derived.Test.YtokgegbodbnimaaNlC
import Derived.RangeFuncBox
import Derived.Deep.Draws
namespace Go.Proofs.Ytokgegbodbnimaa
open Go.RowKit Go.Maps Go.Sort Go.Shelf
attribute [local go_sem] Oper.semAt_some
attribute [local simp] wide_fn
attribute [local go_sem] wide_fn

/-- WHAT A CALLER HOLDS BETWEEN TWO ROUNDS MAY SPEAK OF CELLS AND OF MAPS. -/
def Abide {β : Type} (B : Nat) (I : β → World → Prop) : Prop :=
  ∀ s X Y row, I s X → X.grownBy Y row → (∀ r, row = some r → B ≤ r ∧ ∃ o : Obj, X.heap[r]? = some o ∧ o.isCells = false ∧ ∀ es c, o ≠ .map es c) → I s Y
theorem Abide.put {β : Type} {B : Nat} {I : β → World → Prop} (h : Abide B I) {s : β} {W : World} {l : Nat} {o : Obj} (o2 : Obj) (hs : I s W) (hB : B ≤ l) (hl : W.heap[l]? = some o) (ho : o.isCells = false) (hm : ∀ es c, o ≠ .map es c) : I s (W.putObj l o2) :=
  h s W _ (some l) hs (grownBy_putObj' W l o2) fun r e => by cases e; exact ⟨hB, o, hl, ho, hm⟩
theorem Abide.alloc {β : Type} {B : Nat} {I : β → World → Prop} (h : Abide B I) {s : β} {W : World} (o : Obj) (hs : I s W) : I s (W.alloc o) :=
  h s W _ none hs (World.grownBy_alloc W o none) fun r e => by cases e

/-- HOW A ROUND MAY BE LEFT: the loop's own two blocks lie as they lay. -/
def post2 {α : Type} (B : Nat) (Kp : World → World → Prop) (I : List α → World → Prop) (Ix : Code → List α → World → Prop) (xs : List α) (W : World) : Exit → Act → World → Prop
  | .normal, _, W2 => (W2.heap[B]? = W.heap[B]? ∧ W2.heap[B + 1]? = W.heap[B + 1]?) ∧ Kp W W2 ∧ I xs W2
  | .ret, _, W2 => (W2.heap[B]? = W.heap[B]? ∧ W2.heap[B + 1]? = W.heap[B + 1]?) ∧ Ix .ret xs W2
  | .exit id, _, W2 => (W2.heap[B]? = W.heap[B]? ∧ W2.heap[B + 1]? = W.heap[B + 1]?) ∧ Ix (.exit id) xs W2
  | .goto t, _, W2 => (W2.heap[B]? = W.heap[B]? ∧ W2.heap[B + 1]? = W.heap[B + 1]?) ∧ Ix (.goto t) xs W2
  | .panic _, _, _ => False
  | .outgrown, _, _ => False

theorem grown_drewN (w : World) (n : Nat) (row : Option Nat) : w.grownBy (w.drewN n) row := ⟨rfl, rfl, rfl, Nat.le_refl _, fun _ _ _ => rfl⟩
/-- AN ITERATOR THAT ITSELF ONLY DRAWS. -/
def SeqP {α : Type} (F : Fence) (n : Nat) (P : Program) (g : Nat) (lb : Array Value) (encs : α → Array Value) (Kp : World → World → Prop) (S Sp : List α → Prop) (N : Nat) (w : World) : Prop :=
  ∀ (l : Nat) (J Jx : List α → World → Prop) (W : World), Below w.heap.size w W → (∀ s X m, J s X → J s (X.drewN m)) →
    (∀ pre x W1, J pre W1 → pre.length < N → Sp (pre ++ [x]) → YieldAt F (n - 1) P l (encs x) W1 fun e W2 =>
      (e = .returned (.bool true) ∧ J (pre ++ [x]) W2 ∧ Kp W1 W2) ∨ (e = .returned (.bool false) ∧ Jx (pre ++ [x]) W2)) →
    J [] W →
    CallsIn F n P g (#[.func (.yield l) #[] #[]] ++ lb) W fun e W2 => (∃ v, e = .returned v) ∧ ((∃ xs, S xs ∧ J xs W2) ∨ (∃ pre, Sp pre ∧ Jx pre W2))
set_option maxHeartbeats 1000000 in
/-- A RANGE OVER A FUNCTION WHOSE BODY WRITES MAPS THAT IT MADE ITSELF. -/
theorem rangeFunc_2e {α : Type} {F : Fence} {n : Nat} {P : Program} {g : Operand} {ps : Array Tmp} {assign body : Code} {Q : Exit → Act → World → Prop} {a : Act} {w : World}
    (hro : F.round = none) (h1 : 1 ≤ n) {gf : Nat} {lb : Array Value} (hg : a.eval g = .func (.func gf) #[] lb) (hFg : F.fn gf) (eg : ∀ args w, (callFunc gf args).run P w = .ok (.enter gf args) w)
    {encs : α → Array Value} {Kp : World → World → Prop} {S Sp : List α → Prop} {N : Nat} {w0 : World} (hseq : SeqP F (n - 1) P gf lb encs Kp S Sp N w0)
    (hKt : ∀ {A B C : World}, Kp A B → Kp B C → Kp A C) (hKb : ∀ (W : World) (l : Nat) (o o2 : Obj), w.heap.size ≤ l → W.heap[l]? = some o → o.isCells = false → o.isWalk = false → Kp W (W.putObj l o2)) (hb0 : Below w0.heap.size w0 w) (hps : ∀ x, (encs x).size = ps.size)
    (I : List α → World → Prop) (Ix : Code → List α → World → Prop) (hI : Abide w.heap.size I) (hIx : ∀ c, Abide w.heap.size (Ix c)) (h0 : I [] w) (a1 : α → Act)
    (hassign : ∀ (l : Nat) (x : α) (W : World) (K : Act → World → Prop), K (a1 x) W →
      assign.wpIn (F.inRound l) (n - 1 - 1) P (Exit.then K (fun _ _ _ => False)) { tmps := (ps.zip (encs x)).foldl (fun t (p, v) => t.setIfInBounds p v) a.tmps, defers := [] } W)
    (hbody : ∀ (l : Nat) (pre : List α) (x : α) (W : World), W.heap[w.heap.size]? = some (.deferred (some [])) → (∃ r, W.heap[w.heap.size + 1]? = some (.loop r)) → I pre W → pre.length < N → Sp (pre ++ [x]) → body.wpIn (F.inRound l) (n - 1 - 1) P (post2 w.heap.size Kp I Ix (pre ++ [x]) W) (a1 x) W)
    (hdone : ∀ (D : Nat) (xs : List α) (W : World), D = w.heap.size → S xs → I xs W → W.heap[D]? = some (.deferred (some [])) → Q .normal { a with defers := { target := .collected D, args := #[] } :: a.defers } W)
    (hstop : ∀ (D : Nat) (c : Code) (pre : List α) (W : World), D = w.heap.size → Sp pre → Ix c pre W → W.heap[D]? = some (.deferred (some [])) → c.wpIn F n P Q { a with defers := { target := .collected D, args := #[] } :: a.defers } W) :
    (Code.rangeFunc g ps assign body).wpIn F n P Q a w := by
  refine wpIn_rangeFunc ?_
  intro fn hfn
  rw [hro]
  obtain ⟨rc, hrc⟩ : ∃ rc : LoopState → Option Code → Loop, rc = fun st pe => { state := st, pending := pe, fn, tmps := a.tmps, params := ps, assign, body, defers := w.heap.size } := ⟨_, rfl⟩
  obtain ⟨W1, hW1, hL1, hK1, hI1, hb1⟩ : ∃ W1, (w.alloc (.deferred (some []))).alloc (.loop (rc .ready none)) = W1 ∧ W1.heap[w.heap.size + 1]? = some (.loop (rc .ready none)) ∧ W1.heap[w.heap.size]? = some (.deferred (some [])) ∧ I [] W1 ∧ Below w0.heap.size w0 W1 := by
    refine ⟨_, rfl, ?_, ?_, hI.alloc _ (hI.alloc _ h0), ?_⟩
    · have := World.alloc_heap_new (w.alloc (.deferred (some []))) (.loop (rc .ready none))
      rwa [World.size_alloc] at this
    · exact (Below.heap_alloc _ _ _ (by simp)).trans (World.alloc_heap_new w _)
    · exact hb0.trans ((((Below.refl _ w).alloc (Nat.le_refl _) _).alloc (by simp) _).mono hb0.size)
  have hz1 : W1.heap.size = w.heap.size + 1 + 1 := by rw [← hW1]; simp
  refine ⟨w.heap.size + 1, [{ target := .collected w.heap.size, args := #[] }], W1, { target := .fn (.func gf) lb, args := #[.func (.yield (w.heap.size + 1)) #[] #[]] }, W1, gf,
    #[.func (.yield (w.heap.size + 1)) #[] #[]] ++ lb, W1, ?_, ?_, ?_, ?_, fun _ => h1, ?_⟩
  · rw [← hW1, hrc]; exact run_enterLoop_outer _ _ _ _ _
  · simp only [resolve, hg]
    simp [go_sem]
  · intro f2 hf2; simp [Target.leads] at hf2; subst hf2; exact hFg
  · simp [invoke, go_sem, eg]
  · refine (hseq (w.heap.size + 1)
      (fun pre W => I pre W ∧ W.heap[w.heap.size + 1]? = some (.loop (rc .ready none)) ∧ W.heap[w.heap.size]? = some (.deferred (some [])))
      (fun pre W => ∃ c, Ix c pre W ∧ W.heap[w.heap.size + 1]? = some (.loop (rc .done (some c))) ∧ W.heap[w.heap.size]? = some (.deferred (some [])))
      W1 hb1 ?_ ?_ ⟨hI1, hL1, hK1⟩).mono ?_
    · rintro s X m ⟨i1, i2, i3⟩
      exact ⟨hI s X _ none i1 (grown_drewN X m none) (fun r e => by cases e), i2, i3⟩
    · -- A ROUND
      rintro pre x W ⟨hi, hl, hk⟩ hlen hpre
      have hlt : w.heap.size + 1 < W.heap.size := (Array.getElem?_eq_some_iff.1 hl).1
      have hy := run_yield (P := P) (args := encs x) hl (by rw [hrc]; exact hps x)
      rw [hrc] at hy
      refine ⟨fn, _, assign, body, hy, roundIn_of_wpIn hfn (hassign _ x W _ ⟨_, run_beginRound hl (by rw [hrc]), ?_⟩)⟩
      obtain ⟨Wb, hWb⟩ : ∃ Wb, W.putObj (w.heap.size + 1) (.loop { rc .ready none with state := .busy }) = Wb := ⟨_, rfl⟩
      have hl2 : Wb.heap[w.heap.size + 1]? = some (.loop { rc .ready none with state := .busy }) := by rw [← hWb]; exact World.putObj_heap_same hlt
      have hk2 : Wb.heap[w.heap.size]? = some (.deferred (some [])) := by rw [← hWb]; exact (World.putObj_heap_other (by omega)).trans hk
      have hw2 : Kp W Wb := by rw [← hWb]; exact hKb _ _ _ _ (by omega) hl rfl rfl
      have hi2 : I pre Wb := by rw [← hWb]; exact hI.put _ hi (by omega) hl rfl (fun _ _ e => by cases e)
      rw [hWb]
      refine wpIn_mono (hbody _ pre x Wb hk2 ⟨_, hl2⟩ hi2 hlen hpre) ?_
      have fin : ∀ (jump : Option Code) (W3 : World), (W3.heap[w.heap.size]? = Wb.heap[w.heap.size]? ∧ W3.heap[w.heap.size + 1]? = Wb.heap[w.heap.size + 1]?) →
          (Instr.endRound (w.heap.size + 1) jump).run P W3 = .ok (.bool jump.isNone) (W3.putObj (w.heap.size + 1) (.loop (rc (if jump.isNone then .ready else .done) jump))) ∧
          W3.heap[w.heap.size + 1]? = some (.loop { rc .ready none with state := .busy }) ∧
          (W3.putObj (w.heap.size + 1) (.loop (rc (if jump.isNone then .ready else .done) jump))).heap[w.heap.size + 1]? = some (.loop (rc (if jump.isNone then .ready else .done) jump)) ∧
          (W3.putObj (w.heap.size + 1) (.loop (rc (if jump.isNone then .ready else .done) jump))).heap[w.heap.size]? = some (.deferred (some [])) := fun jump W3 hs => by
        have hl3 := hs.2.trans hl2
        have hr := run_endRound (P := P) jump hl3
        refine ⟨?_, hl3, World.putObj_heap_same (Array.getElem?_eq_some_iff.1 hl3).1, (World.putObj_heap_other (by omega)).trans (hs.1.trans hk2)⟩
        rw [hrc] at hr ⊢
        exact hr
      rintro e a3 W3 hp
      cases e with
      | normal =>
        obtain ⟨hs, hkp, hi3⟩ := hp
        obtain ⟨hr, hl3, hl4, hk4⟩ := fin none W3 hs
        exact ⟨_, _, hr, .inl ⟨rfl, ⟨hI.put _ hi3 (by omega) hl3 rfl (fun _ _ e => by cases e), hl4, hk4⟩, hKt (hKt hw2 hkp) (hKb _ _ _ _ (by omega) hl3 rfl rfl)⟩⟩
      | ret =>
        obtain ⟨hs, hi3⟩ := hp
        obtain ⟨hr, hl3, hl4, hk4⟩ := fin (some .ret) W3 hs
        exact ⟨_, _, hr, .inr ⟨rfl, .ret, (hIx _).put _ hi3 (by omega) hl3 rfl (fun _ _ e => by cases e), hl4, hk4⟩⟩
      | exit id =>
        obtain ⟨hs, hi3⟩ := hp
        obtain ⟨hr, hl3, hl4, hk4⟩ := fin (some (.exit id)) W3 hs
        exact ⟨_, _, hr, .inr ⟨rfl, .exit id, (hIx _).put _ hi3 (by omega) hl3 rfl (fun _ _ e => by cases e), hl4, hk4⟩⟩
      | goto t =>
        obtain ⟨hs, hi3⟩ := hp
        obtain ⟨hr, hl3, hl4, hk4⟩ := fin (some (.goto t)) W3 hs
        exact ⟨_, _, hr, .inr ⟨rfl, .goto t, (hIx _).put _ hi3 (by omega) hl3 rfl (fun _ _ e => by cases e), hl4, hk4⟩⟩
      | panic ch => exact hp.elim
      | outgrown => exact hp.elim
    · -- BEHIND THE ITERATOR
      rintro e W2 ⟨⟨v, rfl⟩, (⟨xs, hS, hi, hl, hk⟩ | ⟨pre, hSp, c, hi, hl, hk⟩)⟩
      · exact ⟨none, _, by have := run_endLoop (P := P) hl (by rw [hrc]; simp); rw [hrc] at this; exact this, hdone _ xs _ rfl hS (hI.put _ hi (by omega) hl rfl (fun _ _ e => by cases e)) ((World.putObj_heap_other (by omega)).trans hk)⟩
      · exact ⟨some c, _, by have := run_endLoop (P := P) hl (by rw [hrc]; simp); rw [hrc] at this; exact this, hstop _ c pre _ rfl hSp ((hIx c).put _ hi (by omega) hl rfl (fun _ _ e => by cases e)) ((World.putObj_heap_other (by omega)).trans hk)⟩



/-- THE NAMES, AS THE CLOSURE HOLDS THEM. -/
structure Nb (Bx : Nat) (a : Option Addr) (c : Nat) (ss : List (List UInt8)) (W : World) : Prop where
  box : W.heap[Bx]? = some (.cells #[.slice a ss.length c] 48 (0, 0))
  row : W.ownsRow 0 9 1 (.slice a ss.length c) ss.length (ss.map encStr)
def Kn2 (Bx : Nat) (a : Option Addr) (A B : World) : Prop := B.heap[Bx]? = A.heap[Bx]? ∧ ∀ g, (a.map (·.block)) = some g → B.heap[g]? = A.heap[g]?
theorem Nb.kp {Bx : Nat} {a : Option Addr} {c : Nat} {ss : List (List UInt8)} {A B : World} (h : Nb Bx a c ss A) (k : Kn2 Bx a A B) : Nb Bx a c ss B :=
  ⟨k.1.trans h.box, own_same h.row fun b e => k.2 b (by
    cases a with
    | none => cases e
    | some g =>
      rw [← e]
      rcases h.row.2 with ⟨q, _⟩ | ⟨g2, _, _, q, _⟩
      · cases q
      · cases q; rfl)⟩
theorem Nb.later {Bx : Nat} {a : Option Addr} {c : Nat} {ss : List (List UInt8)} {A B : World} (h : Nb Bx a c ss A) (b : RowKit.Below A.heap.size A B) : Nb Bx a c ss B :=
  ⟨(b.block Bx (blk_lt h.box)).trans h.box, row_later h.row b⟩
theorem Nb.at_ {Bx : Nat} {a : Option Addr} {c : Nat} {ss : List (List UInt8)} {W : World} (h : Nb Bx a c ss W) {i : Nat} (hi : i < ss.length) : ∃ g, a = some ⟨g, 0, none⟩ ∧ W.cell? ⟨g, i, none⟩ = some (.string (nmOf ss[i])) := by
  rcases h.row.2 with ⟨_, q⟩ | ⟨g, cap, cur, q, _⟩
  · omega
  · injection q with q _ _
    subst q
    refine ⟨g, rfl, ?_⟩
    have := h.row.cells (g := g) rfl i (encStr ss[i]) (by rw [List.getElem?_map, List.getElem?_eq_getElem hi]; rfl)
    rw [Addr.add_mid, Nat.zero_add] at this
    exact this
abbrev encN (x : List UInt8) : Array Value := #[.string (nmOf x)]
set_option maxRecDepth 100000 in
set_option maxHeartbeats 2000000 in
theorem Names1_p (n : Nat) (hn : 1 ≤ n) (Bx : Nat) (a : Option Addr) (c : Nat) (ss : List (List UInt8)) (hss : ss.length ≤ 1099511627776) (w : World) (h : Nb Bx a c ss w) :
    SeqP Fence.wide n Try.prog 48 #[.pointer (some ⟨Bx, 0, none⟩)] encN (Kn2 Bx a) (fun xs => xs = ss) (fun pre => ∃ r, ss = pre ++ r) ss.length w := by
  intro l J Jx W hW hJd hY h0
  have hc1 := (cell_blk (h.later hW).box 0).1.trans (show #[Value.slice a ss.length c][0]? = some (.slice a ss.length c) from rfl)
  have HNB := hide (h.later hW)
  have HJ := hide h0
  have HY := hide hY
  obtain ⟨N, hN⟩ : ∃ N, N = ss.length := ⟨_, rfl⟩
  rw [← hN] at hc1 hss
  have HN := hide hN
  clear hY h0 hJd h hN
  refine callsIn_of_wp Try.func48 rfl trivial ?_ rfl
  simp only [Try.ntmps48, List.size_toArray, List.length_cons, List.length_nil, Nat.reduceAdd, Nat.reduceSub, Array.replicate_succ, Array.replicate_zero, List.push_toArray, List.append_toArray, List.nil_append, List.cons_append]
  gi_wp2
  gi_loopw [4, 7] (fun _ iv wr => ∃ i : Nat, iv = .int .i64 i ∧ i ≤ N ∧ Hid (J (ss.take i) wr) ∧ Hid (Nb Bx a c ss wr)) (fun _ iv _ => N - (intOf iv).toNat)
  case atStart => exact ⟨0, rfl, Nat.zero_le _, HJ, HNB⟩
  case round =>
    clear HJ HNB hc1
    obtain ⟨i, rfl, hi, HJ, HNB⟩ := hrel
    by_cases hlt : i < N
    · have hlt2 : (i : Int) < (N : Int) := by omega
      have hip : i < ss.length := by have := unhide HN; omega
      obtain ⟨g, rfl, hcg⟩ := (unhide HNB).at_ hip
      have et : ss.take (i + 1) = ss.take i ++ [ss[i]] := by rw [List.take_add_one, List.getElem?_eq_getElem hip]; rfl
      have h := unhide HY (ss.take i) ss[i] wr (unhide HJ) (by rw [List.length_take]; omega) ⟨ss.drop (i + 1), by rw [← et, List.take_append_drop]⟩
      rw [← et] at h
      have HPRE := hide (show ∃ r, ss = ss.take (i + 1) ++ r from ⟨ss.drop (i + 1), by rw [List.take_append_drop]⟩)
      generalize ss[i] = x at *
      obtain ⟨fn, tmps, assign, body, hy, hR⟩ := h
      have HR := hide hR
      clear hR et
      gi_wp2
      refine (unhide HR).mono ?_
      rintro e W3 (⟨rfl, hJ3, hk3⟩ | ⟨rfl, hJx3⟩)
      · have HJ3 := hide hJ3
        have HG3 := hide ((unhide HNB).kp hk3)
        clear hJ3 hk3 HR hy
        gi_wp2
        go_roundw
        case rel => exact ⟨i + 1, by go_num, by omega, HJ3, HG3⟩
        case measure => simp [intOf]; omega
      · have HJx := hide hJx3
        clear hJx3 HR hy
        gi_wp2
        refine bodyPost_ret (results_none rfl _ _ _) rfl ?_
        exact ⟨⟨_, rfl⟩, .inr ⟨_, unhide HPRE, unhide HJx⟩⟩
    · obtain rfl : i = N := by omega
      have HF := hide (show J ss wr from by have := unhide HJ; rw [List.take_of_length_le (by have := unhide HN; omega)] at this; exact this)
      gi_wp2
      go_end0
      exact ⟨⟨_, rfl⟩, .inl ⟨ss, rfl, unhide HF⟩⟩
set_option maxRecDepth 100000 in
theorem Names_any {O : Nat → Prop} {B : Nat} {M : Mm} {m0 m1 : Cn} {K : Nat} {W : World} (h : Sto O B M m0 m1 K W) (hK : K ≤ 1000000000000) (p : Nm) :
    Calls Try.prog 23 #[.pointer (some ⟨B, 0, none⟩), .string p] W fun e W' => ∃ a c, e = .returned (.func (.func 48) #[] #[.pointer (some ⟨W.heap.size, 0, none⟩)]) ∧ Nb W.heap.size a c (nmS m0 p) W' ∧ RowKit.Below W.heap.size W W' ∧ ∀ g, (a.map (·.block)) = some g → W.heap.size < g ∧ g < W'.heap.size := by
  obtain ⟨W1, hW1⟩ : ∃ w, w = W.alloc (.cells #[.slice none 0 0] 48) := ⟨_, rfl⟩
  have b1 : RowKit.Below W.heap.size W W1 := by rw [hW1]; exact (Below.refl _ W).alloc (Nat.le_refl _) _
  have hx1 : W1.heap[W.heap.size]? = some (.cells #[.slice none 0 0] 48 (0, 0)) := by rw [hW1]; exact heap_new W _
  have h1 := h.later b1
  have hr := ready_any (h1.cells 8 _ rfl)
  have hc := fnames_any (p := p) (o := 0) h1.blk rfl h1.s0 (Nat.le_trans h1.s0.cnt_le (by omega))
  have HB := hide b1
  have HX := hide hx1
  clear h h1 b1 hx1
  go_enter Try.func23, Try.ntmps23
  go_upto_region 2 with fail
  rw [← hW1]
  clear hW1
  go_wp2_with (first
    | (go_at_call 42; refine hr.mono ?_; rintro x1 w1 ⟨rfl, rfl⟩)
    | (go_at_call 47; refine hc.mono ?_; rintro e w2 ⟨v, rfl, q1, q2, q3⟩; obtain ⟨va, vc, rfl⟩ := owns_form q1; have x2 := (q3.block W.heap.size (blk_lt (unhide HX))).trans (unhide HX); have c2 := (cell_blk x2 0).1.trans (show #[Value.slice none 0 0][0]? = some (.slice none 0 0) from rfl); have f2 := (cell_blk x2 0).2; have HX2 := hide x2; have HQ1 := hide q1; have HQ3 := hide q3; clear q1 q2 q3 x2))
  go_ret
  refine ⟨va, vc, rfl, ⟨set_blk (unhide HX2) 0 _, ?_⟩, ?_, fun g e => ?_⟩
  · have hz := blk_lt (unhide HX)
    refine own_same (row_low (unhide HQ1) (Nat.zero_le _)) fun b e => set_other _ _ _ _ _ fun z => ?_
    have := (World.ownsRow.lt (unhide HQ1) b e).1
    omega
  · exact (bl_t (unhide HB) (unhide HQ3)).setCell (p := ⟨W.heap.size, 0, none⟩) (Nat.le_refl _) _
  · have hz := blk_lt (unhide HX)
    rw [set_size]
    have e2 : (Value.slice va (nmS m0 p).length vc).ownBlock = some g := by
      rcases (unhide HQ1).2 with ⟨q, _⟩ | ⟨g2, _, _, q, _⟩
      · injection q with q _ _
        rw [q] at e
        cases e
      · injection q with q _ _
        rw [q] at e ⊢
        exact e
    have := World.ownsRow.lt (unhide HQ1) g e2
    omega
end Go.Proofs.Ytokgegbodbnimaa
