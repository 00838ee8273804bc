import Derived.Test.YtjflnpcpnoccjaaGrT
namespace Go.Proofs.Ytjflnpcpnoccjaa
open Go.RowKit Go.Shelf
attribute [local go_sem] Oper.semAt_some
attribute [local simp] wide_fn
attribute [local go_sem] wide_fn

/-- HOW A ROUND ENDS THAT IS NEVER LEFT. -/
def postN {σ : Type} (I : σ → World → Prop) (Kp : World → World → Prop) (s2 : σ) (W : World) : Exit → Act → World → Prop
  | .normal, _, W2 => KeepsOthers W W2 ∧ Kp W W2 ∧ I s2 W2
  | .ret, _, _ => False
  | .exit _, _, _ => False
  | .goto _, _, _ => False
  | .panic _, _, _ => False
  | .outgrown, _, _ => False

/-- A RANGE OVER A FUNCTION THAT IS NEVER LEFT: each yield, seen as a whole, leaves whatever is no cells as it lay (the loop's own record, too): so it may be called within a loop of the iterator's own. -/
theorem rangeFunc_net {α σ : Type} {F : Fence} {n : Nat} {P : Program} {g : Operand} {ps : Array Tmp} {assign body : Code} {Q : Exit → Act → World → Prop} {a : Act} {w : World}
    (hro : F.round = none) (h1 : 1 ≤ n) {gf : Nat} {lb : Array Value} (hg : a.eval g = .func (.func gf) #[] lb) (hFg : F.fn gf) (eg : ∀ args w, (callFunc gf args).run P w = .ok (.enter gf args) w)
    {encs : α → Array Value} (hps : ∀ x, (encs x).size = ps.size) (I : σ → World → Prop) (ok : σ → α → Prop) (st : σ → α → σ) (Kp : σ → World → World → Prop) (Fin : σ → Prop) (a1 : α → Act)
    (hI : OwnFrom w.heap.size I)
    (hKp : ∀ s W W2 o o2, W.heap[w.heap.size + 1]? = some o → Kp s (W.putObj (w.heap.size + 1) o2) W2 → W2.heap[w.heap.size + 1]? = some o2 → Kp s W (W2.putObj (w.heap.size + 1) o))
    (hassign : ∀ (l : Nat) (x : α) (W : World) (K : Act → World → Prop), K (a1 x) W →
      assign.wpIn (F.inRound l) (n - 1 - 1) P (Exit.then K (fun _ _ _ => False)) { tmps := (ps.zip (encs x)).foldl (fun t (p, v) => t.setIfInBounds p v) a.tmps, defers := [] } W)
    (hbody : ∀ (l : Nat) (s : σ) (x : α) (W : World), ok s x → I s W → body.wpIn (F.inRound l) (n - 1 - 1) P (postN I (Kp s) (st s x) W) (a1 x) W)
    (hseq : ∀ (rc : Loop) (W1 : World) (J : σ → World → Prop), W1 = (w.alloc (.deferred (some []))).alloc (.loop rc) → (J = fun s W => I s W ∧ W.heap[w.heap.size + 1]? = some (.loop rc) ∧ W.heap[w.heap.size]? = some (.deferred (some []))) →
      (∀ s x W, ok s x → J s W → YieldAt F (n - 1 - 1) P (w.heap.size + 1) (encs x) W fun e W2 => e = .returned (.bool true) ∧ J (st s x) W2 ∧ KeepsOthers W W2 ∧ Kp s W W2) →
      CallsIn F (n - 1) P gf (#[.func (.yield (w.heap.size + 1)) #[] #[]] ++ lb) W1 fun e W2 => (∃ v, e = .returned v) ∧ ∃ s, Fin s ∧ J s W2)
    (hdone : ∀ (D : Nat) (s : σ) (W : World), w.heap.size ≤ D → Fin s → I s W → W.heap[D]? = some (.deferred (some [])) → Q .normal { a with defers := { target := .collected D, args := #[] } :: a.defers } W) :
    (Code.rangeFunc g ps assign body).wpIn F n P Q a w := by
  refine wpIn_rangeFunc ?_
  intro fn hfn
  rw [hro]
  obtain ⟨rc, hrc⟩ : ∃ rc : LoopState → Option Code → Loop, rc = fun st pe => { state := st, pending := pe, fn, tmps := a.tmps, params := ps, assign, body, defers := w.heap.size } := ⟨_, rfl⟩
  refine ⟨w.heap.size + 1, [{ target := .collected w.heap.size, args := #[] }], (w.alloc (.deferred (some []))).alloc (.loop (rc .ready none)), { target := .fn (.func gf) lb, args := #[.func (.yield (w.heap.size + 1)) #[] #[]] }, (w.alloc (.deferred (some []))).alloc (.loop (rc .ready none)), gf,
    #[.func (.yield (w.heap.size + 1)) #[] #[]] ++ lb, (w.alloc (.deferred (some []))).alloc (.loop (rc .ready none)), ?_, ?_, ?_, ?_, fun _ => h1, ?_⟩
  · rw [hrc]; exact run_enterLoop_outer _ _ _ _ _
  · simp only [resolve, hg]
    simp [go_sem]
  · intro f2 hf2; simp [Target.leads] at hf2; subst hf2; exact hFg
  · simp [invoke, go_sem, eg]
  · refine (hseq (rc .ready none) _ _ rfl rfl ?_).mono ?_
    · rintro s x W hok ⟨hi, hl, hk⟩
      have hlt : w.heap.size + 1 < W.heap.size := (Array.getElem?_eq_some_iff.1 hl).1
      have hy := run_yield (P := P) (args := encs x) hl (by rw [hrc]; exact hps x)
      rw [hrc] at hy
      refine ⟨fn, _, assign, body, hy, roundIn_of_wpIn hfn (hassign _ x W _ ⟨_, run_beginRound hl (by rw [hrc]), ?_⟩)⟩
      have hl2 : (W.putObj (w.heap.size + 1) (.loop { rc .ready none with state := .busy })).heap[w.heap.size + 1]? = some (.loop { rc .ready none with state := .busy }) := World.putObj_heap_same hlt
      refine wpIn_mono (hbody _ s x _ hok (hI.putObj _ hi (by omega) hl rfl)) ?_
      rintro e a3 W3 hq
      cases e with
      | normal =>
        obtain ⟨hk3, hkp, hi3⟩ := hq
        have hl3 := hk3.same _ _ hl2 rfl
        have hr := run_endRound (P := P) none hl3
        have hks : ∀ (k : Nat) (o : Obj), W.heap[k]? = some o → o.isCells = false → (W3.putObj (w.heap.size + 1) (.loop (rc .ready none))).heap[k]? = some o := fun k o hko hoc => by
          by_cases e : k = w.heap.size + 1
          · subst e
            rw [hl] at hko
            rw [← hko]
            exact World.putObj_heap_same (Array.getElem?_eq_some_iff.1 hl3).1
          · exact (World.putObj_heap_other e).trans (hk3.same k o ((World.putObj_heap_other e).trans hko) hoc)
        have hsz : W.heap.size ≤ (W3.putObj (w.heap.size + 1) (.loop (rc .ready none))).heap.size := by
          have := hk3.size
          simpa [World.putObj] using this
        have e1 := hKp s W W3 _ _ hl hkp hl3
        have e2 := hI.putObj (.loop (rc .ready none)) hi3 (Nat.le_succ _) hl3 rfl
        rw [hrc] at hr hks hsz e1 e2 hl ⊢
        exact ⟨_, _, hr, rfl, ⟨e2, hks _ _ hl rfl, hks _ _ hk rfl⟩, ⟨hsz, hks⟩, e1⟩
      | ret => exact hq.elim
      | exit id => exact hq.elim
      | goto t => exact hq.elim
      | panic ch => exact hq.elim
      | outgrown => exact hq.elim
    · rintro e W2 ⟨⟨v, rfl⟩, s, hf, hi, hl, hk⟩
      exact ⟨none, _, by have := run_endLoop (P := P) hl (by rw [hrc]; simp); rw [hrc] at this; exact this, hdone _ s _ (Nat.le_refl _) hf (hI.putObj _ hi (by omega) hl rfl) ((World.putObj_heap_other (by omega)).trans hk)⟩

set_option maxRecDepth 100000 in
set_option maxHeartbeats 4000000 in
/-- THE EDGES, GIVEN TO WHATEVER TAKES THEM ALL. -/
theorem edges1_net {N : Nat} {ln : Nat → Nat} {L : Nat → Nat → Int} (hr : rgt N ln L = true) (hN : N ≤ 1048576) (hln : ∀ k, k < N → ln k ≤ 1048576) (n : Nat) (hn : 1 ≤ n) (l Bn : Nat) {na : Option Addr} {nc : Nat} {w : World} (hR : Rr w na N ln L) (J : List (Ky N) → World → Prop) (hJ : ∀ pre W, J pre W → Below w.heap.size w W)
    (hY : ∀ pre x W, x.1.1 < N → pre.length < 1099511627776 → J pre W → YieldAt Fence.wide (n - 1) Try.prog l (encK x) W fun e W' => e = .returned (.bool true) ∧ J (pre ++ [x]) W')
    (W : World) (hcW : W.cell? ⟨Bn, 0, none⟩ = some (.slice na N nc)) (h0 : J [] W) :
    CallsIn Fence.wide n Try.prog 70 #[.func (.yield l) #[] #[], .pointer (some ⟨Bn, 0, none⟩)] W fun e W' => (∃ v, e = .returned v) ∧ J (uptE N ln L N 0) W' := by
  have HRG := hide (fun u i (hu : u < N) (hi : i < ln u) => rgt_at hr hu hi)
  have HLN := hide hln
  have HR := hide hR
  have HY := hide hY
  have HJ := hide h0
  have HB := hide hJ
  clear hr hln hR hY h0 hJ
  refine callsIn_of_wp Try.func70 rfl trivial ?_ rfl
  simp only [Try.ntmps70, List.size_toArray, List.length_cons, List.length_nil, Nat.reduceAdd, Nat.reduceSub, Array.replicate_succ, Array.replicate_zero, List.push_toArray, List.append_toArray, List.nil_append, List.cons_append]
  gi_wp2
  gi_loopg [3, 4, 6, 9] N (fun g1 _ _ _ vi wr => ∃ u : Nat, vi = .int .i64 u ∧ u ≤ N ∧ N - u ≤ g1 ∧ Hid (J (uptE N ln L u 0) wr))
  case atStart => exact ⟨0, by go_num, by omega, by omega, HJ⟩
  case round =>
    clear HJ
    obtain ⟨u, rfl, hu, hg1, HJ⟩ := hrel
    by_cases hlt : u < N
    · obtain ⟨b, o, ca, cc, rfl, hc, hri⟩ := ((unhide HR).later (unhide HB _ _ (unhide HJ))).at hlt
      have hlu := unhide HLN u hlt
      have HRI := hide (show ∀ W2, Below w.heap.size w W2 → Ri W2 ca (ln u) (L u) from fun W2 hb2 => by
        obtain ⟨ca3, cc3, r1, r2⟩ := unhide HR
        obtain ⟨nb4, no4, e4, hl4, hc4⟩ := r1.at hlt
        cases e4
        have a1 := ((unhide HB _ _ (unhide HJ)).cell (p := ⟨b, o + u, none⟩) hl4).trans hc4
        rw [hc] at a1
        injection a1 with a1
        injection a1 with a1 a2 a3
        have := r2 u hlt
        rw [← a1] at this
        exact this.later hb2)
      clear hri
      gi_wp2
      gi_loopg [6, 16] (ln u) (fun g2 _ vi wr => ∃ i : Nat, vi = .int .i64 i ∧ i ≤ ln u ∧ ln u - i ≤ g2 ∧ Hid (J (uptE N ln L u i) wr))
      case atStart => exact ⟨0, by go_num, by omega, by omega, HJ⟩
      case round =>
        clear HJ hc
        obtain ⟨i, rfl, hi, hg2, HJ⟩ := hrel
        by_cases hil : i < ln u
        · obtain ⟨b2, o2, rfl, _, hc2⟩ := (unhide HRI wr (unhide HB _ _ (unhide HJ))).at hil
          obtain ⟨v, hv, ev⟩ := unhide HRG u i hlt hil
          unfold iv at hc2
          rw [ev] at hc2
          obtain ⟨hp, epk⟩ := pk_some (N := N) (L := L) (u := u) (i := i) (by omega) hv ev
          have HEX := hide (uptE_next (ln := ln) epk)
          have hlen : (uptE N ln L u i).length < 1099511627776 := by
            have h1 := uptE_len (N := N) (ln := ln) (L := L) (M := 1048576) (u := u) (i := i) (fun k hk => unhide HLN k (by omega))
            have h2 : u * 1048576 ≤ 1048575 * 1048576 := Nat.mul_le_mul_right _ (by omega)
            omega
          have HYY := hide (unhide HY (uptE N ln L u i) ⟨(u, v), hp⟩ wr hlt hlen (unhide HJ))
          obtain ⟨fn, tmps, assign, body, hy, hR2⟩ := unhide HYY
          have HR2 := hide hR2
          clear hR2 HYY epk ev hlen
          generalize ln u = lu at *
          gi_wp2
          refine (unhide HR2).mono ?_
          rintro e W3 ⟨rfl, hJ3⟩
          have HJ3 := hide hJ3
          rw [← unhide HEX] at HJ3
          clear hJ3
          gi_wp2
          gi_roundg (lu - (i + 1))
          case measure => omega
          case rel => exact ⟨i + 1, by go_num, by omega, by omega, HJ3⟩
        · have HJ2 := hide (show J (uptE N ln L (u + 1) 0) wr from by
            have := unhide HJ
            obtain rfl : i = ln u := by omega
            rw [uptE_row] at this
            exact this)
          clear HJ
          generalize ln u = lu at *
          gi_wp2
          gi_roundg (N - (u + 1))
          case measure => omega
          case rel => exact ⟨u + 1, by go_num, by omega, by omega, HJ2⟩
    · obtain rfl : u = N := by omega
      gi_wp2
      go_end0
      exact ⟨⟨_, rfl⟩, unhide HJ⟩
end Go.Proofs.Ytjflnpcpnoccjaa
