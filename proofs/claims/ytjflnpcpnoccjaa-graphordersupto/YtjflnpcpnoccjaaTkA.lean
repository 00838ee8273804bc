import Derived.Test.YtjflnpcpnoccjaaGrR
namespace Go.Proofs.Ytjflnpcpnoccjaa
open Go.RowKit Go.Shelf

/-- AN OPERATION THAT DEFERS NOTHING IS DONE IN A ROUND AS OUTSIDE ONE, YIELDS TOO. -/
theorem opin_round {l n : Nat} {P : Program} {o : Oper} {a : Act} {w : World} {K K2 : Act → World → Prop} {Q : Exit → Act → World → Prop} (hd : ∀ c, o.op ≠ .defer c) (hK : ∀ a w, K a w → K2 a w) (h : o.wpIn Fence.wide n P a w K Q) : o.wpIn (Fence.wide.inRound l) n P a w K2 Q := by
  refine ⟨fun _ _ => trivial, ?_⟩
  show o.uponIn _ n P a K2 Q ((o.semAt (some l) a.eval).run P w)
  rw [Oper.semAt_some l _ _ hd]
  have h2 : o.uponIn Fence.wide n P a K Q ((execOp a.eval o).run P w) := h.2
  generalize (execOp a.eval o).run P w = r at *
  cases r with
  | ok x w2 =>
    cases x with
    | value v => exact hK _ _ h2
    | skip => exact hK _ _ h2
    | defer d => exact hK _ _ h2
    | enter f args =>
      refine ⟨fun q => (by cases q), CallsIn.inRound l (CallsIn.mono h2.2 fun e w3 he => ?_)⟩
      cases e with
      | returned v => exact hK _ _ he
      | panicked c => exact he
      | outgrown => exact he
    | row row args =>
      refine ⟨fun q => (by cases q), ?_⟩
      have h3 := h2.2
      intro c cs hc
      obtain ⟨v, w3, r1, r2⟩ := h3 c cs hc
      exact ⟨v, w3, hK _ _ r1, r2⟩
    | round l2 f tmps assign body =>
      refine ⟨fun q => (by cases q), ?_⟩
      have h3 : RoundIn Fence.wide (n - 1) P l2 f tmps assign body w2 _ := h2.2
      refine RoundIn.mono (F := Fence.wide.inRound l) (show RoundIn (Fence.wide.inRound l) (n - 1) P l2 f tmps assign body w2 _ from h3) fun e w3 he => ?_
      cases e with
      | returned v => exact hK _ _ he
      | panicked c => exact he
      | outgrown => exact he
    | _ => exact h2.elim
  | halt x w2 =>
    cases x with
    | panic v => exact h2
    | _ => exact h2.elim
theorem anyin_round {l n : Nat} {P : Program} {md : Region.Mode} {ops : Array Oper} {Q : Exit → Act → World → Prop} (hd : ∀ (i : Nat) (o : Oper), ops[i]? = some o → ∀ c, o.op ≠ Op.defer c) : ∀ (fuel : Nat) (listed : Array Bool) (a : Act) (w : World), wpAnyIn Fence.wide n P md ops Q fuel listed a w → wpAnyIn (Fence.wide.inRound l) n P md ops Q fuel listed a w
  | 0, _, _, _, h => h
  | fuel + 1, listed, a, w, h => by
    refine ⟨h.1, fun i hi => ?_⟩
    have h2 := h.2 i hi
    unfold wpOpIn at h2 ⊢
    cases ho : ops[i]? with
    | none =>
      rw [ho] at h2
      exact anyin_round hd fuel _ _ _ h2
    | some o =>
      rw [ho] at h2
      simp only at h2 ⊢
      by_cases hw : Region.wanted o (yielded ops a.tmps) = true
      · rw [if_pos hw] at h2 ⊢
        exact opin_round (hd i o ho) (fun a w => anyin_round hd fuel _ a w) h2
      · rw [if_neg hw] at h2 ⊢
        exact ⟨fun _ _ => trivial, anyin_round hd fuel _ _ _ h2.2⟩
theorem regionin_round {l n id : Nat} {P : Program} {ops : Array Oper} {Q : Exit → Act → World → Prop} {a : Act} {w : World} (hm : P.follows .mixedOrders = true) (hd : ∀ (i : Nat) (o : Oper), ops[i]? = some o → ∀ c, o.op ≠ Op.defer c)
    (h : wpAnyIn Fence.wide n P .any ops Q ops.size (Array.replicate ops.size false) a w.drew) : (Code.region id ops true).wpIn (Fence.wide.inRound l) n P Q a w :=
  wpIn_region_any hm (anyin_round hd _ _ _ _ h)
end Go.Proofs.Ytjflnpcpnoccjaa
