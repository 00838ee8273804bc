import Derived.Test.YtabjbppekijfiaaDsB
namespace Go.Proofs.Ytabjbppekijfiaa
open Go.RowKit

theorem Va.set {W : World} {vb n : Nat} {tr : List Int} (h : Va W vb n tr) {a : Nat} (ha : a < n) (l : Int) (hl : l ≠ 0) (e : l.natAbs - 1 = a) (h0 : stn tr l = 0) {y : Int} (hy : y = ov (sg l)) : Va (W.setCell ⟨vb, a, none⟩ (.int .i64 y)) vb n (tr ++ [l]) := by
  obtain ⟨cur, h1, h2⟩ := h
  refine ⟨_, set_blk h1 a _, fun i hi => ?_⟩
  rw [vt_snoc hl h0, e]
  by_cases q : i = a
  · subst q
    have hlt := (Array.getElem?_eq_some_iff.1 (h2 i hi)).1
    simp [hlt, hy]
  · rw [if_neg q, Array.getElem?_setIfInBounds_ne (fun z => q z.symm)]
    exact h2 i hi
set_option maxRecDepth 100000 in
set_option maxHeartbeats 4000000 in
theorem with_any {n : Nat} (hn : n ≤ 131071) {tr : List Int} {vb vc : Nat} {w : World} (h : Va w vb n tr) (l : Int) (hl : okL n l = true) (h0 : stn tr l = 0) :
    Calls Try.prog 54 #[.slice (some ⟨vb, 0, none⟩) n vc, .int .i64 l] w fun x w' => ∃ g cap, x = .returned (.slice (some ⟨g, 0, none⟩) n cap) ∧ w.heap.size ≤ g ∧ Va w' g n (tr ++ [l]) ∧ Below w.heap.size w w' := by
  obtain ⟨z1, z2, z3⟩ := (okL_iff _ _).1 hl
  obtain ⟨i0, hi0, hz0, hz1, hz2⟩ := info_parts infoI
  obtain ⟨v1, W1, r1, ho, hb, _⟩ := app1 (P := Try.prog) 75 75 3 i0 (.int .i64 0) 1 8 Try.underlying75 hi0 hz0 hz1 hz2 rfl (by decide) n (vl n (iv fun i => ov (vt tr i))) (by simp [vl]) (vl_one _ _ fun _ => rfl) (by omega) (by unfold maxLen; omega) (some ⟨vb, 0, none⟩) vc w (.inr ⟨vb, 0, rfl, h.lt, fun j u hj => by
    have hlt : j < n := by
      have := (List.getElem?_eq_some_iff.1 hj).1
      rw [vl_len] at this
      exact this
    rw [vl_at n _ j hlt] at hj
    cases hj
    rw [Nat.zero_add]
    exact h.cell hlt⟩)
  obtain ⟨g, cap, rfl⟩ : ∃ g cap, v1 = .slice (some ⟨g, 0, none⟩) n cap := by
    rcases ho.2 with ⟨_, q⟩ | ⟨g, cap, cur, q, _⟩
    · omega
    · exact ⟨g, cap, q⟩
  have hgl := ho.lt g rfl
  obtain ⟨cur, q1, q2⟩ := owns_blk ho
  have hva : Va W1 g n tr := ⟨cur, q1, fun i hi => q2 i _ (vl_at n _ i hi)⟩
  have hfz : ∀ k, W1.frozen? ⟨g, k, none⟩ = false := fun k => (cell_blk q1 k).2
  have hge := hgl.1
  clear ho hi0 hz0 hz1 hz2 q1 q2 hgl h
  have HGE := hide hge
  by_cases hp : 0 < l
  · obtain ⟨a, rfl⟩ : ∃ a : Nat, l = (a : Int) + 1 := ⟨(l - 1).toNat, by omega⟩
    have ha : a < n := by omega
    have HV := hide (hva.set ha ((a : Int) + 1) (by omega) (by omega) h0 (y := 1) (by unfold sg; rw [if_neg (by omega)]; rfl))
    have HB := hide (hb.setCell (p := ⟨g, a, none⟩) hge (.int .i64 1))
    have hc := hva.cell ha
    have hf := hfz a
    have i1 : (a : Int) + 1 - 1 = (a : Int) := by omega
    have i2 : IntKind.i64.wrap (a : Int) = (a : Int) := IntWalk.i64_in _ (by omega)
    have i3 : (a : Int) < (n : Int) := by omega
    clear z1 z2 z3 hl hva hb hge hfz h0
    go_enter Try.func54, Try.ntmps54
    go_wp2_with ((with_reducible refine wpList_append_run (o := { dst := some 8, op := Op.call { callee := Callee.builtin Builtin.append, args := #[Operand.tmp 6, Operand.tmp 7], argTypes := #[75, 75] }, type := 75, pos := "ref.go:35", after := #[{ on := 0, ground := Ground.data }, { on := 1, ground := Ground.data }], guard := none }) ?m1a (.tmp 6) (.tmp 7) 75 ?m1b _ _ ?m1c ?m1d r1 ?m1e); (case m1a => rfl); (case m1b => rfl); (case m1c => rfl); (case m1d => rfl))
    go_ret
    exact ⟨g, cap, rfl, unhide HGE, unhide HV, unhide HB⟩
  · obtain ⟨a, rfl⟩ : ∃ a : Nat, l = -((a : Int) + 1) := ⟨(-l - 1).toNat, by omega⟩
    have ha : a < n := by omega
    have HV := hide (hva.set ha (-((a : Int) + 1)) (by omega) (by omega) h0 (y := 2) (by unfold sg; rw [if_pos (by omega)]; rfl))
    have HB := hide (hb.setCell (p := ⟨g, a, none⟩) hge (.int .i64 2))
    have hc := hva.cell ha
    have hf := hfz a
    have i1 : -(-((a : Int) + 1)) = (a : Int) + 1 := by omega
    have i5 : IntKind.i64.wrap ((a : Int) + 1) = (a : Int) + 1 := IntWalk.i64_in _ (by omega)
    have i4 : (a : Int) + 1 - 1 = (a : Int) := by omega
    have i2 : IntKind.i64.wrap (a : Int) = (a : Int) := IntWalk.i64_in _ (by omega)
    have i3 : (a : Int) < (n : Int) := by omega
    have i6 : ¬ -((a : Int) + 1) > 0 := by omega
    clear z1 z2 z3 hl hva hb hge hfz h0 hp
    generalize hla : -((a : Int) + 1) = l at *
    clear hla
    go_enter Try.func54, Try.ntmps54
    go_wp2_with ((with_reducible refine wpList_append_run (o := { dst := some 8, op := Op.call { callee := Callee.builtin Builtin.append, args := #[Operand.tmp 6, Operand.tmp 7], argTypes := #[75, 75] }, type := 75, pos := "ref.go:35", after := #[{ on := 0, ground := Ground.data }, { on := 1, ground := Ground.data }], guard := none }) ?m2a (.tmp 6) (.tmp 7) 75 ?m2b _ _ ?m2c ?m2d r1 ?m2e); (case m2a => rfl); (case m2b => rfl); (case m2c => rfl); (case m2d => rfl))
    go_ret
    exact ⟨g, ⟨cap, rfl⟩, unhide HGE, unhide HV, unhide HB⟩
/-- NOTHING BUT ONE BLOCK HAS CHANGED. -/
structure Bt (sb : Nat) (w w' : World) : Prop where
  os : w'.os = w.os
  tape : w'.tape = w.tape
  output : w'.output = w.output
  size : w.heap.size ≤ w'.heap.size
  block : ∀ k, k < w.heap.size → k ≠ sb → w'.heap[k]? = w.heap[k]?
theorem Bt.refl (sb : Nat) (w : World) : Bt sb w w := ⟨rfl, rfl, rfl, Nat.le_refl _, fun _ _ _ => rfl⟩
theorem Bt.trans {sb : Nat} {a b c : World} (h : Bt sb a b) (k : Bt sb b c) : Bt sb a c :=
  ⟨k.os.trans h.os, k.tape.trans h.tape, k.output.trans h.output, Nat.le_trans h.size k.size, fun i hi hn => (k.block i (Nat.lt_of_lt_of_le hi h.size) hn).trans (h.block i hi hn)⟩
theorem Bt.of {sb : Nat} {w w' : World} (h : Below w.heap.size w w') : Bt sb w w' := ⟨h.os, h.tape, h.output, h.size, fun k hk _ => h.block k hk⟩
theorem Bt.set (sb j : Nat) (u : Value) (w : World) : Bt sb w (w.setCell ⟨sb, j, none⟩ u) := by
  have h := (Below.refl 0 w).setCell (p := ⟨sb, j, none⟩) (Nat.zero_le _) u
  exact ⟨h.os, h.tape, h.output, h.size, fun k _ hn => set_other _ _ _ _ _ hn⟩
theorem Bt.below {sb B : Nat} {w0 w w' : World} (h : Bt sb w w') (hb : Below B w0 w) (hs : B ≤ sb) (hB : B ≤ w0.heap.size) : Below B w0 w' :=
  ⟨h.os.trans hb.os, h.tape.trans hb.tape, h.output.trans hb.output, Nat.le_trans hb.size h.size, fun k hk => (h.block k (by have := hb.size; omega) (by omega)).trans (hb.block k hk)⟩
theorem Bt.va {sb vb n : Nat} {tr : List Int} {w w' : World} (h : Bt sb w w') (hn : vb ≠ sb) (k : Va w vb n tr) : Va w' vb n tr := k.same (h.block _ k.lt hn)
end Go.Proofs.Ytabjbppekijfiaa
