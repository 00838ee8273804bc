import Derived.Test.YtclkionmpgnjoaaDoorSbJ
namespace Go.Proofs.YtclkionmpgnjoaaDoor
open Go.RowKit

theorem twin_field (base : Nat) (W w2 w4 w7 : World) (pv pv' : Value) (xs : List Fs) (f : Fd) (g2 c2 g4 c4 nl nn : Nat) (o1 o3 : Obj) (hnl : f.ls.length = nl) (hnn : f.ns.length = nn) (hb : base ≤ W.heap.size)
    (hrow : W.ownsRow base 49 3 pv xs.length (xs.flatMap cells3)) (hok : ∀ x ∈ xs, Fok 0 W x)
    (b2 : Below (W.heap.size + 1) (W.alloc o1) w2) (hO2 : w2.ownsRow base 9 1 (.slice (some ⟨g2, 0, none⟩) nl c2) nl (strs f.ls)) (e2 : g2 = W.heap.size + 1)
    (b4 : Below w2.heap.size (w2.setCell ⟨W.heap.size, 1, none⟩ (.slice (some ⟨g2, 0, none⟩) nl c2)) w4) (hO4 : w4.ownsRow base 3 1 (.slice (some ⟨g4, 0, none⟩) nn c4) nn (ints f.ns)) (e4 : g4 = w2.heap.size)
    (hg7 : ((w4.setCell ⟨W.heap.size, 2, none⟩ (.slice (some ⟨g4, 0, none⟩) nn c4)).alloc o3).grownBy w7 pv.ownBlock)
    (hO7 : w7.ownsRow base 49 3 pv' (xs.length + 1) (xs.flatMap cells3 ++ [.string (ba f.nm), .slice (some ⟨g2, 0, none⟩) nl c2, .slice (some ⟨g4, 0, none⟩) nn c4])) :
    PO base w7 pv' (xs.map (·.f) ++ [f]) ∧ Below base W w7 := by
  subst hnl hnn
  have z2 : W.heap.size + 1 ≤ w2.heap.size := by have := b2.size; simpa using this
  have z4 : w2.heap.size ≤ w4.heap.size := by have := b4.size; rw [set_size] at this; exact this
  have z7 : w4.heap.size + 1 ≤ w7.heap.size := by have := hg7.size; rw [World.size_alloc, set_size] at this; exact this
  have hpb : ∀ g, pv.ownBlock = some g → base ≤ g ∧ g < W.heap.size := fun g hg => (ownsRow_blk hrow hg).choose_spec.2
  -- WHAT STAYS
  have k7 : ∀ k, k < w4.heap.size → k ≠ W.heap.size → some k ≠ pv.ownBlock → w7.heap[k]? = w4.heap[k]? := fun k h1 h2 h3 =>
    (hg7.block k (by rw [World.size_alloc, set_size]; omega) h3).trans ((Below.heap_alloc _ _ k (by rw [set_size]; exact h1)).trans (set_other _ _ _ _ _ h2))
  have k4 : ∀ k, k < w2.heap.size → k ≠ W.heap.size → w4.heap[k]? = w2.heap[k]? := fun k h1 h2 => (b4.block k h1).trans (set_other _ _ _ _ _ h2)
  have k0 : ∀ k, k < W.heap.size → some k ≠ pv.ownBlock → w7.heap[k]? = W.heap[k]? := fun k h1 h3 =>
    (k7 k (by omega) (by omega) h3).trans ((k4 k (by omega) (by omega)).trans ((b2.block k (by omega)).trans (Below.heap_alloc W o1 k h1)))
  have g2lt : g2 < w2.heap.size := (ownsRow_blk hO2 (g := g2) rfl).choose_spec.2.2
  have g4lt : g4 < w4.heap.size := (ownsRow_blk hO4 (g := g4) rfl).choose_spec.2.2
  refine ⟨⟨xs ++ [⟨f, g2, c2, g4, c4⟩], by simp, ?_, ?_⟩, ?_⟩
  · rw [List.length_append, List.flatMap_append]
    simpa [cells3] using hO7
  · intro x hx
    rcases List.mem_append.1 hx with hx | hx
    · have h := hok x hx
      have hne : ∀ (g : Nat) (t : TypeId) (c : Array Value), t ≠ 49 → W.heap[g]? = some (.cells c t (0, 0)) → some g ≠ pv.ownBlock := fun g t c ht hg e => by
        obtain ⟨c', h1, _⟩ := ownsRow_blk hrow e.symm
        rw [hg] at h1
        cases h1
        exact ht rfl
      exact ⟨ownsRow_same h.l fun g c hg hc => k0 g (Array.getElem?_eq_some_iff.1 hc).1 (hne g 9 c (by decide) hc), ownsRow_same h.a fun g c hg hc => k0 g (Array.getElem?_eq_some_iff.1 hc).1 (hne g 3 c (by decide) hc)⟩
    · rw [List.mem_singleton.1 hx]
      refine ⟨(ownsRow_same hO2 fun g c hg hc => ?_).mono (Nat.zero_le _), (ownsRow_same hO4 fun g c hg hc => ?_).mono (Nat.zero_le _)⟩
      · obtain rfl : g2 = g := by simpa [Value.ownBlock] using hg
        exact (k7 g2 (by omega) (by omega) (fun e => by have := (hpb g2 e.symm).2; omega)).trans (k4 g2 (by omega) (by omega))
      · obtain rfl : g4 = g := by simpa [Value.ownBlock] using hg
        exact k7 g4 g4lt (by omega) (fun e => by have := (hpb g4 e.symm).2; omega)
  · have bA : Below base W (W.alloc o1) := (Below.refl _ _).alloc hb _
    have bB := bA.trans (b2.mono (by omega))
    have bC : Below base W (w2.setCell ⟨W.heap.size, 1, none⟩ (.slice (some ⟨g2, 0, none⟩) f.ls.length c2)) := ⟨bB.os, bB.tape, bB.output, by rw [set_size]; exact bB.size, fun k hk => (set_other _ _ _ _ _ (by omega)).trans (bB.block k hk)⟩
    have bD := bC.trans (b4.mono (by omega))
    have bE : Below base W (w4.setCell ⟨W.heap.size, 2, none⟩ (.slice (some ⟨g4, 0, none⟩) f.ns.length c4)) := ⟨bD.os, bD.tape, bD.output, by rw [set_size]; exact bD.size, fun k hk => (set_other _ _ _ _ _ (by omega)).trans (bD.block k hk)⟩
    have bF := bE.alloc (Nat.le_trans hb bE.size) o3
    exact bF.grown hg7 (Nat.le_trans hb bF.size) fun g hg => (hpb g hg).1

end Go.Proofs.YtclkionmpgnjoaaDoor
