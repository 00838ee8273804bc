import Derived.Test.YtiibobjbcgbknaaDoorStG
import Derived.RangeFuncBox
namespace Go.Proofs.YtiibobjbcgbknaaDoor
open Go.RowKit

theorem FB.of_same {base B : Nat} {W W' : World} (he : Env W W') (hz : W.heap.size ≤ W'.heap.size) (h : ∀ k, k < base → k ≠ B → W'.heap[k]? = W.heap[k]?) : FB base B W W' := ⟨he, hz, h⟩

theorem ownsRow_lower {W : World} {base base' : Nat} {e : TypeId} {size : Nat} {v : Value} {n : Nat} {xs : List Value} (h : W.ownsRow base e size v n xs) (hb : base' ≤ base) : W.ownsRow base' e size v n xs := by
  obtain ⟨h1, h2⟩ := h
  refine ⟨h1, ?_⟩
  rcases h2 with h2 | ⟨g, cap, cur, h0, h3, h4⟩
  · exact .inl h2
  · exact .inr ⟨g, cap, cur, h0, Nat.le_trans hb h3, h4⟩
theorem ownsRow_one (W : World) (u : Value) (e : TypeId) (base : Nat) (hb : base ≤ W.heap.size) : (W.alloc (.cells #[u] e)).ownsRow base e 1 (.slice (some ⟨W.heap.size, 0, none⟩) 1 1) 1 [u] :=
  ⟨rfl, .inr ⟨W.heap.size, 1, #[u], rfl, hb, World.alloc_heap_new W _, Nat.le_refl _, by unfold maxLen; omega, rfl, rfl⟩⟩
theorem ownsRow_al {W : World} {base : Nat} {e : TypeId} {size : Nat} {v : Value} {n : Nat} {xs : List Value} (h : W.ownsRow base e size v n xs) (o : Obj) : (W.alloc o).ownsRow base e size v n xs :=
  ownsRow_same h fun g _ _ hg => Below.heap_alloc W o g (Array.getElem?_eq_some_iff.1 hg).1
theorem ownsRow_bl {W W' : World} {base : Nat} {e : TypeId} {size : Nat} {v : Value} {n : Nat} {xs : List Value} (h : W.ownsRow base e size v n xs) (hb : Below W.heap.size W W') : W'.ownsRow base e size v n xs :=
  ownsRow_same h fun g _ _ hg => hb.block g (Array.getElem?_eq_some_iff.1 hg).1
theorem cells3_new (w : World) (a b c : Value) (t : TypeId) : ∀ j u, [a, b, c][j]? = some u → (w.alloc (.cells #[a, b, c] t)).cell? ((⟨w.heap.size, 0, none⟩ : Addr).add j) = some u := by
  intro j u hj
  have hb : (w.alloc (.cells #[a, b, c] t)).heap[w.heap.size]? = some (.cells #[a, b, c] t (0, 0)) := World.alloc_heap_new w _
  have e : (⟨w.heap.size, 0, none⟩ : Addr).add j = ⟨w.heap.size, j, none⟩ := by unfold Addr.add; split <;> simp_all
  rw [e, (cell_blk hb j).1, ← hj]
  simp

/-- WHAT STANDS BETWEEN THE MAP'S STORE AND THE FIELD'S: the two new lists, in whatever order. -/
structure Two (w5 W : World) (t : ByteArray) (k : Nat) (lg ag : Nat) : Prop where
  bel : Below w5.heap.size w5 W
  l : W.ownsRow w5.heap.size 9 1 (.slice (some ⟨lg, 0, none⟩) 1 1) 1 [.string t]
  a : W.ownsRow w5.heap.size 3 1 (.slice (some ⟨ag, 0, none⟩) 1 1) 1 [.int .i64 k]
theorem Two.a1 {w5 w6 : World} {t : ByteArray} {k : Nat} (hb : Below w5.heap.size w5 w6) : Two w5 ((w6.alloc (.cells #[.string t] 9)).alloc (.cells #[.int .i64 k] 3)) t k w6.heap.size (w6.heap.size + 1) := by
  have z := hb.size
  refine ⟨(hb.alloc z _).alloc (by simp; omega) _, ownsRow_al (ownsRow_one w6 _ _ _ z) _, ?_⟩
  have := ownsRow_one (w6.alloc (.cells #[.string t] 9)) (.int .i64 k) 3 w5.heap.size (by simp; omega)
  rwa [World.size_alloc] at this
theorem Two.a2 {w5 w6 : World} {t : ByteArray} {k : Nat} (hb : Below w5.heap.size w5 w6) : Two w5 ((w6.alloc (.cells #[.int .i64 k] 3)).alloc (.cells #[.string t] 9)) t k (w6.heap.size + 1) w6.heap.size := by
  have z := hb.size
  refine ⟨(hb.alloc z _).alloc (by simp; omega) _, ?_, ownsRow_al (ownsRow_one w6 _ _ _ z) _⟩
  have := ownsRow_one (w6.alloc (.cells #[.int .i64 k] 3)) (.string t) 9 w5.heap.size (by simp; omega)
  rwa [World.size_alloc] at this
theorem Two.a3 {w5 w5' w6 : World} {t : ByteArray} {k : Nat} (h5 : Below w5.heap.size w5 w5') (hb : Below (w5'.alloc (.cells #[.int .i64 k] 3)).heap.size (w5'.alloc (.cells #[.int .i64 k] 3)) w6) : Two w5 (w6.alloc (.cells #[.string t] 9)) t k w6.heap.size w5'.heap.size := by
  have z := h5.size
  have hb0 : Below w5.heap.size w5 w6 := (h5.alloc z _).trans (hb.mono (by simp; omega))
  exact ⟨hb0.alloc hb0.size _, ownsRow_one w6 _ _ _ hb0.size, ownsRow_al (ownsRow_bl (ownsRow_one w5' _ _ _ z) hb) _⟩

/-- A FIELD MORE. -/
theorem begin_par (base B b m : Nat) (v v7 : Value) (mv : Value) (xs : List Fs) (p : List Fd) (nm t : Bs) (k lg ag : Nat) (D5 : DataW Unit) (w w3 w5 W w7 : World)
    (hB : B < base) (hb : base ≤ w.heap.size) (hBx : w.heap[B]? = some (.cells #[v, mv] 76 (0, 0))) (hxs : xs.map (·.f) = p) (hpf : PF base w v xs) (hB3 : Below w.heap.size w w3)
    (hBx5 : w5.heap[B]? = some (.cells #[v, .map (some b)] 76 (0, 0))) (e5 : Env w3 w5) (z5 : w3.heap.size ≤ w5.heap.size) (k5 : ∀ i, i < w3.heap.size → i ≠ B → i ≠ b → w5.heap[i]? = w3.heap[i]?)
    (hmap5 : w5.ownsMap Tryd.prog 9 (plainElem Tryd.prog 3) b m D5) (hbb : base ≤ b) (hbm : ∀ (c : Array Value) (t : TypeId) (fr : Nat × Nat), w3.heap[b]? ≠ some (Obj.cells c t fr)) (hm : m ≤ p.length + 1)
    (hD5 : ∀ (s : Bs) (c : Int), D5.atKey (.string s) (.lit (.int .i64 0)) = .lit (.int .i64 c) → (0 < c ↔ ∃ f ∈ p ++ [⟨nm, [t], [k]⟩], small f.nm = s))
    (hBW : Below w5.heap.size w5 W) (hl : W.ownsRow w5.heap.size 9 1 (.slice (some ⟨lg, 0, none⟩) 1 1) 1 [.string (ba t)]) (ha : W.ownsRow w5.heap.size 3 1 (.slice (some ⟨ag, 0, none⟩) 1 1) 1 [.int .i64 k])
    (hO7 : w7.ownsRow base 49 3 v7 (xs.length + 1) (xs.flatMap cells3 ++ [.string (ba nm), .slice (some ⟨lg, 0, none⟩) 1 1, .slice (some ⟨ag, 0, none⟩) 1 1]))
    (hW7 : (W.alloc (.cells #[.string (ba nm), .slice (some ⟨lg, 0, none⟩) 1 1, .slice (some ⟨ag, 0, none⟩) 1 1] 49)).grownBy w7 v.ownBlock) :
    Par base B (w7.setCell ⟨B, 0, none⟩ v7) (p ++ [⟨nm, [t], [k]⟩]) ∧ FB base B w (w7.setCell ⟨B, 0, none⟩ v7) := by
  have z3 := hB3.size
  have zW := hBW.size
  have z7 : W.heap.size + 1 ≤ w7.heap.size := by have := hW7.size; simpa using this
  have z8 := set_size w7 B 0 v7
  have hg : ∀ g, v.ownBlock = some g → base ≤ g ∧ g < w.heap.size ∧ ∃ c, w.heap[g]? = some (.cells c 49 (0, 0)) := fun g hg => by
    obtain ⟨c, h1, h2, h3⟩ := ownsRow_blk hpf.row hg
    exact ⟨h2, h3, c, h1⟩
  -- FROM w5 ON
  have k8 : ∀ i, i < w5.heap.size → i ≠ B → v.ownBlock ≠ some i → (w7.setCell ⟨B, 0, none⟩ v7).heap[i]? = w5.heap[i]? := fun i hi h1 h2 =>
    (set_other _ _ _ _ _ h1).trans ((hW7.block i (by simp; omega) (fun e => h2 e.symm)).trans ((Below.heap_alloc W _ i (by omega)).trans (hBW.block i hi)))
  have kW : ∀ i, w5.heap.size ≤ i → i < W.heap.size → (w7.setCell ⟨B, 0, none⟩ v7).heap[i]? = W.heap[i]? := fun i hi hi2 =>
    (set_other _ _ _ _ _ (by omega)).trans ((hW7.block i (by simp; omega) (fun e => by have := (hg i e.symm).2.1; omega)).trans (Below.heap_alloc W _ i hi2))
  have kc : ∀ (i : Nat) (c : Array Value) (t : TypeId), (t = 9 ∨ t = 3) → w.heap[i]? = some (Obj.cells c t (0, 0)) → (w7.setCell ⟨B, 0, none⟩ v7).heap[i]? = w.heap[i]? := fun i c t ht hi => by
    have lt := (Array.getElem?_eq_some_iff.1 hi).1
    have nB : i ≠ B := fun e => by
      rw [e, hBx] at hi
      rcases ht with rfl | rfl <;> cases hi
    have n3 : w3.heap[i]? = w.heap[i]? := hB3.block i lt
    have nb : i ≠ b := fun e => hbm c t (0, 0) (by rw [← e, n3, hi])
    have nv : v.ownBlock ≠ some i := fun e => by
      obtain ⟨_, _, c2, h2⟩ := hg i e
      rw [h2] at hi
      rcases ht with rfl | rfl <;> cases hi
    exact (k8 i (by omega) nB nv).trans ((k5 i (by omega) nB nb).trans n3)
  have hlt := (ownsRow_blk hl (g := lg) rfl)
  have hat := (ownsRow_blk ha (g := ag) rfl)
  obtain ⟨_, _, hlt1, hlt2⟩ := hlt
  obtain ⟨_, _, hat1, hat2⟩ := hat
  have b1 : w7.heap[B]? = w5.heap[B]? := by
    have : B < w5.heap.size := (Array.getElem?_eq_some_iff.1 hBx5).1
    exact (hW7.block B (by simp; omega) (fun e => by have := (hg B e.symm).1; omega)).trans ((Below.heap_alloc W _ B (by omega)).trans (hBW.block B this))
  refine ⟨⟨⟨v7, .map (some b), xs ++ [⟨⟨nm, [t], [k]⟩, lg, 1, ag, 1⟩], ?_, ?_, ⟨?_, ?_, ?_, ?_⟩, ?_⟩, hB, by rw [z8]; omega⟩, FB.of_same ((Env.bel hB3).trans (e5.trans ((Env.bel hBW).trans ((Env.al _ _).trans ((Env.grown hW7).trans (Env.set _ _ _)))))) (by rw [z8]; omega) fun i hi hiB => ?_⟩
  · exact set_blk (b1.trans hBx5) 0 v7
  · rw [List.map_append, hxs]; rfl
  · rw [List.length_append, List.flatMap_append]
    simp only [List.length_cons, List.length_nil, List.flatMap_cons, List.flatMap_nil, List.append_nil]
    have e : cells3 ⟨⟨nm, [t], [k]⟩, lg, 1, ag, 1⟩ = [.string (ba nm), .slice (some ⟨lg, 0, none⟩) 1 1, .slice (some ⟨ag, 0, none⟩) 1 1] := rfl
    rw [e]
    refine ownsRow_same hO7 fun i c hi hc => set_other _ _ _ _ _ fun e => ?_
    have := (ownsRow_blk hO7 hi).choose_spec.2.1
    omega
  · intro y hy
    rcases List.mem_append.1 hy with hy | hy
    · have oy := hpf.ok y hy
      exact ⟨ownsRow_same oy.l fun i c _ hc => kc i c 9 (.inl rfl) hc, ownsRow_same oy.a fun i c _ hc => kc i c 3 (.inr rfl) hc⟩
    · obtain rfl : y = _ := by simpa using hy
      refine ⟨ownsRow_lower (base' := base) (ownsRow_same hl fun i c hi hc => ?_) (by omega), ownsRow_lower (base' := base) (ownsRow_same ha fun i c hi hc => ?_) (by omega)⟩
      · obtain rfl : lg = i := by simpa [Value.ownBlock] using hi
        exact kW lg hlt1 hlt2
      · obtain rfl : ag = i := by simpa [Value.ownBlock] using hi
        exact kW ag hat1 hat2
  · rw [List.pairwise_append]
    refine ⟨hpf.dl, by simp, fun y hy z hz => ?_⟩
    obtain rfl : z = _ := by simpa using hz
    show y.lg ≠ lg
    have := (ownsRow_blk (hpf.ok y hy).l (g := y.lg) rfl).choose_spec.2.2
    omega
  · rw [List.pairwise_append]
    refine ⟨hpf.da, by simp, fun y hy z hz => ?_⟩
    obtain rfl : z = _ := by simpa using hz
    show y.ag ≠ ag
    have := (ownsRow_blk (hpf.ok y hy).a (g := y.ag) rfl).choose_spec.2.2
    omega
  · obtain ⟨es, c, hbk⟩ := ownsMap_blk hmap5
    have lt := (Array.getElem?_eq_some_iff.1 hbk).1
    refine .inr ⟨b, m, D5, rfl, hbb, ownsMap_same hmap5 (k8 b lt (by omega) fun e => ?_), by simpa using hm, hD5⟩
    obtain ⟨_, lt2, c2, h2⟩ := hg b e
    exact hbm c2 49 (0, 0) (by rw [hB3.block b lt2]; exact h2)
  · exact (k8 i (by omega) hiB fun e => by have := (hg i e).1; omega).trans ((k5 i (by omega) hiB (by omega)).trans (hB3.block i (by omega)))

end Go.Proofs.YtiibobjbcgbknaaDoor
