import Derived.Test.YtiibobjbcgbknaaDoorSgD
import Derived.Test.YtiibobjbcgbknaaDoorStX
import Derived.Deep.Onto
namespace Go.Proofs.YtiibobjbcgbknaaDoor
open Go.RowKit

/-- 'append(nil, xs...)' IN A REGION THAT DRAWS: WHATEVER xs IS. -/
theorem step_app {P : Program} {ops : Array Oper} {o : Oper} {a : Act} {w : World} {K : Act → World → Prop} {Q : Exit → Act → World → Prop} {E : Prop}
    (hg : o.guard = none) (s x : Operand) (t : TypeId) (hop : o.op = Op.call { callee := Callee.builtin Builtin.append, args := #[s, x], argTypes := #[t, t] })
    (base : Nat) (e : TypeId) (i : TypeInfo) (z : Value) (bytes : Nat) (ht : P.underlying t = some (.slice e)) (hi : P.info? e = some i) (hz : i.zero = some z)
    (hsize : i.size = 1) (hby : i.bytes = bytes) (hzs : z.cells.size = 1) (hs : a.eval s = .slice none 0 0)
    (pa : Option Addr) (m c : Nat) (news : List Value) (hx : a.eval x = .slice pa m c) (hl : news.length = m) (hC : Cl w pa news) (h1 : ∀ u ∈ news, u.oneCell' = true)
    (h63 : m ≤ maxLen) (hbytes : m * bytes ≤ 140737488355328) (hbase : base ≤ w.heap.size)
    (hK : ∀ v' w', w'.ownsRow base e 1 v' m news → w.grownBy w' none → (v'.ownBlock = none ∨ v'.ownBlock = some w.heap.size) → K (a.put o.dst v') w') :
    if Region.wanted o (yielded ops a.tmps) = true then Oper.wp P o a w K Q else E := by
  have hown : w.ownsRow base e 1 (.slice none 0 0) 0 [] := World.ownsRow_nil _ _ _ _
  cases pa with
  | none =>
    have hm : m = 0 := by
      rcases Nat.eq_zero_or_pos m with h | h
      · exact h
      · obtain ⟨b, q, h2, _⟩ := hC (by omega)
        cases h2
    subst hm
    obtain rfl : news = [] := List.length_eq_zero_iff.1 hl
    have hw : Region.wanted o (yielded ops a.tmps) = true := by simp [Region.wanted, hg]
    rw [if_pos hw]
    have hr : (Builtin.append_ #[t, t] o.type #[.slice none 0 0, .slice none 0 c]).run P w = .ok (.slice none 0 0) w := by
      simp [Builtin.append_, run_underlying ht, sizeOf, typeInfo, hi, Builtin.lenOf, Builtin.firstCells]
    unfold Oper.wp
    simp [execOp, hop, resolve, invoke, builtin, hs, hx, hr, Result.andThen]
    exact hK _ _ hown ⟨rfl, rfl, rfl, Nat.le_refl _, fun _ _ _ => rfl⟩ (Or.inl rfl)
  | some ad =>
    refine step_append_own hg s x t hop base e i z 1 bytes ht hi hz hsize hby hzs (by decide) (.slice none 0 0) 0 [] hs hown ad m c news hx (by omega) ?_ h1 (by omega) (by rw [Nat.zero_add]; exact hbytes) hbase (fun v' w' h2 h3 h4 => hK v' w' (by simpa using h2) h3 h4)
    intro j u hj
    have h0 : 0 < news.length := by have := (List.getElem?_eq_some_iff.1 hj).1; omega
    obtain ⟨b, q, h2, h3⟩ := hC h0
    cases h2
    rw [show (⟨b, q, none⟩ : Addr).add j = ⟨b, q + j, none⟩ by unfold Addr.add; split <;> simp_all]
    exact h3 j u hj

structure Ft where
  f : Fd
  lv : Value
  av : Value
  az : List Value
def cellsT (x : Ft) : List Value := [.string (ba x.f.nm), x.lv, x.av]
structure Ftok (W : World) (x : Ft) : Prop where
  l : W.ownsRow 0 9 1 x.lv x.f.ls.length (strs x.f.ls)
  a : W.ownsRow 0 3 1 x.av x.az.length x.az
  o : ∀ u ∈ x.az, u.oneCell' = true
  n : x.az.length ≤ 16777216
def PT (b0 : Nat) (W : World) (v : Value) (p : List Fd) : Prop := ∃ xs : List Ft, xs.map (·.f) = p ∧ W.ownsRow b0 49 3 v xs.length (xs.flatMap cellsT) ∧ ∀ x ∈ xs, Ftok W x
theorem cellsT_get : ∀ (xs : List Ft) (i : Nat) (x : Ft) (j : Nat) (u : Value), xs[i]? = some x → (cellsT x)[j]? = some u → (xs.flatMap cellsT)[i * 3 + j]? = some u
  | [], i, x, j, u, h, _ => by cases h
  | y :: r, 0, x, j, u, h, hu => by
    cases h
    have hj : j < (cellsT y).length := (List.getElem?_eq_some_iff.1 hu).1
    rw [List.flatMap_cons, Nat.zero_mul, Nat.zero_add, List.getElem?_append_left hj]
    exact hu
  | y :: r, i + 1, x, j, u, h, hu => by
    have ih := cellsT_get r i x j u h hu
    rw [List.flatMap_cons, show (i + 1) * 3 + j = (cellsT y).length + (i * 3 + j) by simp [cellsT]; omega, List.getElem?_append_right (by omega), Nat.add_sub_cancel_left]
    exact ih
theorem own_cap {W : World} {base : Nat} {e : TypeId} {v : Value} {n : Nat} {cs : List Value} (h : W.ownsRow base e 1 v n cs) : ∃ pa c, v = .slice pa n c ∧ n ≤ c ∧ Cl W pa cs := by
  have h' := h
  rcases h.2 with ⟨h1, h2⟩ | ⟨g, cap, cur, h1, _, hg, hc, _⟩
  · subst h1 h2
    exact ⟨none, 0, rfl, Nat.le_refl _, Cl.of_owns h'⟩
  · subst h1
    exact ⟨some ⟨g, 0, none⟩, cap, rfl, hc, Cl.of_owns h'⟩
theorem PT.parG {b0 : Nat} {W : World} {v : Value} {p : List Fd} (h : PT b0 W v p) : ParG W v p := by
  obtain ⟨xs, h1, h2, h3⟩ := h
  have hl : p.length = xs.length := by rw [← h1]; simp
  rcases h2.2 with ⟨e1, e2⟩ | ⟨g, cap, cur, e1, _, hg, _, _, _, htk⟩
  · exact ⟨none, 0, by rw [hl, e2]; exact e1, fun h0 => by omega⟩
  · refine ⟨some ⟨g, 0, none⟩, cap, by rw [hl]; exact e1, fun _ => ⟨g, 0, rfl, fun i f hi => ?_⟩⟩
    have hx : ∃ x, xs[i]? = some x ∧ x.f = f := by
      rw [← h1, List.getElem?_map] at hi
      cases hq : xs[i]? with
      | none => rw [hq] at hi; cases hi
      | some x => rw [hq] at hi; exact ⟨x, rfl, by simpa using hi⟩
    obtain ⟨x, hx, rfl⟩ := hx
    have hk := h3 x (List.mem_of_getElem? hx)
    have hc : ∀ j u, (cellsT x)[j]? = some u → W.cell? ⟨g, 0 + i * 3 + j, none⟩ = some u := fun j u hu => by
      have e : W.cell? ⟨g, 0 + i * 3 + j, none⟩ = cur[0 + i * 3 + j]? := by simp [World.cell?, hg]
      rw [e, Nat.zero_add]
      exact take_get' htk (cellsT_get xs i x j u hx hu)
    obtain ⟨pa, c, q1, q2, q3⟩ := own_cap hk.l
    obtain ⟨na, nc, q4, _, q5⟩ := own_cap hk.a
    exact ⟨hc 0 _ rfl, ⟨pa, c, by rw [← q1]; exact hc 1 _ rfl, q2, q3⟩, ⟨na, nc, x.az, by rw [← q4]; exact hc 2 _ rfl, q5, hk.o, hk.n⟩⟩
theorem PT.keep {b0 : Nat} {W W' : World} {v : Value} {p : List Fd} (h : PT b0 W v p) (hk : ∀ (k : Nat) (c : Array Value) (t : TypeId), (t = 49 ∨ t = 9 ∨ t = 3) → W.heap[k]? = some (Obj.cells c t (0, 0)) → W'.heap[k]? = W.heap[k]?) : PT 0 W' v p := by
  obtain ⟨xs, h1, h2, h3⟩ := h
  exact ⟨xs, h1, (ownsRow_same h2 fun g c _ hg => hk g c 49 (.inl rfl) hg).mono (Nat.zero_le _), fun x hx => ⟨ownsRow_same (h3 x hx).l fun g c _ hg => hk g c 9 (.inr (.inl rfl)) hg, ownsRow_same (h3 x hx).a fun g c _ hg => hk g c 3 (.inr (.inr rfl)) hg, (h3 x hx).o, (h3 x hx).n⟩⟩
theorem PT_more {W2 W w8 : World} {vs : List Value} {ps : List (List Fd)} {i b0 : Nat} {v1 : Value} {p1 : List Fd} (he : ∀ (j : Nat) v p, vs[j]? = some v → ps[j]? = some p → PT 0 W2 v p) (hb : Below W2.heap.size W2 W) (hp : PT b0 W v1 p1) (hvs : vs.length = i) (hpi : ps[i]? = some p1)
    (hk : ∀ (k : Nat) (c : Array Value) (t : TypeId), (t = 49 ∨ t = 9 ∨ t = 3) → W.heap[k]? = some (Obj.cells c t (0, 0)) → w8.heap[k]? = W.heap[k]?) : ∀ (j : Nat) v p, (vs ++ [v1])[j]? = some v → ps[j]? = some p → PT 0 w8 v p := by
  intro j v p h1 h2
  by_cases hj : j < vs.length
  · rw [List.getElem?_append_left hj] at h1
    have h := he j v p h1 h2
    have h' : PT 0 W v p := h.keep fun k c t _ hc => hb.block k (Array.getElem?_eq_some_iff.1 hc).1
    exact h'.keep hk
  · rw [List.getElem?_append_right (by omega)] at h1
    have hj0 : j - vs.length = 0 := by
      have := (List.getElem?_eq_some_iff.1 h1).1
      simp at this
      omega
    rw [hj0] at h1
    cases h1
    obtain rfl : j = i := by omega
    rw [hpi] at h2
    cases h2
    exact hp.keep hk
theorem docG_of {b : Nat} {W : World} {lv : Value} {vs : List Value} {ps : List (List Fd)} (hl : vs.length = ps.length) (hr : W.ownsRow b 39 1 lv vs.length vs) (he : ∀ (i : Nat) v p, vs[i]? = some v → ps[i]? = some p → ParG W v p) : DocG W lv ps := by
  obtain ⟨pa, c, hv, _, hC⟩ := own_cap hr
  refine ⟨pa, c, by rw [← hl]; exact hv, fun h0 => ?_⟩
  obtain ⟨g, o, h1, h2⟩ := hC (by omega)
  refine ⟨g, o, h1, fun i p hi => ?_⟩
  have hlt : i < vs.length := by have := (List.getElem?_eq_some_iff.1 hi).1; omega
  exact ⟨vs[i], h2 i _ (List.getElem?_eq_getElem hlt), he i _ p (List.getElem?_eq_getElem hlt) hi⟩

theorem twin_fieldT (base : Nat) (W w2 w4 w7 : World) (pv pv' : Value) (xs : List Ft) (f : Fd) (lv av : Value) (az : List Value) (o1 o3 : Obj) (hb : base ≤ W.heap.size) (hz1 : ∀ u ∈ az, u.oneCell' = true) (hz2 : az.length ≤ 16777216)
    (hrow : W.ownsRow base 49 3 pv xs.length (xs.flatMap cellsT)) (hok : ∀ x ∈ xs, Ftok W x)
    (b2 : Below (W.heap.size + 1) (W.alloc o1) w2) (hO2 : w2.ownsRow base 9 1 lv f.ls.length (strs f.ls)) (e2 : lv.ownBlock = none ∨ lv.ownBlock = some (W.heap.size + 1))
    (b4 : Below w2.heap.size (w2.setCell ⟨W.heap.size, 1, none⟩ lv) w4) (hO4 : w4.ownsRow base 3 1 av az.length az) (e4 : av.ownBlock = none ∨ av.ownBlock = some w2.heap.size)
    (hg7 : ((w4.setCell ⟨W.heap.size, 2, none⟩ av).alloc o3).grownBy w7 pv.ownBlock)
    (hO7 : w7.ownsRow base 49 3 pv' (xs.length + 1) (xs.flatMap cellsT ++ [.string (ba f.nm), lv, av])) :
    PT base w7 pv' (xs.map (·.f) ++ [f]) ∧ Below base W w7 := by
  have z2 : W.heap.size + 1 ≤ w2.heap.size := by have := b2.size; simpa using this
  have z4 : w2.heap.size ≤ w4.heap.size := by have := b4.size; rw [set_size] at this; exact this
  have z7 : w4.heap.size + 1 ≤ w7.heap.size := by have := hg7.size; rw [World.size_alloc, set_size] at this; exact this
  have hpb : ∀ g, pv.ownBlock = some g → base ≤ g ∧ g < W.heap.size := fun g hg => (ownsRow_blk hrow hg).choose_spec.2
  have k7 : ∀ k, k < w4.heap.size → k ≠ W.heap.size → some k ≠ pv.ownBlock → w7.heap[k]? = w4.heap[k]? := fun k h1 h2 h3 =>
    (hg7.block k (by rw [World.size_alloc, set_size]; omega) h3).trans ((Below.heap_alloc _ _ k (by rw [set_size]; exact h1)).trans (set_other _ _ _ _ _ h2))
  have k4 : ∀ k, k < w2.heap.size → k ≠ W.heap.size → w4.heap[k]? = w2.heap[k]? := fun k h1 h2 => (b4.block k h1).trans (set_other _ _ _ _ _ h2)
  have k0 : ∀ k, k < W.heap.size → some k ≠ pv.ownBlock → w7.heap[k]? = W.heap[k]? := fun k h1 h3 =>
    (k7 k (by omega) (by omega) h3).trans ((k4 k (by omega) (by omega)).trans ((b2.block k (by omega)).trans (Below.heap_alloc W o1 k h1)))
  refine ⟨⟨xs ++ [⟨f, lv, av, az⟩], by simp, ?_, ?_⟩, ?_⟩
  · rw [List.length_append, List.flatMap_append]
    simpa [cellsT] using hO7
  · intro x hx
    rcases List.mem_append.1 hx with hx | hx
    · have h := hok x hx
      have hne : ∀ (g : Nat) (t : TypeId) (c : Array Value), t ≠ 49 → W.heap[g]? = some (.cells c t (0, 0)) → some g ≠ pv.ownBlock := fun g t c ht hg e => by
        obtain ⟨c', h1, _⟩ := ownsRow_blk hrow e.symm
        rw [hg] at h1
        cases h1
        exact ht rfl
      exact ⟨ownsRow_same h.l fun g c hg hc => k0 g (Array.getElem?_eq_some_iff.1 hc).1 (hne g 9 c (by decide) hc), ownsRow_same h.a fun g c hg hc => k0 g (Array.getElem?_eq_some_iff.1 hc).1 (hne g 3 c (by decide) hc), h.o, h.n⟩
    · rw [List.mem_singleton.1 hx]
      refine ⟨(ownsRow_same hO2 fun g c hg hc => ?_).mono (Nat.zero_le _), (ownsRow_same hO4 fun g c hg hc => ?_).mono (Nat.zero_le _), hz1, hz2⟩
      · have e : g = W.heap.size + 1 := by
          rcases e2 with e2 | e2
          · rw [e2] at hg; cases hg
          · rw [e2] at hg; cases hg; rfl
        have glt : g < w2.heap.size := (Array.getElem?_eq_some_iff.1 hc).1
        exact (k7 g (by omega) (by omega) (fun e' => by have := (hpb g e'.symm).2; omega)).trans (k4 g glt (by omega))
      · have e : g = w2.heap.size := by
          rcases e4 with e4 | e4
          · rw [e4] at hg; cases hg
          · rw [e4] at hg; cases hg; rfl
        have glt : g < w4.heap.size := (Array.getElem?_eq_some_iff.1 hc).1
        exact k7 g glt (by omega) (fun e' => by have := (hpb g e'.symm).2; omega)
  · have bA : Below base W (W.alloc o1) := (Below.refl _ _).alloc hb _
    have bB := bA.trans (b2.mono (by omega))
    have bC : Below base W (w2.setCell ⟨W.heap.size, 1, none⟩ lv) := ⟨bB.os, bB.tape, bB.output, by rw [set_size]; exact bB.size, fun k hk => (set_other _ _ _ _ _ (by omega)).trans (bB.block k hk)⟩
    have bD := bC.trans (b4.mono (by omega))
    have bE : Below base W (w4.setCell ⟨W.heap.size, 2, none⟩ av) := ⟨bD.os, bD.tape, bD.output, by rw [set_size]; exact bD.size, fun k hk => (set_other _ _ _ _ _ (by omega)).trans (bD.block k hk)⟩
    have bF := bE.alloc (Nat.le_trans hb bE.size) o3
    exact bF.grown hg7 (Nat.le_trans hb bF.size) fun g hg => (hpb g hg).1

end Go.Proofs.YtiibobjbcgbknaaDoor
