import Derived.Test.YtpakhjbaniapnaaKsL
namespace Go.Proofs.Ytpakhjbaniapnaa
open Go.RowKit

theorem infoA : (Try.prog.info? 33).map (fun i => (i.zero, i.size, i.bytes)) = some (some (.agg #[.string ⟨#[]⟩, .int .i64 0, .string ⟨#[]⟩]), 3, 40) := by kernel_rfl
theorem infoC : (Try.prog.info? 42).map (fun i => (i.zero, i.size, i.bytes)) = some (some (.slice none 0 0), 1, 24) := by kernel_rfl
theorem flat_at {α β : Type} (z : Nat) (f : α → List β) (hf : ∀ a, (f a).length = z) : ∀ (l : List α) (i r : Nat) (hi : i < l.length), r < z → (l.flatMap f)[i * z + r]? = (f l[i])[r]?
  | [], i, r, hi, _ => absurd hi (Nat.not_lt_zero _)
  | a :: l, 0, r, _, hr => by
    rw [List.flatMap_cons, Nat.zero_mul, Nat.zero_add, List.getElem?_append_left (by rw [hf]; exact hr)]
    rfl
  | a :: l, i + 1, r, hi, hr => by
    rw [List.flatMap_cons, List.getElem?_append_right (by rw [hf, Nat.succ_mul]; omega), hf]
    have e : (i + 1) * z + r - z = i * z + r := by rw [Nat.succ_mul]; omega
    rw [e]
    exact flat_at z f hf l i r (Nat.lt_of_succ_lt_succ hi) hr
theorem flat_len {α β : Type} (z : Nat) (f : α → List β) (hf : ∀ a, (f a).length = z) : ∀ (l : List α), (l.flatMap f).length = l.length * z
  | [] => by simp
  | a :: l => by rw [List.flatMap_cons, List.length_append, flat_len z f hf l, hf, List.length_cons, Nat.succ_mul, Nat.add_comm]
theorem amCells_one (al : List Am) : ∀ v ∈ al.flatMap amCells, v.oneCell' = true := by
  intro v hv
  obtain ⟨a, -, ha⟩ := List.mem_flatMap.1 hv
  simp only [amCells, List.mem_cons, List.not_mem_nil, or_false] at ha
  rcases ha with rfl | rfl | rfl <;> rfl
theorem Ams.cellsF {w : World} {b o c : Nat} {n : Nat} {al : List Am} (h : Ams w (.slice (some ⟨b, o, none⟩) n c) al) : ∀ (j : Nat) (v : Value), (al.flatMap amCells)[j]? = some v → w.cell? ⟨b, o + j, none⟩ = some v := by
  intro j v hj
  have hl : j < al.length * 3 := by rw [← flat_len 3 amCells (fun _ => rfl)]; exact (List.getElem?_eq_some_iff.1 hj).1
  have hi : j / 3 < al.length := by omega
  obtain ⟨b', o', e, -, e0, e1, e2⟩ := h.elem (j / 3) hi
  cases e
  have f0 := flat_at 3 amCells (fun _ => rfl) al (j / 3) 0 hi (by omega)
  have f1 := flat_at 3 amCells (fun _ => rfl) al (j / 3) 1 hi (by omega)
  have f2 := flat_at 3 amCells (fun _ => rfl) al (j / 3) 2 hi (by omega)
  have : j = j / 3 * 3 + 0 ∨ j = j / 3 * 3 + 1 ∨ j = j / 3 * 3 + 2 := by omega
  rcases this with e | e | e
  · rw [e] at hj ⊢; rw [f0] at hj; rw [Nat.add_zero, e0]; exact hj
  · rw [e] at hj ⊢; rw [f1] at hj; rw [← Nat.add_assoc, e1]; exact hj
  · rw [e] at hj ⊢; rw [f2] at hj; rw [← Nat.add_assoc, e2]; exact hj
theorem Ams.src {w : World} {xa : Option Addr} {n c : Nat} {al : List Am} (h : Ams w (.slice xa n c) al) : al.length = 0 ∨ ∃ b o, xa = some ⟨b, o, none⟩ ∧ b < w.heap.size ∧ ∀ j u, (al.flatMap amCells)[j]? = some u → w.cell? ⟨b, o + j, none⟩ = some u := by
  by_cases e : al.length = 0
  · exact .inl e
  · obtain ⟨b, o, rfl, hb, -⟩ := h.elem 0 (by omega)
    exact .inr ⟨b, o, rfl, hb, h.cellsF⟩

/-- CELLS AND A MARK BEHIND THEM, IN A BLOCK OF THEIR OWN. -/
structure Kp (s : Nat) (W : World) (g c n : Nat) (xs : List Value) : Prop where
  cp : n + 1 ≤ c
  sm : n ≤ 8796093021952
  lt : g < W.heap.size
  ln : xs.length = n * s
  ce : ∀ j u, xs[j]? = some u → W.cell? ⟨g, j, none⟩ = some u
  bh : W.cell? ⟨g, n * s, none⟩ = some (.string bhd)
theorem Kp.later {s : Nat} {W W' : World} {g c n : Nat} {xs : List Value} (h : Kp s W g c n xs) (hb : Below W.heap.size W W') : Kp s W' g c n xs :=
  { h with lt := Nat.lt_of_lt_of_le h.lt hb.size, ce := fun j u hj => (hb.cell (p := ⟨g, j, none⟩) h.lt).trans (h.ce j u hj), bh := (hb.cell (p := ⟨g, _, none⟩) h.lt).trans h.bh }
theorem Kp.grown {s : Nat} {W W' : World} {row : Option Nat} {g c n : Nat} {xs : List Value} (h : Kp s W g c n xs) (hg : W.grownBy W' row) (hne : some g ≠ row) : Kp s W' g c n xs :=
  { h with lt := Nat.lt_of_lt_of_le h.lt hg.size, ce := fun j u hj => hg.cell (h.ce j u hj) hne, bh := hg.cell h.bh hne }
theorem Kp.of_row {lo s g n cap : Nat} {W : World} {e : TypeId} {xs mk : List Value} (h : W.ownsRow lo e s (.slice (some ⟨g, 0, none⟩) (n + 1) cap) (n + 1) (xs ++ mk)) (hn : n ≤ 8796093021952) (hx : xs.length = n * s) (hs : 0 < s) (hm : mk[0]? = some (.string bhd)) : Kp s W g cap n xs := by
  have hc : n + 1 ≤ cap := by
    rcases h.2 with ⟨e, _⟩ | ⟨g', cap', cur, e, _, _, hnc, _⟩
    · cases e
    · cases e; exact hnc
  refine ⟨hc, hn, (h.lt g rfl).2, hx, fun j u hj => ?_, ?_⟩
  · have hjl : j < xs.length := (List.getElem?_eq_some_iff.1 hj).1
    rw [h.cellAt j (by rw [Nat.add_mul]; omega), List.getElem?_append_left hjl, hj]
  · rw [h.cellAt (n * s) (by rw [Nat.add_mul]; omega), List.getElem?_append_right (by omega), show n * s - xs.length = 0 by omega, hm]
theorem Kp.ams {W : World} {g c : Nat} {al : List Am} (h : Kp 3 W g c al.length (al.flatMap amCells)) : Ams W (.slice (some ⟨g, 0, none⟩) al.length c) al := by
  have hs := h.sm
  refine ⟨_, _, rfl, by omega, fun i hi => ⟨g, 0, rfl, h.lt, ?_, ?_, ?_⟩⟩
  · rw [Nat.zero_add]; exact h.ce (i * 3) _ ((flat_at 3 amCells (fun _ => rfl) al i 0 hi (by omega)).trans rfl)
  · rw [Nat.zero_add]; exact h.ce (i * 3 + 1) _ ((flat_at 3 amCells (fun _ => rfl) al i 1 hi (by omega)).trans rfl)
  · rw [Nat.zero_add]; exact h.ce (i * 3 + 2) _ ((flat_at 3 amCells (fun _ => rfl) al i 2 hi (by omega)).trans rfl)
theorem Kp.mkd {s : Nat} {W : World} {g c n : Nat} {xs : List Value} (h : Kp s W g c n xs) : Mk s W (.slice (some ⟨g, 0, none⟩) n c) n :=
  ⟨g, 0, c, rfl, h.cp, by have := h.sm; omega, h.lt, by rw [Nat.zero_add]; exact h.bh⟩
/-- THE ROW OF THE CLAUSES COPIED SO FAR. -/
structure Out (lo : Nat) (W : World) (ov : Value) (cl : List (List Am)) (k : Nat) (xs : List Value) : Prop where
  row : W.ownsRow lo 42 1 ov k xs
  el : ∀ i (h : i < cl.length), i < k → ∃ g c, xs[i]? = some (.slice (some ⟨g, 0, none⟩) cl[i].length c) ∧ ov.ownBlock ≠ some g ∧ lo ≤ g ∧ Kp 3 W g c cl[i].length (cl[i].flatMap amCells)
theorem Out.later {lo : Nat} {W W' : World} {ov : Value} {cl : List (List Am)} {k : Nat} {xs : List Value} (h : Out lo W ov cl k xs) (hb : Below W.heap.size W W') : Out lo W' ov cl k xs :=
  ⟨ownsRow_below h.row hb, fun i hi hk => by obtain ⟨g, c, h1, h2, hlo, h3⟩ := h.el i hi hk; exact ⟨g, c, h1, h2, hlo, h3.later hb⟩⟩
theorem Out.put {lo : Nat} {W W' : World} {ov v' : Value} {cl : List (List Am)} {k g c : Nat} {xs : List Value} (h : Out lo W ov cl k xs) (hk : k < cl.length) (hx : Kp 3 W g c cl[k].length (cl[k].flatMap amCells)) (hne : ov.ownBlock ≠ some g) (hlog : lo ≤ g)
    (hr : W'.ownsRow lo 42 1 v' (k + 1) (xs ++ [.slice (some ⟨g, 0, none⟩) cl[k].length c])) (hg : W.grownBy W' ov.ownBlock) (hv : ov.ownBlock = v'.ownBlock ∨ v'.ownBlock = some W.heap.size) : Out lo W' v' cl (k + 1) (xs ++ [.slice (some ⟨g, 0, none⟩) cl[k].length c]) := by
  have hl : xs.length = k := by simpa using h.row.1
  have hb : ∀ g0, ov.ownBlock ≠ some g0 → g0 < W.heap.size → v'.ownBlock ≠ some g0 := fun g0 h1 h2 e => by
    rcases hv with hv | hv
    · exact h1 (hv.trans e)
    · rw [hv] at e; cases e; exact Nat.lt_irrefl _ h2
  refine ⟨hr, fun i hi hik => ?_⟩
  by_cases e : i = k
  · subst e
    exact ⟨g, c, by rw [List.getElem?_append_right (by omega)]; simp [hl], hb g hne hx.lt, hlog, hx.grown hg (fun e => hne e.symm)⟩
  · obtain ⟨g1, c1, h1, h2, hlo1, h3⟩ := h.el i hi (by omega)
    exact ⟨g1, c1, by rw [List.getElem?_append_left (by omega)]; exact h1, hb g1 h2 h3.lt, hlo1, h3.grown hg (fun e => h2 e.symm)⟩
theorem Out.done {lo : Nat} {W : World} {ov : Value} {cl : List (List Am)} {xs : List Value} (h : Out lo W ov cl cl.length xs) (hN : cl.length ≤ 5864062014634) : Cls W ov cl ∧ ClM W ov cl := by
  rcases h.row.2 with ⟨rfl, h0⟩ | ⟨G, cap, cur, rfl, -⟩
  · refine ⟨⟨none, 0, by rw [h0], by omega, fun i hi => absurd hi (by omega)⟩, ⟨none, 0, by rw [h0], by omega, fun i hi => absurd hi (by omega)⟩⟩
  · have hc : ∀ i (hi : i < cl.length), ∃ x, W.cell? ⟨G, 0 + i, none⟩ = some x ∧ Ams W x cl[i] ∧ Mk 3 W x cl[i].length := fun i hi => by
      obtain ⟨g, c, h1, -, -, h3⟩ := h.el i hi hi
      refine ⟨_, ?_, h3.ams, h3.mkd⟩
      rw [Nat.zero_add, h.row.cellAt i (by omega), h1]
    have hG := (h.row.lt G rfl).2
    refine ⟨⟨_, _, rfl, by omega, fun i hi => ?_⟩, ⟨_, _, rfl, by omega, fun i hi => ?_⟩⟩
    · obtain ⟨x, e1, e2, -⟩ := hc i hi
      exact ⟨G, 0, x, rfl, hG, e1, e2⟩
    · obtain ⟨x, e1, -, e2⟩ := hc i hi
      exact ⟨G, 0, x, rfl, hG, e1, e2⟩

/-- WHAT HANGS ON THE BLOCKS FROM N ON ALONE. -/
def Nw (N : Nat) (W : World) (P : World → Prop) : Prop := ∀ W2 : World, (∀ k, N ≤ k → k < W.heap.size → W2.heap[k]? = W.heap[k]?) → W.heap.size ≤ W2.heap.size → P W2
theorem Nw.here {N : Nat} {W : World} {P : World → Prop} (h : Nw N W P) : P W := h W (fun _ _ _ => rfl) (Nat.le_refl _)
theorem Nw.mono {N N' : Nat} {W : World} {P : World → Prop} (h : Nw N W P) (hn : N' ≤ N) : Nw N' W P := fun W2 h1 h2 => h W2 (fun k hk hl => h1 k (Nat.le_trans hn hk) hl) h2
theorem Nw.go {N : Nat} {W W' : World} {P : World → Prop} (h : Nw N W P) (hk : ∀ k, N ≤ k → k < W.heap.size → W'.heap[k]? = W.heap[k]?) (hs : W.heap.size ≤ W'.heap.size) : Nw N W' P := fun W2 h1 h2 =>
  h W2 (fun k hn hl => (h1 k hn (Nat.lt_of_lt_of_le hl hs)).trans (hk k hn hl)) (Nat.le_trans hs h2)
theorem Nw.bel {N : Nat} {W W' : World} {P : World → Prop} (h : Nw N W P) (hb : Below W.heap.size W W') : Nw N W' P := h.go (fun k _ hl => hb.block k hl) hb.size
theorem Kp.at {s : Nat} {W W' : World} {g c n : Nat} {xs : List Value} (h : Kp s W g c n xs) (hk : W'.heap[g]? = W.heap[g]?) (hs : W.heap.size ≤ W'.heap.size) : Kp s W' g c n xs :=
  { h with lt := Nat.lt_of_lt_of_le h.lt hs, ce := fun j u hj => (World.cell?_of_block (w := W) (a := ⟨g, j, none⟩) hk).trans (h.ce j u hj), bh := (World.cell?_of_block (w := W) (a := ⟨g, _, none⟩) hk).trans h.bh }
theorem Out.at {lo : Nat} {W W' : World} {ov : Value} {cl : List (List Am)} {k : Nat} {xs : List Value} (h : Out lo W ov cl k xs) (hk : ∀ k, lo ≤ k → k < W.heap.size → W'.heap[k]? = W.heap[k]?) (hs : W.heap.size ≤ W'.heap.size) : Out lo W' ov cl k xs := by
  refine ⟨⟨h.row.1, ?_⟩, fun i hi hik => ?_⟩
  · rcases h.row.2 with h2 | ⟨g, cap, cur, e1, e2, e3, e4⟩
    · exact Or.inl h2
    · exact Or.inr ⟨g, cap, cur, e1, e2, (hk g e2 (Array.getElem?_eq_some_iff.1 e3).1).trans e3, e4⟩
  · obtain ⟨g, c, h1, h2, h3, h4⟩ := h.el i hi hik
    exact ⟨g, c, h1, h2, h3, h4.at (hk g h3 h4.lt) hs⟩
theorem Out.nw {lo : Nat} {W : World} {ov : Value} {cl : List (List Am)} {xs : List Value} (h : Out lo W ov cl cl.length xs) (hN : cl.length ≤ 5864062014634) : Nw lo W fun W2 => Cls W2 ov cl ∧ ClM W2 ov cl :=
  fun _ h1 h2 => (h.at h1 h2).done hN

end Go.Proofs.Ytpakhjbaniapnaa
