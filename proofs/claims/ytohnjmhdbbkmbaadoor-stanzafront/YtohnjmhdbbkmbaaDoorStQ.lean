import Derived.Test.YtohnjmhdbbkmbaaDoorStO
namespace Go.Proofs.YtohnjmhdbbkmbaaDoor
open Go.RowKit Go.Shelf
attribute [local go_sem] Oper.semAt_some
attribute [local simp] wide_fn
attribute [local go_sem] wide_fn

/-- CELLS AND MAPS LIE AS THEY LAY. -/
structure CM (X Y : World) : Prop where
  env : Env X Y
  size : X.heap.size ≤ Y.heap.size
  c : ∀ (k : Nat) (c : Array Value) (t : TypeId) (fr : Nat × Nat), X.heap[k]? = some (Obj.cells c t fr) → Y.heap[k]? = X.heap[k]?
  m : ∀ (k : Nat) (es : Array MapEntry) (c : Nat), X.heap[k]? = some (Obj.map es c) → Y.heap[k]? = X.heap[k]?
theorem CM.of_grown {X Y : World} {row : Option Nat} {B : Nat} (hg : X.grownBy Y row) (hr : ∀ r, row = some r → B ≤ r ∧ ∃ o : Obj, X.heap[r]? = some o ∧ o.isCells = false ∧ ∀ es c, o ≠ .map es c) : CM X Y := by
  refine ⟨Env.grown hg, hg.size, fun k c t fr h => hg.block k (Array.getElem?_eq_some_iff.1 h).1 fun e => ?_, fun k es c h => hg.block k (Array.getElem?_eq_some_iff.1 h).1 fun e => ?_⟩
  · obtain ⟨_, o, ho, hc, _⟩ := hr k e.symm
    rw [h] at ho
    cases ho
    cases hc
  · obtain ⟨_, o, ho, _, hm⟩ := hr k e.symm
    rw [h] at ho
    cases ho
    exact hm es c rfl
theorem CM.of_below {X Y : World} (h : Below X.heap.size X Y) : CM X Y :=
  ⟨Env.bel h, h.size, fun k _ _ _ hk => h.block k (Array.getElem?_eq_some_iff.1 hk).1, fun k _ _ hk => h.block k (Array.getElem?_eq_some_iff.1 hk).1⟩
theorem PF.cm {base : Nat} {X Y : World} {v : Value} {xs : List Fs} (h : PF base X v xs) (hk : CM X Y) : PF base Y v xs := h.k3 fun k c t _ hc => hk.c k c t (0, 0) hc
theorem Par.cm {base B : Nat} {X Y : World} {p : List Fd} (h : Par base B X p) (hk : CM X Y) : Par base B Y p := by
  obtain ⟨v, mv, xs, h1, h2, h3, h4⟩ := h.sh
  exact ⟨⟨v, mv, xs, (hk.c _ _ _ _ h1).trans h1, h2, h3.cm hk, Mp.same h4 rfl fun b es c hb => hk.m b es c hb⟩, h.hB, Nat.le_trans h.hb hk.size⟩

/-- A PARAGRAPH THAT IS WHOLE. -/
structure Wh (lo base : Nat) (W : World) (v : Value) (p : List Fd) : Prop where
  sh : ∃ xs : List Fs, xs.map (·.f) = p ∧ PF lo W v xs ∧ (∀ g, v.ownBlock = some g → g < base) ∧ ∀ x ∈ xs, x.lg < base ∧ x.ag < base
/-- THE PARAGRAPHS SO FAR. -/
structure Dn (bl Bl base : Nat) (W : World) (lv : Value) (vs : List Value) (ps : List (List Fd)) : Prop where
  bx : W.heap[Bl]? = some (.cells #[lv] 24 (0, 0))
  lt : Bl < base
  row : W.ownsRow bl 39 1 lv vs.length vs
  rlt : ∀ g, lv.ownBlock = some g → g < base
  len : vs.length = ps.length
  each : ∀ (i : Nat) v p, vs[i]? = some v → ps[i]? = some p → Wh bl base W v p

theorem Wh.mono {lo base base2 : Nat} {W : World} {v : Value} {p : List Fd} (h : Wh lo base W v p) (hb : base ≤ base2) : Wh lo base2 W v p := by
  obtain ⟨xs, h1, h2, h3, h4⟩ := h.sh
  exact ⟨xs, h1, h2, fun g hg => Nat.lt_of_lt_of_le (h3 g hg) hb, fun x hx => ⟨Nat.lt_of_lt_of_le (h4 x hx).1 hb, Nat.lt_of_lt_of_le (h4 x hx).2 hb⟩⟩
theorem Wh.lower {lo lo2 base : Nat} {W : World} {v : Value} {p : List Fd} (h : Wh lo base W v p) (hb : lo2 ≤ lo) : Wh lo2 base W v p := by
  obtain ⟨xs, h1, h2, h3, h4⟩ := h.sh
  exact ⟨xs, h1, ⟨ownsRow_lower h2.row hb, fun x hx => ⟨ownsRow_lower (h2.ok x hx).l hb, ownsRow_lower (h2.ok x hx).a hb⟩, h2.dl, h2.da⟩, h3, h4⟩
theorem Dn.mono {bl Bl base base2 : Nat} {W : World} {lv : Value} {vs : List Value} {ps : List (List Fd)} (h : Dn bl Bl base W lv vs ps) (hb : base ≤ base2) : Dn bl Bl base2 W lv vs ps :=
  ⟨h.bx, Nat.lt_of_lt_of_le h.lt hb, h.row, fun g hg => Nat.lt_of_lt_of_le (h.rlt g hg) hb, h.len, fun i v p h1 h2 => (h.each i v p h1 h2).mono hb⟩
theorem Dn.lower {bl bl2 Bl base : Nat} {W : World} {lv : Value} {vs : List Value} {ps : List (List Fd)} (h : Dn bl Bl base W lv vs ps) (hb : bl2 ≤ bl) : Dn bl2 Bl base W lv vs ps :=
  ⟨h.bx, h.lt, ownsRow_lower h.row hb, h.rlt, h.len, fun i v p h1 h2 => (h.each i v p h1 h2).lower hb⟩
/-- WHAT IS BELOW base AND OF THE FIVE KINDS HAS NOT TURNED. -/
theorem Wh.keep {lo base : Nat} {W W2 : World} {v : Value} {p : List Fd} (h : Wh lo base W v p) (hk : ∀ (k : Nat) (c : Array Value) (t : TypeId), (t = 49 ∨ t = 9 ∨ t = 3) → lo ≤ k → k < base → W.heap[k]? = some (Obj.cells c t (0, 0)) → W2.heap[k]? = W.heap[k]?) : Wh lo base W2 v p := by
  obtain ⟨xs, h1, h2, h3, h4⟩ := h.sh
  refine ⟨xs, h1, ⟨ownsRow_same h2.row fun g c hg hc => hk g c 49 (.inl rfl) (ownsRow_blk h2.row hg).choose_spec.2.1 (h3 g hg) hc, fun x hx => ⟨ownsRow_same (h2.ok x hx).l fun g c hg hc => hk g c 9 (.inr (.inl rfl)) (ownsRow_blk (h2.ok x hx).l hg).choose_spec.2.1 ?_ hc, ownsRow_same (h2.ok x hx).a fun g c hg hc => hk g c 3 (.inr (.inr rfl)) (ownsRow_blk (h2.ok x hx).a hg).choose_spec.2.1 ?_ hc⟩, h2.dl, h2.da⟩, h3, h4⟩
  · obtain rfl : x.lg = g := by simpa [Value.ownBlock] using hg
    exact (h4 x hx).1
  · obtain rfl : x.ag = g := by simpa [Value.ownBlock] using hg
    exact (h4 x hx).2
theorem Dn.keep {bl Bl base : Nat} {W W2 : World} {lv : Value} {vs : List Value} {ps : List (List Fd)} (h : Dn bl Bl base W lv vs ps)
    (hk : ∀ (k : Nat) (c : Array Value) (t : TypeId), (t = 24 ∨ t = 39 ∨ t = 49 ∨ t = 9 ∨ t = 3) → (k = Bl ∨ bl ≤ k) → k < base → W.heap[k]? = some (Obj.cells c t (0, 0)) → W2.heap[k]? = W.heap[k]?) : Dn bl Bl base W2 lv vs ps :=
  ⟨(hk _ _ 24 (.inl rfl) (.inl rfl) h.lt h.bx).trans h.bx, h.lt, ownsRow_same h.row fun g c hg hc => hk g c 39 (.inr (.inl rfl)) (.inr (ownsRow_blk h.row hg).choose_spec.2.1) (h.rlt g hg) hc, h.rlt, h.len,
   fun i v p h1 h2 => (h.each i v p h1 h2).keep fun k c t ht hlo hlt hc => hk k c t (by rcases ht with h | h | h <;> simp [h]) (.inr hlo) hlt hc⟩

/-- WHAT A LOOP OVER THE LINES HOLDS. n0: the heap's size where it begins; B: the open paragraph's box. -/
structure Hold (n0 B Bl : Nat) (w0 W : World) (st : St) : Prop where
  env : Env w0 W
  err : st.err = none
  fr : ∀ k, k < n0 → k ≠ B → k ≠ Bl → W.heap[k]? = w0.heap[k]?
  sh : ∃ base lv vs, base ≤ W.heap.size ∧ (n0 + 2 ≤ base ∨ (st.p = [] ∧ W.heap[B]? = some (.cells #[.slice none 0 0, .map none] 76 (0, 0)))) ∧ Par base B W st.p ∧ Dn n0 Bl base W lv vs st.all
  hn : n0 ≤ W.heap.size

theorem Hold.cm {n0 B Bl : Nat} {w0 X Y : World} {st : St} (h : Hold n0 B Bl w0 X st) (hk : CM X Y) (hf : ∀ k, k < n0 → Y.heap[k]? = X.heap[k]?) : Hold n0 B Bl w0 Y st := by
  obtain ⟨base, lv, vs, h1, h2, h3, h4⟩ := h.sh
  refine ⟨h.env.trans hk.env, h.err, fun k hk1 hk2 hk3 => (hf k hk1).trans (h.fr k hk1 hk2 hk3), ⟨base, lv, vs, Nat.le_trans h1 hk.size, ?_, h3.cm hk, h4.keep fun k c t _ _ _ hc => hk.c k c t (0, 0) hc⟩, Nat.le_trans h.hn hk.size⟩
  rcases h2 with h2 | ⟨h2, h5⟩
  · exact .inl h2
  · exact .inr ⟨h2, (hk.c _ _ _ _ h5).trans h5⟩
/-- AN OPEN PARAGRAPH OF NOTHING. -/
theorem Par.fresh {B : Nat} {W : World} (base : Nat) (hB : B < base) (hb : base ≤ W.heap.size) (h : W.heap[B]? = some (.cells #[.slice none 0 0, .map none] 76 (0, 0))) : Par base B W [] :=
  ⟨⟨.slice none 0 0, .map none, [], h, rfl, ⟨World.ownsRow_nil _ _ _ _, fun x hx => (by cases hx), List.Pairwise.nil, List.Pairwise.nil⟩, .inl ⟨rfl, rfl⟩⟩, hB, hb⟩
/-- .. WITH THE LOOP'S OWN BLOCKS BELOW base. -/
theorem Hold.open' {n0 B Bl : Nat} {w0 W : World} {st : St} (h : Hold n0 B Bl w0 W st) (hB : B < n0) (hW : n0 + 1 < W.heap.size) :
    ∃ base lv vs, base ≤ W.heap.size ∧ n0 + 2 ≤ base ∧ Par base B W st.p ∧ Dn n0 Bl base W lv vs st.all := by
  obtain ⟨base, lv, vs, h1, h2, h3, h4⟩ := h.sh
  rcases h2 with h2 | ⟨h2, h5⟩
  · exact ⟨base, lv, vs, h1, h2, h3, h4⟩
  · exact ⟨W.heap.size, lv, vs, Nat.le_refl _, by omega, by rw [h2]; exact Par.fresh _ (by omega) (Nat.le_refl _) h5, h4.mono h1⟩

end Go.Proofs.YtohnjmhdbbkmbaaDoor
