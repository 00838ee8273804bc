import Derived.Test.YtiibobjbcgbknaaDoorStO
namespace Go.Proofs.YtiibobjbcgbknaaDoor
open Go.RowKit Go.Shelf
attribute [local go_sem] Oper.semAt_some
attribute [local simp] wide_fn
attribute [local go_sem] wide_fn

/-- CELLS AND MAPS LIE AS THEY LAY. -/
structure CM (X Y : World) : Prop where
  env : Env X Y
  size : X.heap.size ≤ Y.heap.size
  c : ∀ (k : Nat) (c : Array Value) (t : TypeId) (fr : Nat × Nat), X.heap[k]? = some (Obj.cells c t fr) → Y.heap[k]? = X.heap[k]?
  m : ∀ (k : Nat) (es : Array MapEntry) (c : Nat), X.heap[k]? = some (Obj.map es c) → Y.heap[k]? = X.heap[k]?
theorem CM.of_grown {X Y : World} {row : Option Nat} {B : Nat} (hg : X.grownBy Y row) (hr : ∀ r, row = some r → B ≤ r ∧ ∃ o : Obj, X.heap[r]? = some o ∧ o.isCells = false ∧ ∀ es c, o ≠ .map es c) : CM X Y := by
  refine ⟨Env.grown hg, hg.size, fun k c t fr h => hg.block k (Array.getElem?_eq_some_iff.1 h).1 fun e => ?_, fun k es c h => hg.block k (Array.getElem?_eq_some_iff.1 h).1 fun e => ?_⟩
  · obtain ⟨_, o, ho, hc, _⟩ := hr k e.symm
    rw [h] at ho
    cases ho
    cases hc
  · obtain ⟨_, o, ho, _, hm⟩ := hr k e.symm
    rw [h] at ho
    cases ho
    exact hm es c rfl
theorem CM.of_below {X Y : World} (h : Below X.heap.size X Y) : CM X Y :=
  ⟨Env.bel h, h.size, fun k _ _ _ hk => h.block k (Array.getElem?_eq_some_iff.1 hk).1, fun k _ _ hk => h.block k (Array.getElem?_eq_some_iff.1 hk).1⟩
theorem PF.cm {base : Nat} {X Y : World} {v : Value} {xs : List Fs} (h : PF base X v xs) (hk : CM X Y) : PF base Y v xs := h.k3 fun k c t _ hc => hk.c k c t (0, 0) hc
theorem Par.cm {base B : Nat} {X Y : World} {p : List Fd} (h : Par base B X p) (hk : CM X Y) : Par base B Y p := by
  obtain ⟨v, mv, xs, h1, h2, h3, h4⟩ := h.sh
  exact ⟨⟨v, mv, xs, (hk.c _ _ _ _ h1).trans h1, h2, h3.cm hk, Mp.same h4 rfl fun b es c hb => hk.m b es c hb⟩, h.hB, Nat.le_trans h.hb hk.size⟩

/-- A PARAGRAPH THAT IS WHOLE. -/
structure Wh (lo base : Nat) (W : World) (v : Value) (p : List Fd) : Prop where
  sh : ∃ xs : List Fs, xs.map (·.f) = p ∧ PF lo W v xs ∧ (∀ g, v.ownBlock = some g → g < base) ∧ ∀ x ∈ xs, x.lg < base ∧ x.ag < base
/-- EACH PARAGRAPH IN A WINDOW OF ITS OWN. -/
def Win (bl base : Nat) (W : World) (vs : List Value) (ps : List (List Fd)) : Prop :=
  ∃ c : Nat → Nat, (∀ i j, i ≤ j → c i ≤ c j) ∧ bl ≤ c 0 ∧ c vs.length ≤ base ∧ ∀ (i : Nat) v p, vs[i]? = some v → ps[i]? = some p → Wh (c i) (c (i + 1)) W v p
/-- THE PARAGRAPHS SO FAR. -/
structure Dn (bl Bl base : Nat) (W : World) (lv : Value) (vs : List Value) (ps : List (List Fd)) : Prop where
  bx : W.heap[Bl]? = some (.cells #[lv] 24 (0, 0))
  lt : Bl < base
  row : W.ownsRow bl 39 1 lv vs.length vs
  rlt : ∀ g, lv.ownBlock = some g → g < base
  len : vs.length = ps.length
  win : Win bl base W vs ps

theorem Wh.mono {lo base base2 : Nat} {W : World} {v : Value} {p : List Fd} (h : Wh lo base W v p) (hb : base ≤ base2) : Wh lo base2 W v p := by
  obtain ⟨xs, h1, h2, h3, h4⟩ := h.sh
  exact ⟨xs, h1, h2, fun g hg => Nat.lt_of_lt_of_le (h3 g hg) hb, fun x hx => ⟨Nat.lt_of_lt_of_le (h4 x hx).1 hb, Nat.lt_of_lt_of_le (h4 x hx).2 hb⟩⟩
theorem Wh.lower {lo lo2 base : Nat} {W : World} {v : Value} {p : List Fd} (h : Wh lo base W v p) (hb : lo2 ≤ lo) : Wh lo2 base W v p := by
  obtain ⟨xs, h1, h2, h3, h4⟩ := h.sh
  exact ⟨xs, h1, ⟨ownsRow_lower h2.row hb, fun x hx => ⟨ownsRow_lower (h2.ok x hx).l hb, ownsRow_lower (h2.ok x hx).a hb⟩, h2.dl, h2.da⟩, h3, h4⟩
/-- WHAT IS BELOW base AND OF THE FIVE KINDS HAS NOT TURNED. -/
theorem Wh.keep {lo base : Nat} {W W2 : World} {v : Value} {p : List Fd} (h : Wh lo base W v p) (hk : ∀ (k : Nat) (c : Array Value) (t : TypeId), (t = 49 ∨ t = 9 ∨ t = 3) → lo ≤ k → k < base → W.heap[k]? = some (Obj.cells c t (0, 0)) → W2.heap[k]? = W.heap[k]?) : Wh lo base W2 v p := by
  obtain ⟨xs, h1, h2, h3, h4⟩ := h.sh
  refine ⟨xs, h1, ⟨ownsRow_same h2.row fun g c hg hc => hk g c 49 (.inl rfl) (ownsRow_blk h2.row hg).choose_spec.2.1 (h3 g hg) hc, fun x hx => ⟨ownsRow_same (h2.ok x hx).l fun g c hg hc => hk g c 9 (.inr (.inl rfl)) (ownsRow_blk (h2.ok x hx).l hg).choose_spec.2.1 ?_ hc, ownsRow_same (h2.ok x hx).a fun g c hg hc => hk g c 3 (.inr (.inr rfl)) (ownsRow_blk (h2.ok x hx).a hg).choose_spec.2.1 ?_ hc⟩, h2.dl, h2.da⟩, h3, h4⟩
  · obtain rfl : x.lg = g := by simpa [Value.ownBlock] using hg
    exact (h4 x hx).1
  · obtain rfl : x.ag = g := by simpa [Value.ownBlock] using hg
    exact (h4 x hx).2
theorem Win.mono {bl base base2 : Nat} {W : World} {vs : List Value} {ps : List (List Fd)} (h : Win bl base W vs ps) (hb : base ≤ base2) : Win bl base2 W vs ps := by
  obtain ⟨c, h1, h2, h3, h4⟩ := h
  exact ⟨c, h1, h2, Nat.le_trans h3 hb, h4⟩
theorem Win.lower {bl bl2 base : Nat} {W : World} {vs : List Value} {ps : List (List Fd)} (h : Win bl base W vs ps) (hb : bl2 ≤ bl) : Win bl2 base W vs ps := by
  obtain ⟨c, h1, h2, h3, h4⟩ := h
  exact ⟨c, h1, Nat.le_trans hb h2, h3, h4⟩
theorem Win.keep {bl base : Nat} {W W2 : World} {vs : List Value} {ps : List (List Fd)} (h : Win bl base W vs ps) (hk : ∀ (k : Nat) (c : Array Value) (t : TypeId), (t = 49 ∨ t = 9 ∨ t = 3) → bl ≤ k → k < base → W.heap[k]? = some (Obj.cells c t (0, 0)) → W2.heap[k]? = W.heap[k]?) : Win bl base W2 vs ps := by
  obtain ⟨c, h1, h2, h3, h4⟩ := h
  refine ⟨c, h1, h2, h3, fun i v p hv hp => (h4 i v p hv hp).keep fun k cc t ht hlo hlt hc => hk k cc t ht (Nat.le_trans h2 (Nat.le_trans (h1 0 i (Nat.zero_le _)) hlo)) (Nat.lt_of_lt_of_le hlt (Nat.le_trans (h1 (i + 1) vs.length ?_) h3)) hc⟩
  exact (List.getElem?_eq_some_iff.1 hv).1
theorem Win.put {bl base base2 : Nat} {W : World} {vs : List Value} {ps : List (List Fd)} {v : Value} {p : List Fd} (h : Win bl base W vs ps) (hl : vs.length = ps.length) (hb : bl ≤ base) (hbb : base ≤ base2) (hv : Wh base base2 W v p) : Win bl base2 W (vs ++ [v]) (ps ++ [p]) := by
  obtain ⟨c, h1, h2, h3, h4⟩ := h
  refine ⟨fun j => if j < vs.length then c j else if j = vs.length then base else base2, fun i j hij => ?_, ?_, ?_, fun i u q hu hq => ?_⟩
  · have hm : ∀ j, j < vs.length → c j ≤ base := fun j hj => Nat.le_trans (h1 j vs.length (by omega)) h3
    simp only
    by_cases e1 : i < vs.length
    · rw [if_pos e1]
      by_cases e2 : j < vs.length
      · rw [if_pos e2]; exact h1 i j hij
      · rw [if_neg e2]
        split
        · exact hm i e1
        · exact Nat.le_trans (hm i e1) hbb
    · have e2 : ¬ j < vs.length := by omega
      rw [if_neg e1, if_neg e2]
      by_cases e3 : i = vs.length
      · rw [if_pos e3]
        by_cases e4 : j = vs.length
        · rw [if_pos e4]; exact Nat.le_refl _
        · rw [if_neg e4]; exact hbb
      · have e4 : ¬ j = vs.length := by omega
        rw [if_neg e3, if_neg e4]
        exact Nat.le_refl _
  · simp only
    by_cases e : 0 < vs.length
    · rw [if_pos e]; exact h2
    · rw [if_neg e, if_pos (by omega)]; exact hb
  · simp only [List.length_append, List.length_cons, List.length_nil]
    rw [if_neg (by omega), if_neg (by omega)]
    exact Nat.le_refl _
  · simp only
    rcases Nat.lt_or_ge i vs.length with hi | hi
    · rw [List.getElem?_append_left hi] at hu
      rw [List.getElem?_append_left (by omega)] at hq
      rw [if_pos hi]
      have hw := h4 i u q hu hq
      by_cases e : i + 1 < vs.length
      · rw [if_pos e]; exact hw
      · have e2 : i + 1 = vs.length := by omega
        rw [if_neg e, if_pos e2]
        exact hw.mono (by rw [e2]; exact h3)
    · have hi2 : i = vs.length := by
        have := (List.getElem?_eq_some_iff.1 hu).1
        simp at this
        omega
      subst hi2
      rw [List.getElem?_append_right (Nat.le_refl _)] at hu
      rw [List.getElem?_append_right (by omega), hl] at hq
      simp at hu hq
      subst hu hq
      rw [if_neg (by omega), if_pos rfl, if_neg (by omega), if_neg (by omega)]
      exact hv
theorem Dn.each {bl Bl base : Nat} {W : World} {lv : Value} {vs : List Value} {ps : List (List Fd)} (h : Dn bl Bl base W lv vs ps) : ∀ (i : Nat) v p, vs[i]? = some v → ps[i]? = some p → Wh bl base W v p := fun i v p hv hp => by
  obtain ⟨c, h1, h2, h3, h4⟩ := h.win
  have hi := (List.getElem?_eq_some_iff.1 hv).1
  exact ((h4 i v p hv hp).lower (Nat.le_trans h2 (h1 0 i (Nat.zero_le _)))).mono (Nat.le_trans (h1 (i + 1) vs.length hi) h3)
theorem Dn.mono {bl Bl base base2 : Nat} {W : World} {lv : Value} {vs : List Value} {ps : List (List Fd)} (h : Dn bl Bl base W lv vs ps) (hb : base ≤ base2) : Dn bl Bl base2 W lv vs ps :=
  ⟨h.bx, Nat.lt_of_lt_of_le h.lt hb, h.row, fun g hg => Nat.lt_of_lt_of_le (h.rlt g hg) hb, h.len, h.win.mono hb⟩
theorem Dn.lower {bl bl2 Bl base : Nat} {W : World} {lv : Value} {vs : List Value} {ps : List (List Fd)} (h : Dn bl Bl base W lv vs ps) (hb : bl2 ≤ bl) : Dn bl2 Bl base W lv vs ps :=
  ⟨h.bx, h.lt, ownsRow_lower h.row hb, h.rlt, h.len, h.win.lower hb⟩
theorem Dn.keep {bl Bl base : Nat} {W W2 : World} {lv : Value} {vs : List Value} {ps : List (List Fd)} (h : Dn bl Bl base W lv vs ps)
    (hk : ∀ (k : Nat) (c : Array Value) (t : TypeId), (t = 24 ∨ t = 39 ∨ t = 49 ∨ t = 9 ∨ t = 3) → (k = Bl ∨ bl ≤ k) → k < base → W.heap[k]? = some (Obj.cells c t (0, 0)) → W2.heap[k]? = W.heap[k]?) : Dn bl Bl base W2 lv vs ps :=
  ⟨(hk _ _ 24 (.inl rfl) (.inl rfl) h.lt h.bx).trans h.bx, h.lt, ownsRow_same h.row fun g c hg hc => hk g c 39 (.inr (.inl rfl)) (.inr (ownsRow_blk h.row hg).choose_spec.2.1) (h.rlt g hg) hc, h.rlt, h.len,
   h.win.keep fun k c t ht hlo hlt hc => hk k c t (by rcases ht with h | h | h <;> simp [h]) (.inr hlo) hlt hc⟩

/-- WHAT A LOOP OVER THE LINES HOLDS. n0: the heap's size where it begins; B: the open paragraph's box. -/
structure Hold (n0 B Bl : Nat) (w0 W : World) (st : St) : Prop where
  env : Env w0 W
  err : st.err = none
  fr : ∀ k, k < n0 → k ≠ B → k ≠ Bl → W.heap[k]? = w0.heap[k]?
  sh : ∃ base lv vs, base ≤ W.heap.size ∧ (n0 + 2 ≤ base ∨ (st.p = [] ∧ W.heap[B]? = some (.cells #[.slice none 0 0, .map none] 76 (0, 0)))) ∧ Par base B W st.p ∧ Dn n0 Bl base W lv vs st.all
  hn : n0 ≤ W.heap.size

theorem Hold.cm {n0 B Bl : Nat} {w0 X Y : World} {st : St} (h : Hold n0 B Bl w0 X st) (hk : CM X Y) (hf : ∀ k, k < n0 → Y.heap[k]? = X.heap[k]?) : Hold n0 B Bl w0 Y st := by
  obtain ⟨base, lv, vs, h1, h2, h3, h4⟩ := h.sh
  refine ⟨h.env.trans hk.env, h.err, fun k hk1 hk2 hk3 => (hf k hk1).trans (h.fr k hk1 hk2 hk3), ⟨base, lv, vs, Nat.le_trans h1 hk.size, ?_, h3.cm hk, h4.keep fun k c t _ _ _ hc => hk.c k c t (0, 0) hc⟩, Nat.le_trans h.hn hk.size⟩
  rcases h2 with h2 | ⟨h2, h5⟩
  · exact .inl h2
  · exact .inr ⟨h2, (hk.c _ _ _ _ h5).trans h5⟩
/-- AN OPEN PARAGRAPH OF NOTHING. -/
theorem Par.fresh {B : Nat} {W : World} (base : Nat) (hB : B < base) (hb : base ≤ W.heap.size) (h : W.heap[B]? = some (.cells #[.slice none 0 0, .map none] 76 (0, 0))) : Par base B W [] :=
  ⟨⟨.slice none 0 0, .map none, [], h, rfl, ⟨World.ownsRow_nil _ _ _ _, fun x hx => (by cases hx), List.Pairwise.nil, List.Pairwise.nil⟩, .inl ⟨rfl, rfl⟩⟩, hB, hb⟩
/-- .. WITH THE LOOP'S OWN BLOCKS BELOW base. -/
theorem Hold.open' {n0 B Bl : Nat} {w0 W : World} {st : St} (h : Hold n0 B Bl w0 W st) (hB : B < n0) (hW : n0 + 1 < W.heap.size) :
    ∃ base lv vs, base ≤ W.heap.size ∧ n0 + 2 ≤ base ∧ Par base B W st.p ∧ Dn n0 Bl base W lv vs st.all := by
  obtain ⟨base, lv, vs, h1, h2, h3, h4⟩ := h.sh
  rcases h2 with h2 | ⟨h2, h5⟩
  · exact ⟨base, lv, vs, h1, h2, h3, h4⟩
  · exact ⟨W.heap.size, lv, vs, Nat.le_refl _, by omega, by rw [h2]; exact Par.fresh _ (by omega) (Nat.le_refl _) h5, h4.mono h1⟩

end Go.Proofs.YtiibobjbcgbknaaDoor
