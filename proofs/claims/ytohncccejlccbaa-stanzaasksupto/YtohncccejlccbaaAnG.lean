import Derived.Test.YtohncccejlccbaaAnE
namespace Go.Proofs.Ytohncccejlccbaa
open Go.RowKit Go.Shelf

theorem lt_inj {l : List Nat} (h : l.Pairwise (· < ·)) : ∀ (i j a : Nat), l[i]? = some a → l[j]? = some a → i = j := fun i j a hi hj => by
  obtain ⟨hi1, hi2⟩ := List.getElem?_eq_some_iff.1 hi
  obtain ⟨hj1, hj2⟩ := List.getElem?_eq_some_iff.1 hj
  rw [List.pairwise_iff_getElem] at h
  rcases Nat.lt_trichotomy i j with q | q | q
  · have := h i j hi1 hj1 q
    omega
  · exact q
  · have := h j i hj1 hi1 q
    omega
/-- The lines by their block. -/
def E0 (xs : List Lf) (b : Nat) : List Bs := ((xs.find? fun x => x.lb == b).map (·.f.ls)).getD []
/-- What was lent may be written over. -/
theorem LN.aw {lo : Nat} {W : World} {lg lgc m1 m2 : Nat} {P F : Value} {q0 q1 : Lq} (h : LN lo W lg lgc P F [q0, q1] m1 m2) : Aw lo lg lgc (.slice (some ⟨m1, 0, none⟩) 1 1) (.slice (some ⟨m2, 0, none⟩) 1 1) q0.pb q0.pc (E0 q0.xs) q1 q0.xs W ∧ (∀ x ∈ q0.xs, E0 q0.xs x.lb = x.f.ls) ∧ Hx q0.xs q1 q0.pb := by
  have hs := h.s
  simp only [List.flatMap_cons, List.flatMap_nil, List.append_nil] at hs
  rw [List.pairwise_append] at hs
  obtain ⟨s1, s2, s3⟩ := hs
  have inj : ∀ (i j : Nat) (x y : Lf), q0.xs[i]? = some x → q0.xs[j]? = some y → x.lb = y.lb → i = j := fun i j x y hi hj e => lt_inj s1 i j x.lb (by rw [List.getElem?_map, hi]; rfl) (by rw [List.getElem?_map, hj, e]; rfl)
  have dj : ∀ x ∈ q0.xs, ∀ y ∈ q1.xs, x.lb ≠ y.lb := fun x hx y hy e => by
    have := s3 x.lb (List.mem_map_of_mem hx) y.lb (List.mem_map_of_mem hy)
    omega
  have hq0 := h.q q0 (by simp)
  have hq1 := h.q q1 (by simp)
  have hE : ∀ x ∈ q0.xs, E0 q0.xs x.lb = x.f.ls := fun x hx => by
    unfold E0
    cases hf : q0.xs.find? (fun y => y.lb == x.lb) with
    | none =>
      have := List.find?_eq_none.1 hf x hx
      simp at this
    | some y =>
      have h1 := List.find?_some hf
      have h2 := List.mem_of_find?_eq_some hf
      obtain ⟨i, hi⟩ := List.getElem?_of_mem hx
      obtain ⟨j, hj⟩ := List.getElem?_of_mem h2
      have e : y.lb = x.lb := by simpa using h1
      obtain rfl := inj i j x y hi hj e.symm
      rw [hi] at hj
      cases hj
      rfl
  refine ⟨⟨h.l, hq0.p, fun x hx => by rw [hE x hx]; exact hq0.fz x hx, hq1.p, hq1.fz⟩, hE, ⟨inj, dj, fun hne e => ?_⟩⟩
  -- two rows in one block
  obtain ⟨x, r, hxr⟩ : ∃ x r, q0.xs = x :: r := by
    cases hx : q0.xs with
    | nil => exact absurd hx hne
    | cons x r => exact ⟨x, r, rfl⟩
  have c0 := (row_cells hq0.p).2 1 (.slice (some ⟨x.lb, 0, none⟩) x.f.ls.length x.lc) (by rw [hxr]; rfl)
  cases hy : q1.xs with
  | nil =>
    have c1 := (row_cells hq1.p).2 1 (.slice none 0 0) (by rw [hy]; rfl)
    rw [← e, c0] at c1
    cases c1
  | cons y s =>
    have c1 := (row_cells hq1.p).2 1 (.slice (some ⟨y.lb, 0, none⟩) y.f.ls.length y.lc) (by rw [hy]; rfl)
    rw [← e, c0] at c1
    injection c1 with c1
    injection c1 with c1
    injection c1 with c1
    injection c1 with c1
    exact dj x (by rw [hxr]; exact List.mem_cons_self) y (by rw [hy]; exact List.mem_cons_self) c1
/-- What it shows then. -/
theorem Aw.doc {lo lg lgc : Nat} {m1 m2 : Value} {pb pc : Nat} {E : Nat → List Bs} {q1 : Lq} {xs : List Lf} {W : World} (h : Aw lo lg lgc m1 m2 pb pc E q1 xs W) : ∃ p0 p1 : List Gd, DocZ W (.slice (some ⟨lg, 0, none⟩) 2 lgc) [p0, p1] ∧ p0.length = xs.length ∧ p1.length = q1.xs.length ∧ (∀ f ∈ p0, ∃ x ∈ xs, f.ls.length = x.f.ls.length ∧ f.ns.length = x.f.ns.length ∧ f.nm = x.f.nm) ∧ ∀ f ∈ p1, ∃ x ∈ q1.xs, f.ls.length = x.f.ls.length ∧ f.ns.length = x.f.ns.length ∧ f.nm = x.f.nm := by
  obtain ⟨p0, a1, a2, a3⟩ := par_of (G := fun x => E x.lb) h.p h.f
  obtain ⟨p1, b1, b2, b3⟩ := par_of (G := fun x => x.f.ls) h.p1 h.f1
  refine ⟨p0, p1, docZ_two ((row_cells h.l).2 0 _ rfl) ((row_cells h.l).2 1 _ rfl) a2 b2, a1, b1, fun f hf => ?_, fun f hf => ?_⟩
  · obtain ⟨i, hi⟩ := List.getElem?_of_mem hf
    have hl := (List.getElem?_eq_some_iff.1 hi).1
    obtain ⟨x, hx⟩ : ∃ x, xs[i]? = some x := ⟨_, List.getElem?_eq_getElem (by omega)⟩
    obtain ⟨e1, e2, e3⟩ := a3 i x f hx hi
    exact ⟨x, List.mem_of_getElem? hx, by rw [e2]; exact (h.f x (List.mem_of_getElem? hx)).ll, e3, e1⟩
  · obtain ⟨i, hi⟩ := List.getElem?_of_mem hf
    have hl := (List.getElem?_eq_some_iff.1 hi).1
    obtain ⟨x, hx⟩ : ∃ x, q1.xs[i]? = some x := ⟨_, List.getElem?_eq_getElem (by omega)⟩
    obtain ⟨e1, e2, e3⟩ := b3 i x f hx hi
    exact ⟨x, List.mem_of_getElem? hx, by rw [e2], e3, e1⟩
/-- A PARAGRAPH IN NEW MEMORY, ITS FIRST NAME PERHAPS LONGER. -/
def PN (b : Nat) (W : World) (v : Value) (p : List Gd) (m M : Nat) : Prop := ∃ p2, PTZ b W v p2 ∧ p2.length = p.length ∧ (∀ f ∈ p2, f.ls.length ≤ 16777216) ∧ (∀ f g, p[0]? = some f → p2[0]? = some g → f.nm.length + m ≤ g.nm.length ∧ g.nm.length ≤ f.nm.length + M)
theorem PTZ.form {b : Nat} {W : World} {v : Value} {p : List Gd} (h : PTZ b W v p) : ∃ a c, v = .slice a p.length c ∧ p.length ≤ c ∧ (0 < p.length → ∃ g, a = some ⟨g, 0, none⟩ ∧ b ≤ g ∧ ∃ cur f, W.heap[g]? = some (.cells cur 30 (0, 0)) ∧ p[0]? = some f ∧ cur[0]? = some (.string (ba f.nm))) := by
  obtain ⟨xs, e, h1, h2⟩ := h
  have hl : xs.length = p.length := by rw [← e, List.length_map]
  rw [hl] at h1
  rcases h1.2 with ⟨e1, e2⟩ | ⟨g, cap, cur, e1, h3, h4, h5, h6, h7, h8⟩
  · subst e1
    refine ⟨none, 0, by rw [← e2], by omega, fun h0 => ?_⟩
    omega
  · subst e1
    refine ⟨_, cap, rfl, h5, fun h0 => ⟨g, rfl, h3, cur, ?_⟩⟩
    cases xs with
    | nil => simp at hl; omega
    | cons x r =>
      refine ⟨x.f, h4, by rw [← e]; rfl, ?_⟩
      exact take_get h8 (by rfl)
theorem PTZ.later {b : Nat} {W W2 : World} {v : Value} {p : List Gd} (h : PTZ b W v p) (hb : Below W.heap.size W W2) : PTZ b W2 v p := h.keep (Nat.le_refl _) fun _ _ _ _ hc => hb.block _ (blk_lt hc)
theorem PN.later {b : Nat} {W W2 : World} {v : Value} {p : List Gd} {m M : Nat} (h : PN b W v p m M) (hb : Below W.heap.size W W2) : PN b W2 v p m M := by
  obtain ⟨p2, h1, h2⟩ := h
  exact ⟨p2, h1.later hb, h2⟩
theorem ba_inj {a b : Bs} (h : ba a = ba b) : a = b := by
  have := congrArg (fun x => x.data.toList) h
  exact this
/-- The first name of a paragraph is written. -/
theorem PN.write {b : Nat} {W : World} {v : Value} {p : List Gd} {m M g : Nat} {cur : Array Value} {t : Bs} (h : PN b W v p m M) (hg : W.heap[g]? = some (.cells cur 30 (0, 0))) (ht : cur[0]? = some (.string (ba t))) :
    PN b (W.setCell ⟨g, 0, none⟩ (.string (ba (t ++ [120])))) v p m (M + 1) ∧ (v.ownBlock = some g → PN b (W.setCell ⟨g, 0, none⟩ (.string (ba (t ++ [120])))) v p (m + 1) (M + 1)) := by
  obtain ⟨p2, ⟨xs, e, h1, h2⟩, hl, hs, hn⟩ := h
  have fk : ∀ x, FtokZ W x → FtokZ (W.setCell ⟨g, 0, none⟩ (.string (ba (t ++ [120])))) x := fun x hx => ⟨ownsRow_same hx.l fun k c _ hc => set_ne hg hc (by decide), ownsRow_same hx.a fun k c _ hc => set_ne hg hc (by decide)⟩
  by_cases hv : v.ownBlock = some g
  · obtain ⟨cv, hvv⟩ : ∃ cv, v = .slice (some ⟨g, 0, none⟩) xs.length cv := by
      rcases h1.2 with ⟨e1, _⟩ | ⟨g', cap, c', e1, _⟩
      · subst e1; cases hv
      · subst e1; cases hv; exact ⟨_, rfl⟩
    subst hvv
    have st := (h1.stored 0 (.string (ba (t ++ [120])))).1
    cases xs with
    | nil =>
      have ep : p2 = [] := by rw [← e]; rfl
      subst ep
      have : PN b (W.setCell ⟨g, 0, none⟩ (.string (ba (t ++ [120])))) (.slice (some ⟨g, 0, none⟩) ([] : List FtZ).length cv) p (m + 1) (M + 1) := ⟨[], ⟨[], rfl, st, fun x hx => by cases hx⟩, hl, hs, fun f g _ h => by simp at h⟩
      have h0 : PN b (W.setCell ⟨g, 0, none⟩ (.string (ba (t ++ [120])))) (.slice (some ⟨g, 0, none⟩) ([] : List FtZ).length cv) p m (M + 1) := ⟨[], ⟨[], rfl, st, fun x hx => by cases hx⟩, hl, hs, fun f g _ h => by simp at h⟩
      exact ⟨h0, fun _ => this⟩
    | cons x r =>
      have hx : x.f.nm = t := by
        have := (row_cells h1).2 0 (.string (ba x.f.nm)) rfl
        rw [(cell_blk hg 0).1, ht] at this
        injection this with this
        injection this with this
        exact (ba_inj this).symm
      have st2 : (W.setCell ⟨g, 0, none⟩ (.string (ba (t ++ [120])))).ownsRow b 30 3 (.slice (some ⟨g, 0, none⟩) (x :: r).length cv) (x :: r).length (((⟨⟨t ++ [120], x.f.ls, x.f.ns⟩, x.lv, x.av⟩ : FtZ) :: r).flatMap cellsZ) := st
      have ep : p2 = x.f :: r.map (·.f) := e.symm
      subst ep
      have pt : PTZ b (W.setCell ⟨g, 0, none⟩ (.string (ba (t ++ [120])))) (.slice (some ⟨g, 0, none⟩) (x :: r).length cv) (⟨t ++ [120], x.f.ls, x.f.ns⟩ :: r.map (·.f)) := ⟨(⟨⟨t ++ [120], x.f.ls, x.f.ns⟩, x.lv, x.av⟩ : FtZ) :: r, rfl, st2, fun y hy => by
        rcases List.mem_cons.1 hy with rfl | hy
        · have hk := fk x (h2 x List.mem_cons_self)
          exact ⟨hk.l, hk.a⟩
        · exact fk y (h2 y (List.mem_cons_of_mem _ hy))⟩
      have hls : ∀ f ∈ ((⟨t ++ [120], x.f.ls, x.f.ns⟩ : Gd) :: r.map (·.f)), f.ls.length ≤ 16777216 := fun f hf => by
        rcases List.mem_cons.1 hf with rfl | hf
        · exact hs x.f List.mem_cons_self
        · exact hs f (List.mem_cons_of_mem _ hf)
      refine ⟨⟨_, pt, by simpa using hl, hls, fun f g hf hg => ?_⟩, fun _ => ⟨_, pt, by simpa using hl, hls, fun f g hf hg => ?_⟩⟩
      · cases hg
        have := hn f x.f hf rfl
        rw [hx] at this
        simp only [List.length_append, List.length_cons, List.length_nil]
        omega
      · cases hg
        have := hn f x.f hf rfl
        rw [hx] at this
        simp only [List.length_append, List.length_cons, List.length_nil]
        omega
  · refine ⟨⟨p2, ⟨xs, e, ownsRow_same h1 fun k c hk hc => set_other _ _ _ _ _ fun e => hv (by rw [hk, e]), fun x hx => fk x (h2 x hx)⟩, hl, hs, fun f g hf hg => ?_⟩, fun q => absurd q hv⟩
    have := hn f g hf hg
    omega
/-- TWO PARAGRAPHS IN NEW MEMORY. -/
def NW (b : Nat) (u : Value) (v0 v1 : Value) (p0 p1 : List Gd) (i : Nat) (W : World) : Prop := W.ownsRow b 22 1 u 2 [v0, v1] ∧ PN b W v0 p0 (if 0 < i then 1 else 0) i ∧ PN b W v1 p1 (if 1 < i then 1 else 0) i
theorem TwO.nw {b : Nat} {W : World} {u : Value} {p0 p1 : List Gd} (h : TwO b W u [p0, p1]) (hs : ∀ f, f ∈ p0 ∨ f ∈ p1 → f.ls.length ≤ 16777216) : ∃ v0 v1, NW b u v0 v1 p0 p1 0 W := by
  obtain ⟨vs, h1, h2, h3⟩ := h
  match vs, h1 with
  | [v0, v1], _ =>
    refine ⟨v0, v1, h2, ⟨p0, h3 0 v0 p0 rfl rfl, rfl, fun f hf => hs f (.inl hf), fun f g h1 h2 => ?_⟩, ⟨p1, h3 1 v1 p1 rfl rfl, rfl, fun f hf => hs f (.inr hf), fun f g h1 h2 => ?_⟩⟩
    · rw [h1] at h2; cases h2; exact ⟨Nat.le_refl _, Nat.le_refl _⟩
    · rw [h1] at h2; cases h2; exact ⟨Nat.le_refl _, Nat.le_refl _⟩
theorem NW.later {b : Nat} {u v0 v1 : Value} {p0 p1 : List Gd} {i : Nat} {W W2 : World} (h : NW b u v0 v1 p0 p1 i W) (hb : Below W.heap.size W W2) : NW b u v0 v1 p0 p1 i W2 := ⟨ownsRow_bl h.1 hb, h.2.1.later hb, h.2.2.later hb⟩
/-- Behind all of it: the same just if there is nothing. -/
theorem NW.fin {b : Nat} {u v0 v1 : Value} {p0 p1 : List Gd} {W : World} (h : NW b u v0 v1 p0 p1 2 W) : ∃ r0 r1, DocZ W u [r0, r1] ∧ r0.length = p0.length ∧ r1.length = p1.length ∧ (∀ f, f ∈ r0 ∨ f ∈ r1 → f.ls.length ≤ 16777216) ∧ eqDz [r0, r1] [p0, p1] = decide (p0.length + p1.length = 0) := by
  obtain ⟨h1, ⟨r0, a1, a2, a3, a4⟩, ⟨r1, b1, b2, b3, b4⟩⟩ := h
  refine ⟨r0, r1, docZ_of (vs := [v0, v1]) rfl h1 (fun i v p h2 h3 => ?_), a2, b2, fun f hf => hf.elim (a3 f) (b3 f), ?_⟩
  · rcases i with _ | _ | i
    · cases h2; cases h3; exact a1.parZ
    · cases h2; cases h3; exact b1.parZ
    · simp at h2
  · have no : ∀ (r p : List Gd) (f : Gd), r.length = p.length → (∀ f g, p[0]? = some f → r[0]? = some g → f.nm.length + 1 ≤ g.nm.length ∧ g.nm.length ≤ f.nm.length + 2) → p[0]? = some f → eqPz r p = false := fun r p f hl hn hf => by
      obtain ⟨g, hg⟩ : ∃ g, r[0]? = some g := ⟨_, List.getElem?_eq_getElem (by have := (List.getElem?_eq_some_iff.1 hf).1; omega)⟩
      have h := (hn f g hf hg).1
      refine eqPz_no (k := 0) hg hf ?_
      unfold eqG
      have : (g.nm == f.nm) = false := by
        rw [beq_eq_false_iff_ne]
        intro e
        rw [e] at h
        omega
      rw [this]
      rfl
    cases p0 with
    | cons f r =>
      rw [eqDz_no (k := 0) (f := r0) (g := f :: r) rfl rfl (no r0 (f :: r) f a2 a4 rfl)]
      simp
    | nil => cases p1 with
      | cons f r =>
        rw [eqDz_no (k := 1) (f := r1) (g := f :: r) rfl rfl (no r1 (f :: r) f b2 b4 rfl)]
        simp
      | nil =>
        have e0 : r0 = [] := List.length_eq_zero_iff.1 a2
        have e1 : r1 = [] := List.length_eq_zero_iff.1 b2
        subst e0
        subst e1
        rw [eqDz_refl]
        rfl
end Go.Proofs.Ytohncccejlccbaa
