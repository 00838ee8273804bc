import Derived.Test.YtohncccejlccbaaSqD
namespace Go.Proofs.Ytohncccejlccbaa
open Go.RowKit Go.Shelf

theorem blk_lt {W : World} {g : Nat} {o : Obj} (h : W.heap[g]? = some o) : g < W.heap.size := (Array.getElem?_eq_some_iff.1 h).1
theorem own_raise {W : World} {lo e s g n c m : Nat} {xs : List Value} (h : W.ownsRow 0 e s (.slice (some ⟨g, 0, none⟩) n c) m xs) (hg : lo ≤ g) : W.ownsRow lo e s (.slice (some ⟨g, 0, none⟩) n c) m xs := by
  refine ⟨h.1, ?_⟩
  rcases h.2 with ⟨e1, _⟩ | ⟨g', cap, cur, e1, _, h3⟩
  · cases e1
  · cases e1
    exact .inr ⟨g, c, cur, rfl, hg, h3⟩
/-- A FIELD THAT WAS LENT: ITS LINES AS THEY ARE NOW, ITS NUMBERS WHATEVER THEY ARE. -/
structure Fz (lo : Nat) (W : World) (x : Lf) (ls : List Bs) : Prop where
  l : W.ownsRow lo 9 1 (.slice (some ⟨x.lb, 0, none⟩) (ls.length + 2) x.lc) (ls.length + 2) (strs ls ++ markS)
  ll : ls.length = x.f.ls.length
  a : ∃ cur, W.heap[x.ab]? = some (.cells cur 3 (0, 0)) ∧ ∀ i, i < x.f.ns.length → ∃ n, cur[i]? = some (.int .i64 n)
  ga : lo ≤ x.ab
theorem Fz.same {lo : Nat} {W W2 : World} {x : Lf} {ls : List Bs} (h : Fz lo W x ls) (h1 : W2.heap[x.lb]? = W.heap[x.lb]?) (h2 : W2.heap[x.ab]? = W.heap[x.ab]?) : Fz lo W2 x ls := by
  obtain ⟨cur, c1, c2⟩ := h.a
  exact ⟨ownsRow_same h.l fun g c hg hc => by cases hg; exact h1, h.ll, ⟨cur, h2.trans c1, c2⟩, h.ga⟩
theorem Fz.lblk {lo : Nat} {W : World} {x : Lf} {ls : List Bs} (h : Fz lo W x ls) : ∃ c, W.heap[x.lb]? = some (.cells c 9 (0, 0)) := by
  obtain ⟨c, h1, _⟩ := ownsRow_blk h.l (g := x.lb) rfl
  exact ⟨c, h1⟩
theorem LqOk.fz {lo : Nat} {W : World} {q : Lq} (h : LqOk lo W q) : ∀ x ∈ q.xs, Fz lo W x x.f.ls := fun x hx => by
  obtain ⟨h1, h2, h3, h4⟩ := h.f x hx
  refine ⟨own_raise h1.l h2, rfl, ?_, h4⟩
  obtain ⟨c, c1, _⟩ := ownsRow_blk h1.a (g := x.ab) rfl
  refine ⟨c, c1, fun i hi => ?_⟩
  have e := (row_cells h1.a).2 i (.int .i64 (x.f.ns[i])) (by rw [List.getElem?_append_left (by simpa [intz] using hi)]; simp [intz, hi])
  rw [(cell_blk c1 i).1] at e
  exact ⟨_, e⟩
def updE (E : Nat → List Bs) (b : Nat) (l : List Bs) : Nat → List Bs := fun k => if k = b then l else E k
/-- WHAT WAS LENT, WHILE IT IS WRITTEN OVER. -/
structure Aw (lo : Nat) (lg lgc : Nat) (m1 m2 : Value) (pb pc : Nat) (E : Nat → List Bs) (q1 : Lq) (xs : List Lf) (W : World) : Prop where
  l : W.ownsRow lo 22 1 (.slice (some ⟨lg, 0, none⟩) 4 lgc) 4 [.slice (some ⟨pb, 0, none⟩) xs.length pc, pcell q1, m1, m2]
  p : W.ownsRow lo 30 3 (.slice (some ⟨pb, 0, none⟩) (xs.length + 2) pc) (xs.length + 2) (xs.flatMap cellsL ++ markF)
  f : ∀ x ∈ xs, Fz lo W x (E x.lb)
  p1 : W.ownsRow lo 30 3 (.slice (some ⟨q1.pb, 0, none⟩) (q1.xs.length + 2) q1.pc) (q1.xs.length + 2) (q1.xs.flatMap cellsL ++ markF)
  f1 : ∀ x ∈ q1.xs, Fz lo W x x.f.ls
theorem Aw.later {lo lg lgc : Nat} {m1 m2 : Value} {pb pc : Nat} {E : Nat → List Bs} {q1 : Lq} {xs : List Lf} {W W2 : World} (h : Aw lo lg lgc m1 m2 pb pc E q1 xs W) (hb : Below W.heap.size W W2) : Aw lo lg lgc m1 m2 pb pc E q1 xs W2 := by
  have k : ∀ x ls, Fz lo W x ls → Fz lo W2 x ls := fun x ls hf => by
    obtain ⟨c, c1⟩ := hf.lblk
    obtain ⟨d, d1, _⟩ := hf.a
    exact hf.same (hb.block _ (blk_lt c1)) (hb.block _ (blk_lt d1))
  exact ⟨ownsRow_bl h.l hb, ownsRow_bl h.p hb, fun x hx => k _ _ (h.f x hx), ownsRow_bl h.p1 hb, fun x hx => k _ _ (h.f1 x hx)⟩
theorem strs_set (ls : List Bs) (ms : List Value) (b : Nat) (s : Bs) (hb : b < ls.length) : (strs ls ++ ms).set b (.string (ba s)) = strs (ls.set b s) ++ ms := by
  rw [List.set_append_left _ _ (by simpa [strs] using hb)]
  simp [strs, List.map_set]
theorem set_ne {W : World} {g h j : Nat} {c d : Array Value} {t u : TypeId} {v : Value} (hg : W.heap[g]? = some (.cells c t (0, 0))) (hh : W.heap[h]? = some (.cells d u (0, 0))) (ht : t ≠ u) : (W.setCell ⟨g, j, none⟩ v).heap[h]? = W.heap[h]? := set_other _ _ _ _ _ fun e => by
  subst e
  rw [hg] at hh
  cases hh
  exact ht rfl
/-- WHAT STAYS: ALL BELOW, AND THE LISTS OF LISTS. -/
structure Bk (lo : Nat) (w W : World) : Prop where
  bel : Below lo w W
  kp : ∀ (k : Nat) (c : Array Value) (t : TypeId), (t = 22 ∨ t = 25) → w.heap[k]? = some (.cells c t (0, 0)) → W.heap[k]? = w.heap[k]?
theorem Bk.refl (lo : Nat) (w : World) : Bk lo w w := ⟨Below.refl _ _, fun _ _ _ _ _ => rfl⟩
theorem Bk.size {lo : Nat} {w W : World} (h : Bk lo w W) : w.heap.size ≤ W.heap.size := h.bel.size
theorem Bk.set {lo : Nat} {w W : World} (h : Bk lo w W) {g j : Nat} {c : Array Value} {t : TypeId} (hg : W.heap[g]? = some (.cells c t (0, 0))) (h1 : t ≠ 22) (h2 : t ≠ 25) (hl : lo ≤ g) (u : Value) : Bk lo w (W.setCell ⟨g, j, none⟩ u) :=
  ⟨h.bel.setCell (p := ⟨g, j, none⟩) hl u, fun k d s hs hk => by
    have e := h.kp k d s hs hk
    refine (set_ne hg (e.trans hk) fun q => ?_).trans e
    subst q
    rcases hs with rfl | rfl
    · exact h1 rfl
    · exact h2 rfl⟩
theorem Bk.later {lo : Nat} {w W W2 : World} (h : Bk lo w W) (hb : Below W.heap.size W W2) (hl : lo ≤ W.heap.size) : Bk lo w W2 :=
  ⟨h.bel.trans (hb.mono hl), fun k d s hs hk => (hb.block k (Nat.lt_of_lt_of_le (blk_lt hk) h.bel.size)).trans (h.kp k d s hs hk)⟩
theorem Bk.drew {lo : Nat} {w W : World} (h : Bk lo w W) : Bk lo w W.drew := ⟨h.bel.drew, h.kp⟩
/-- A line is written. -/
theorem Aw.setL {lo lg lgc : Nat} {m1 m2 : Value} {pb pc : Nat} {E : Nat → List Bs} {q1 : Lq} {xs : List Lf} {W : World} (h : Aw lo lg lgc m1 m2 pb pc E q1 xs W) (hi : ∀ x ∈ xs, ∀ y ∈ xs, x.lb = y.lb → x = y) (hd : ∀ x ∈ xs, ∀ y ∈ q1.xs, x.lb ≠ y.lb) {x : Lf} (hx : x ∈ xs) {b : Nat} (hb : b < (E x.lb).length) (s : Bs) :
    Aw lo lg lgc m1 m2 pb pc (updE E x.lb ((E x.lb).set b s)) q1 xs (W.setCell ⟨x.lb, b, none⟩ (.string (ba s))) := by
  obtain ⟨c, c1⟩ := (h.f x hx).lblk
  have ok : ∀ {k : Nat} {d : Array Value} {u : TypeId}, 9 ≠ u → W.heap[k]? = some (.cells d u (0, 0)) → (W.setCell ⟨x.lb, b, none⟩ (.string (ba s))).heap[k]? = W.heap[k]? := fun hu hk => set_ne c1 hk hu
  have oth : ∀ y ls, Fz lo W y ls → x.lb ≠ y.lb → Fz lo (W.setCell ⟨x.lb, b, none⟩ (.string (ba s))) y ls := fun y ls hf hne => by
    obtain ⟨d, d1, _⟩ := hf.a
    exact hf.same (set_other _ _ _ _ _ fun e => hne e.symm) (ok (by decide) d1)
  refine ⟨ownsRow_same h.l fun g c _ hc => ok (by decide) hc, ownsRow_same h.p fun g c _ hc => ok (by decide) hc, fun y hy => ?_, ownsRow_same h.p1 fun g c _ hc => ok (by decide) hc, fun y hy => oth y _ (h.f1 y hy) (hd x hx y hy)⟩
  by_cases e : x.lb = y.lb
  · obtain rfl := hi x hx y hy e
    have e1 : updE E x.lb ((E x.lb).set b s) x.lb = (E x.lb).set b s := if_pos rfl
    rw [e1]
    obtain ⟨d, d1, d2⟩ := (h.f x hx).a
    refine ⟨?_, by rw [List.length_set]; exact (h.f x hx).ll, ⟨d, (ok (by decide) d1).trans d1, d2⟩, (h.f x hx).ga⟩
    have r := ((h.f x hx).l.stored b (.string (ba s))).1
    rw [strs_set _ _ _ _ hb] at r
    rw [List.length_set]
    exact r
  · have e1 : updE E x.lb ((E x.lb).set b s) y.lb = E y.lb := if_neg (fun q => e q.symm)
    rw [e1]
    exact oth y _ (h.f y hy) e
/-- A number is written. -/
theorem Aw.setA {lo lg lgc : Nat} {m1 m2 : Value} {pb pc : Nat} {E : Nat → List Bs} {q1 : Lq} {xs : List Lf} {W : World} (h : Aw lo lg lgc m1 m2 pb pc E q1 xs W) {x : Lf} (hx : x ∈ xs) (b : Nat) (n : Int) :
    Aw lo lg lgc m1 m2 pb pc E q1 xs (W.setCell ⟨x.ab, b, none⟩ (.int .i64 n)) := by
  obtain ⟨c, c1, c2⟩ := (h.f x hx).a
  have ok : ∀ {k : Nat} {d : Array Value} {u : TypeId}, 3 ≠ u → W.heap[k]? = some (.cells d u (0, 0)) → (W.setCell ⟨x.ab, b, none⟩ (.int .i64 n)).heap[k]? = W.heap[k]? := fun hu hk => set_ne c1 hk hu
  have all : ∀ y ls, Fz lo W y ls → Fz lo (W.setCell ⟨x.ab, b, none⟩ (.int .i64 n)) y ls := fun y ls hf => by
    refine ⟨ownsRow_same hf.l fun g c _ hc => ok (by decide) hc, hf.ll, ?_, hf.ga⟩
    obtain ⟨d, d1, d2⟩ := hf.a
    by_cases e : y.ab = x.ab
    · rw [e] at d1 ⊢
      refine ⟨_, set_blk d1 b _, fun i hi => ?_⟩
      by_cases eb : b = i
      · subst eb
        obtain ⟨m, hm⟩ := d2 b hi
        have hlt := (Array.getElem?_eq_some_iff.1 hm).1
        exact ⟨n, by simp [hlt]⟩
      · rw [Array.getElem?_setIfInBounds_ne eb]
        exact d2 i hi
    · exact ⟨d, (set_other _ _ _ _ _ e).trans d1, d2⟩
  exact ⟨ownsRow_same h.l fun g c _ hc => ok (by decide) hc, ownsRow_same h.p fun g c _ hc => ok (by decide) hc, fun y hy => all _ _ (h.f y hy), ownsRow_same h.p1 fun g c _ hc => ok (by decide) hc, fun y hy => all _ _ (h.f1 y hy)⟩
/-- Three cells of a row of fields are written. -/
def set3 (l : List Value) (i : Nat) (a b c : Value) : List Value := ((l.set (i * 3) a).set (i * 3 + 1) b).set (i * 3 + 2) c
theorem set3_L : ∀ (xs : List Lf) (ms : List Value) (i : Nat) (y : Lf), i < xs.length → set3 (xs.flatMap cellsL ++ ms) i (.string (ba y.f.nm)) (.slice (some ⟨y.lb, 0, none⟩) y.f.ls.length y.lc) (.slice (some ⟨y.ab, 0, none⟩) y.f.ns.length y.ac) = (xs.set i y).flatMap cellsL ++ ms
  | [], _, _, _, h => absurd h (Nat.not_lt_zero _)
  | x :: r, ms, 0, y, _ => by simp [set3, cellsL]
  | x :: r, ms, i + 1, y, h => by
    have ih := set3_L r ms i y (by simpa using h)
    unfold set3 at ih ⊢
    rw [List.set_cons_succ, List.flatMap_cons, List.flatMap_cons, List.append_assoc, List.append_assoc, ← ih, show (i + 1) * 3 = i * 3 + 3 by omega, show i * 3 + 3 + 1 = (i * 3 + 1) + 3 by omega, show i * 3 + 3 + 2 = (i * 3 + 2) + 3 by omega]
    rfl
def put3 (W : World) (g i : Nat) (a b c : Value) : World := ((W.setCell ⟨g, i * 3, none⟩ a).setCell ⟨g, i * 3 + 1, none⟩ b).setCell ⟨g, i * 3 + 2, none⟩ c
theorem put3_row {W : World} {lo g n c : Nat} {xs : List Value} {e : TypeId} (h : W.ownsRow lo e 3 (.slice (some ⟨g, 0, none⟩) n c) n xs) (i : Nat) (u v w : Value) : (put3 W g i u v w).ownsRow lo e 3 (.slice (some ⟨g, 0, none⟩) n c) n (set3 xs i u v w) := (((h.stored _ _).1.stored _ _).1.stored _ _).1
theorem put3_other (W : World) (g i : Nat) (u v w : Value) (k : Nat) (hk : k ≠ g) : (put3 W g i u v w).heap[k]? = W.heap[k]? := (set_other _ _ _ _ _ hk).trans ((set_other _ _ _ _ _ hk).trans (set_other _ _ _ _ _ hk))
theorem put3_below {lo : Nat} {w W : World} (h : Below lo w W) (g i : Nat) (hg : lo ≤ g) (u v x : Value) : Below lo w (put3 W g i u v x) := ((h.setCell (p := ⟨g, i * 3, none⟩) hg u).setCell (p := ⟨g, i * 3 + 1, none⟩) hg v).setCell (p := ⟨g, i * 3 + 2, none⟩) hg x
theorem put3_bk {lo : Nat} {w W : World} (h : Bk lo w W) {g : Nat} {c : Array Value} (hg : W.heap[g]? = some (.cells c 30 (0, 0))) (i : Nat) (hl : lo ≤ g) (u v x : Value) : Bk lo w (put3 W g i u v x) ∧ ∃ c, (put3 W g i u v x).heap[g]? = some (.cells c 30 (0, 0)) :=
  ⟨((h.set hg (by decide) (by decide) hl u).set (set_blk hg _ _) (by decide) (by decide) hl v).set (set_blk (set_blk hg _ _) _ _) (by decide) (by decide) hl x, _, set_blk (set_blk (set_blk hg _ _) _ _) _ _⟩
/-- Two fields are exchanged. -/
def fput (W : World) (g i : Nat) (y : Lf) : World := put3 W g i (.string (ba y.f.nm)) (.slice (some ⟨y.lb, 0, none⟩) y.f.ls.length y.lc) (.slice (some ⟨y.ab, 0, none⟩) y.f.ns.length y.ac)
theorem Aw.swap {lo lg lgc : Nat} {m1 m2 : Value} {pb pc : Nat} {E : Nat → List Bs} {q1 : Lq} {xs : List Lf} {W : World} (h : Aw lo lg lgc m1 m2 pb pc E q1 xs W) (hp : pb ≠ q1.pb) {i j : Nat} (hi : i < xs.length) (hj : j < xs.length) :
    Aw lo lg lgc m1 m2 pb pc E q1 ((xs.set i xs[j]).set j xs[i]) (fput (fput W pb i xs[j]) pb j xs[i]) := by
  obtain ⟨c, c1⟩ := own_cells h.p
  have ne : ∀ {k : Nat} {d : Array Value} {u : TypeId}, 30 ≠ u → W.heap[k]? = some (.cells d u (0, 0)) → k ≠ pb := fun hu hk e => by
    subst e
    rw [c1] at hk
    cases hk
    exact hu rfl
  have ok : ∀ {k : Nat}, k ≠ pb → (fput (fput W pb i xs[j]) pb j xs[i]).heap[k]? = W.heap[k]? := fun hk => (put3_other _ _ _ _ _ _ _ hk).trans (put3_other _ _ _ _ _ _ _ hk)
  have fz : ∀ y ls, Fz lo W y ls → Fz lo (fput (fput W pb i xs[j]) pb j xs[i]) y ls := fun y ls hf => by
    obtain ⟨d, d1⟩ := hf.lblk
    obtain ⟨e, e1, _⟩ := hf.a
    exact hf.same (ok (ne (by decide) d1)) (ok (ne (by decide) e1))
  have hlen : ((xs.set i xs[j]).set j xs[i]).length = xs.length := by simp
  refine ⟨?_, ?_, fun y hy => ?_, ownsRow_same h.p1 fun g c hg hc => ok fun e => hp (by cases hg; exact e.symm), fun y hy => fz _ _ (h.f1 y hy)⟩
  · rw [hlen]
    exact ownsRow_same h.l fun g c _ hc => ok (ne (by decide) hc)
  · rw [hlen]
    have r := put3_row (put3_row h.p i (.string (ba xs[j].f.nm)) (.slice (some ⟨xs[j].lb, 0, none⟩) xs[j].f.ls.length xs[j].lc) (.slice (some ⟨xs[j].ab, 0, none⟩) xs[j].f.ns.length xs[j].ac)) j (.string (ba xs[i].f.nm)) (.slice (some ⟨xs[i].lb, 0, none⟩) xs[i].f.ls.length xs[i].lc) (.slice (some ⟨xs[i].ab, 0, none⟩) xs[i].f.ns.length xs[i].ac)
    rw [set3_L xs markF i xs[j] hi, set3_L (xs.set i xs[j]) markF j xs[i] (by simpa using hj)] at r
    exact r
  · rcases List.mem_or_eq_of_mem_set hy with hy | rfl
    · rcases List.mem_or_eq_of_mem_set hy with hy | rfl
      · exact fz _ _ (h.f y hy)
      · exact fz _ _ (h.f _ (List.getElem_mem hj))
    · exact fz _ _ (h.f _ (List.getElem_mem hi))
/-- The cells of a field. -/
theorem Aw.at {lo lg lgc : Nat} {m1 m2 : Value} {pb pc : Nat} {E : Nat → List Bs} {q1 : Lq} {xs : List Lf} {W : World} (h : Aw lo lg lgc m1 m2 pb pc E q1 xs W) {i : Nat} (hi : i < xs.length) : W.cell? ⟨pb, i * 3, none⟩ = some (.string (ba xs[i].f.nm)) ∧ W.cell? ⟨pb, i * 3 + 1, none⟩ = some (.slice (some ⟨xs[i].lb, 0, none⟩) xs[i].f.ls.length xs[i].lc) ∧ W.cell? ⟨pb, i * 3 + 2, none⟩ = some (.slice (some ⟨xs[i].ab, 0, none⟩) xs[i].f.ns.length xs[i].ac) ∧ (∀ j, W.frozen? ⟨pb, j, none⟩ = false) := by
  obtain ⟨c, c1⟩ := own_cells h.p
  have hl : (xs.flatMap cellsL).length = xs.length * 3 := cellsL_len xs
  have key : ∀ j u, (xs.flatMap cellsL)[j]? = some u → W.cell? ⟨pb, j, none⟩ = some u := fun j u hj => (row_cells h.p).2 j u (by
    have := (List.getElem?_eq_some_iff.1 hj).1
    rw [List.getElem?_append_left this]
    exact hj)
  exact ⟨key _ _ (cellsL_get xs i xs[i] 0 _ (List.getElem?_eq_getElem hi) rfl), key _ _ (cellsL_get xs i xs[i] 1 _ (List.getElem?_eq_getElem hi) rfl), key _ _ (cellsL_get xs i xs[i] 2 _ (List.getElem?_eq_getElem hi) rfl), fun j => (cell_blk c1 j).2⟩
theorem Fz.line {lo : Nat} {W : World} {x : Lf} {ls : List Bs} (h : Fz lo W x ls) {b : Nat} (hb : b < ls.length) : W.cell? ⟨x.lb, b, none⟩ = some (.string (ba ls[b])) ∧ W.frozen? ⟨x.lb, b, none⟩ = false := by
  obtain ⟨c, c1⟩ := h.lblk
  exact ⟨(row_cells h.l).2 b _ (by rw [List.getElem?_append_left (by simpa [strs] using hb)]; simp [strs, hb]), (cell_blk c1 b).2⟩
theorem Fz.num {lo : Nat} {W : World} {x : Lf} {ls : List Bs} (h : Fz lo W x ls) {b : Nat} (hb : b < x.f.ns.length) : ∃ n, W.cell? ⟨x.ab, b, none⟩ = some (.int .i64 n) ∧ W.frozen? ⟨x.ab, b, none⟩ = false := by
  obtain ⟨c, c1, c2⟩ := h.a
  obtain ⟨n, hn⟩ := c2 b hb
  exact ⟨n, (cell_blk c1 b).1.trans hn, (cell_blk c1 b).2⟩
/-- Each of some has one: all have. -/
theorem pick {α β : Type} {R : α → β → Prop} : ∀ (l : List α), (∀ x ∈ l, ∃ y, R x y) → ∃ m : List β, m.length = l.length ∧ ∀ (i : Nat) (x : α) (y : β), l[i]? = some x → m[i]? = some y → R x y
  | [], _ => ⟨[], rfl, fun i x y h => by simp at h⟩
  | x :: l, h => by
    obtain ⟨y, hy⟩ := h x List.mem_cons_self
    obtain ⟨m, h1, h2⟩ := pick l fun z hz => h z (List.mem_cons_of_mem _ hz)
    refine ⟨y :: m, by simp [h1], fun i a b ha hb => ?_⟩
    cases i with
    | zero => simp at ha hb; subst ha; subst hb; exact hy
    | succ i => exact h2 i a b (by simpa using ha) (by simpa using hb)
/-- What a field shows. -/
theorem Fz.gd {lo : Nat} {W : World} {x : Lf} {ls : List Bs} (h : Fz lo W x ls) : ∃ f : Gd, f.nm = x.f.nm ∧ f.ls = ls ∧ f.ns.length = x.f.ns.length ∧ ls.length ≤ x.lc ∧ Cl W (some ⟨x.lb, 0, none⟩) (strs ls) ∧ Cl W (some ⟨x.ab, 0, none⟩) (intz f.ns) := by
  obtain ⟨c, c1, c2⟩ := h.a
  have hx : ∀ i ∈ List.range x.f.ns.length, ∃ n : Int, c[i]? = some (.int .i64 n) := fun i hi => c2 i (List.mem_range.1 hi)
  obtain ⟨ns, n1, n2⟩ := pick _ hx
  rw [List.length_range] at n1
  refine ⟨⟨x.f.nm, ls, ns⟩, rfl, rfl, n1, by have := (row_cells h.l).1; omega, cl_left (row_cells h.l).2, fun _ => ⟨x.ab, 0, rfl, fun i u hi => ?_⟩⟩
  rw [Nat.zero_add, (cell_blk c1 i).1]
  simp only [intz, List.getElem?_map] at hi
  cases hq : ns[i]? with
  | none => rw [hq] at hi; cases hi
  | some n =>
    rw [hq] at hi
    cases hi
    have hlt := (List.getElem?_eq_some_iff.1 hq).1
    exact n2 i i n (by rw [List.getElem?_range (by omega)]) hq
/-- What a paragraph shows. -/
theorem par_of {lo : Nat} {W : World} {pb pc : Nat} {G : Lf → List Bs} {xs : List Lf} (hp : W.ownsRow lo 30 3 (.slice (some ⟨pb, 0, none⟩) (xs.length + 2) pc) (xs.length + 2) (xs.flatMap cellsL ++ markF)) (hf : ∀ x ∈ xs, Fz lo W x (G x)) :
    ∃ p : List Gd, p.length = xs.length ∧ ParZ W (.slice (some ⟨pb, 0, none⟩) xs.length pc) p ∧ ∀ (i : Nat) (x : Lf) (f : Gd), xs[i]? = some x → p[i]? = some f → f.nm = x.f.nm ∧ f.ls = G x ∧ f.ns.length = x.f.ns.length := by
  obtain ⟨p, p1, p2⟩ := pick xs fun x hx => (hf x hx).gd
  refine ⟨p, p1, ⟨_, _, by rw [p1], by have := (row_cells hp).1; omega, fun _ => ⟨pb, 0, rfl, fun i f hi => ?_⟩⟩, fun i x f hx hf => by obtain ⟨h1, h2, h3, _⟩ := p2 i x f hx hf; exact ⟨h1, h2, h3⟩⟩
  have hlt : i < xs.length := by have := (List.getElem?_eq_some_iff.1 hi).1; omega
  obtain ⟨h1, h2, h3, h4, h5, h6⟩ := p2 i xs[i] f (List.getElem?_eq_getElem hlt) hi
  have key : ∀ j u, (cellsL xs[i])[j]? = some u → W.cell? ⟨pb, 0 + i * 3 + j, none⟩ = some u := fun j u hu => by
    have hk := cellsL_get xs i xs[i] j u (List.getElem?_eq_getElem hlt) hu
    rw [Nat.zero_add]
    refine (row_cells hp).2 _ _ ?_
    rw [List.getElem?_append_left (List.getElem?_eq_some_iff.1 hk).1]
    exact hk
  have hll := (hf xs[i] (List.getElem_mem hlt)).ll
  refine ⟨by rw [h1]; exact key 0 _ rfl, ⟨some ⟨xs[i].lb, 0, none⟩, xs[i].lc, by rw [h2, hll]; exact key 1 _ rfl, by rw [h2]; exact h4, by rw [h2]; exact h5⟩, ⟨some ⟨xs[i].ab, 0, none⟩, xs[i].ac, by rw [h3]; exact key 2 _ rfl, h6⟩⟩
theorem docZ_one {W : World} {b : Nat} {u : Value} {p : List Gd} (h : W.cell? ⟨b, 0, none⟩ = some u) (k : ParZ W u p) : DocZ W (.slice (some ⟨b, 0, none⟩) 1 1) [p] := ⟨_, _, rfl, fun _ => ⟨b, 0, rfl, fun i x hi => by
  cases i with
  | zero => cases hi; exact ⟨u, h, k⟩
  | succ i => simp at hi⟩⟩
theorem docZ_two {W : World} {b c : Nat} {u v : Value} {p q : List Gd} (h : W.cell? ⟨b, 0, none⟩ = some u) (h2 : W.cell? ⟨b, 1, none⟩ = some v) (k : ParZ W u p) (k2 : ParZ W v q) : DocZ W (.slice (some ⟨b, 0, none⟩) 2 c) [p, q] := ⟨_, _, rfl, fun _ => ⟨b, 0, rfl, fun i x hi => by
  rcases i with _ | _ | i
  · cases hi; exact ⟨u, h, k⟩
  · cases hi; exact ⟨v, h2, k2⟩
  · simp at hi⟩⟩
end Go.Proofs.Ytohncccejlccbaa
