import Derived.Test.YtcdajbfoneifaaaDoorSoM
import Derived.Laws.OwnMore
import Derived.OwnWalk
import Derived.ArgAppend
import Derived.Deep.Onto
import Derived.Deep.AppendLies
import Derived.Deep.RegionHeld3
namespace Go.Proofs.YtcdajbfoneifaaaDoor
open Go.RowKit

def mi (i : Nat) : Int := -1 - (i : Int)
theorem owns_below {W W' : World} {base : Nat} {e : TypeId} {size : Nat} {v : Value} {n : Nat} {xs : List Value} (h : W.ownsRow base e size v n xs) (hb : Below W.heap.size W W') : W'.ownsRow base e size v n xs := by
  refine ⟨h.1, ?_⟩
  rcases h.2 with h' | ⟨g, cap, cur, h1, h2, h3, h4⟩
  · exact .inl h'
  · exact .inr ⟨g, cap, cur, h1, h2, (hb.block g (Array.getElem?_eq_some_iff.1 h3).1).trans h3, h4⟩

theorem owns_cell {W : World} {base : Nat} {g n cap : Nat} {xs : List Value} (h : W.ownsRow base 3 1 (.slice (some ⟨g, 0, none⟩) n cap) n xs) (k : Nat) (u : Value) (hk : xs[k]? = some u) : W.cell? ⟨g, k, none⟩ = some u := by
  have := h.cells (g := g) rfl k u hk
  by_cases e : k = 0
  · subst e; simpa [Addr.add] using this
  · simpa [Addr.add, e] using this

/-- THE FIVE LISTS, EACH IN A ROW OF ITS OWN. -/
structure PA (W : World) (base Lb : Nat) (vv : Nat → Value) (N : Nat → Nat) (f : Nat → List Value) : Prop where
  lst : ∀ i, i < 5 → W.cell? ⟨Lb, i, none⟩ = some (vv i)
  row : ∀ i, i < 5 → W.ownsRow base 3 1 (vv i) (N i) (f i)
  apart : ∀ i j, i < 5 → j < 5 → i ≠ j → (vv j).ownBlock = none ∨ (vv j).ownBlock ≠ (vv i).ownBlock
  far : ∀ i, i < 5 → (vv i).ownBlock ≠ some Lb
  lt : Lb < W.heap.size
  base_le : base ≤ Lb

theorem PA.later {W W' : World} {base Lb : Nat} {vv : Nat → Value} {N : Nat → Nat} {f : Nat → List Value} (h : PA W base Lb vv N f) (hb : Below W.heap.size W W') : PA W' base Lb vv N f :=
  ⟨fun i hi => (hb.cell (p := ⟨Lb, i, none⟩) h.lt).trans (h.lst i hi), fun i hi => owns_below (h.row i hi) hb, h.apart, h.far, Nat.lt_of_lt_of_le h.lt hb.size, h.base_le⟩

theorem PA.write {W : World} {base Lb : Nat} {vv : Nat → Value} {N : Nat → Nat} {f : Nat → List Value} (h : PA W base Lb vv N f) (i : Nat) (hi : i < 5) (g cap : Nat) (hv : vv i = .slice (some ⟨g, 0, none⟩) (N i) cap) (k : Nat) (u : Value) :
    PA (W.setCell ⟨g, k, none⟩ u) base Lb vv N (fun j => if j = i then (f i).set k u else f j) ∧ Below base W (W.setCell ⟨g, k, none⟩ u) := by
  have hr := h.row i hi
  rw [hv] at hr
  obtain ⟨h1, h2⟩ := hr.stored k u
  have hg : base ≤ g := (hr.lt g rfl).1
  have hgL : g ≠ Lb := fun e => h.far i hi (by rw [hv, ← e]; rfl)
  refine ⟨⟨fun j hj => ?_, fun j hj => ?_, h.apart, h.far, ?_, h.base_le⟩, (Below.refl base W).setCell (p := ⟨g, k, none⟩) hg u⟩
  · rw [World.cell?_setCell_other _ _ _ _ (by intro e; exact hgL (by have := congrArg Addr.block e; simpa using this))]
    exact h.lst j hj
  · by_cases e : j = i
    · subst e
      rw [if_pos rfl, hv]
      exact h1
    · rw [if_neg e]
      refine (h.row j hj).kept h2 ?_
      have := h.apart i j hi hj (fun e' => e e'.symm)
      rw [hv] at this
      exact this
  · exact Nat.lt_of_lt_of_le h.lt h2.size

def pli (i : Nat) : Int := -1000 - (i : Int)
def GL (n k i : Nat) : List Value := List.replicate n (.int .i64 (mi i)) ++ List.replicate k (.int .i64 (pli i))
theorem GL_zero (n i : Nat) : GL n 0 i = List.replicate n (.int .i64 (mi i)) := by simp [GL]
theorem GL_succ (n k i : Nat) : GL n (k + 1) i = GL n k i ++ [.int .i64 (pli i)] := by
  unfold GL
  rw [List.replicate_succ', List.append_assoc]
theorem GL_take (n k i : Nat) : (GL n k i).take n = List.replicate n (.int .i64 (mi i)) := by
  unfold GL
  rw [List.take_left' (by simp)]

/-- ROWS OF TWO TYPES ARE TWO BLOCKS. -/
theorem owns_types {W : World} {b1 b2 : Nat} {v u : Value} {n m : Nat} {xs ys : List Value} (h : W.ownsRow b1 24 1 v n xs) (k : W.ownsRow b2 3 1 u m ys) : v.ownBlock = none ∨ v.ownBlock ≠ u.ownBlock := by
  rcases h.2 with ⟨rfl, _⟩ | ⟨g, cap, cur, rfl, _, hg, _⟩
  · exact .inl rfl
  · refine .inr fun e => ?_
    rcases k.2 with ⟨rfl, _⟩ | ⟨g', cap', cur', rfl, _, hg', _⟩
    · simp [Value.ownBlock] at e
    · obtain rfl : g = g' := by simpa [Value.ownBlock] using e
      rw [hg] at hg'
      cases hg'

/-- A SHORTER SLICE OF A ROW. -/
theorem owns_prefix {W W' : World} {base base' : Nat} {v : Value} {g n m cap c : Nat} {xs ys zs : List Value} (hv : W.ownsRow base 3 1 v m zs) (hb : v.ownBlock = some g) (hx : W.ownsRow base' 3 1 (.slice (some ⟨g, 0, none⟩) n c) n xs)
    (h' : W'.ownsRow base' 3 1 (.slice (some ⟨g, 0, none⟩) cap c) cap ys) (hm : m ≤ cap) (ht : ys.take m = zs) : W'.ownsRow base 3 1 v m zs := by
  rcases hv.2 with ⟨rfl, _⟩ | ⟨g1, c1, cur1, rfl, a2, a3, a4, a5, a6, a7⟩
  · cases hb
  · obtain rfl : g1 = g := by simpa [Value.ownBlock] using hb
    rcases hx.2 with ⟨e, _⟩ | ⟨g2, c2, cur2, e, b2, b3, b4, b5, b6, b7⟩
    · cases e
    · cases e
      rcases h'.2 with ⟨e, _⟩ | ⟨g3, c3, cur3, e, d2, d3, d4, d5, d6, d7⟩
      · cases e
      · cases e
        have ec : cur1 = cur2 := by rw [a3] at b3; cases b3; rfl
        subst ec
        have : c1 = c := by omega
        subst this
        refine ⟨hv.1, .inr ⟨g1, c1, cur3, rfl, a2, d3, by omega, a5, d6, ?_⟩⟩
        rw [← ht, ← d7, List.take_take]
        congr 1
        omega

/-- THE SECOND LOOP'S STATE. -/
structure Q2 (W : World) (base Lb : Nat) (vv : Nat → Value) (N : Nat → Nat) (i : Nat) (lv : Value) (h hc : Nat → Nat) : Prop where
  pa : PA W base Lb vv N (fun j => List.replicate (N j) (.int .i64 (mi j)))
  own : W.ownsRow base 24 1 lv i ((List.range i).map fun j => .slice (some ⟨h j, 0, none⟩) (N j + 64) (hc j))
  lfar : lv.ownBlock ≠ some Lb
  rows : ∀ j, j < i → W.ownsRow base 3 1 (.slice (some ⟨h j, 0, none⟩) (N j + 64) (hc j)) (N j + 64) (GL (N j) 64 j)
  sep : ∀ j, j < i → ∀ m, i ≤ m → m < 5 → (vv m).ownBlock ≠ some (h j)
  hfar : ∀ j, j < i → h j ≠ Lb

theorem Q2.step {W W' : World} {base Lb : Nat} {vv : Nat → Value} {N : Nat → Nat} {i : Nat} {lv : Value} {h hc : Nat → Nat} {row : Option Nat} (q : Q2 W base Lb vv N i lv h hc) (hg : W.grownBy W' row)
    (h1 : row ≠ some Lb) (h2 : ∀ m, m < 5 → W'.ownsRow base 3 1 (vv m) (N m) (List.replicate (N m) (.int .i64 (mi m)))) (h3 : ∀ j, j < i → row ≠ some (h j)) (h4 : lv.ownBlock = none ∨ lv.ownBlock ≠ row) : Q2 W' base Lb vv N i lv h hc :=
  ⟨⟨fun m hm => hg.cell (a := ⟨Lb, m, none⟩) (q.pa.lst m hm) (fun e => h1 e.symm), h2, q.pa.apart, q.pa.far, Nat.lt_of_lt_of_le q.pa.lt hg.size, q.pa.base_le⟩, q.own.kept hg h4, q.lfar,
    fun j hj => (q.rows j hj).kept hg (.inr (fun e => h3 j hj e.symm)), q.sep, q.hfar⟩

/-- .. AND ITS INNER LOOP'S. -/
structure Q3 (W : World) (base Lb : Nat) (vv : Nat → Value) (N : Nat → Nat) (i : Nat) (lv : Value) (h hc : Nat → Nat) (k : Nat) (xv : Value) : Prop where
  q : Q2 W base Lb vv N i lv h hc
  x : W.ownsRow base 3 1 xv (N i + k) (GL (N i) k i)
  xw : xv.ownBlock = (vv i).ownBlock ∨ ∀ m, m < 5 → (vv m).ownBlock = none ∨ (vv m).ownBlock ≠ xv.ownBlock
  xfar : xv.ownBlock ≠ some Lb
  xsep : ∀ j, j < i → xv.ownBlock ≠ some (h j)

/-- ROOM: THE ROW ALONE TURNS. -/
theorem Q3.fits {W W' : World} {base Lb : Nat} {vv : Nat → Value} {N : Nat → Nat} {i : Nat} {lv : Value} {h hc : Nat → Nat} {k g c : Nat} (hi : i < 5) (q : Q3 W base Lb vv N i lv h hc k (.slice (some ⟨g, 0, none⟩) (N i + k) c))
    (hown : W'.ownsRow base 3 1 (.slice (some ⟨g, 0, none⟩) (N i + k + 1) c) (N i + k + 1) (GL (N i) k i ++ [.int .i64 (pli i)])) (hg : W.grownBy W' (some g)) :
    Q3 W' base Lb vv N i lv h hc (k + 1) (.slice (some ⟨g, 0, none⟩) (N i + k + 1) c) := by
  refine ⟨q.q.step hg q.xfar (fun m hm => ?_) q.xsep (owns_types q.q.own q.x), by rw [GL_succ]; exact hown, q.xw, q.xfar, q.xsep⟩
  by_cases e : (vv m).ownBlock = some g
  · have em : m = i := by
      rcases q.xw with e1 | e1
      · by_cases e2 : m = i
        · exact e2
        · have := q.q.pa.apart i m hi hm (fun e' => e2 e'.symm)
          rw [e] at this
          rcases this with h0 | h0
          · cases h0
          · exact absurd e1 h0
      · have := e1 m hm
        rw [e] at this
        rcases this with h0 | h0
        · cases h0
        · exact absurd rfl h0
    subst em
    exact owns_prefix (q.q.pa.row m hm) e q.x hown (by omega) (by rw [← GL_succ, GL_take])
  · refine (q.q.pa.row m hm).kept hg ?_
    exact .inr e

/-- NO ROOM: NOTHING OLD TURNS. -/
theorem Q3.grows {W W' : World} {base Lb : Nat} {vv : Nat → Value} {N : Nat → Nat} {i : Nat} {lv : Value} {h hc : Nat → Nat} {k : Nat} {xv v' : Value} (q : Q3 W base Lb vv N i lv h hc k xv)
    (hown : W'.ownsRow W.heap.size 3 1 v' (N i + k + 1) (GL (N i) k i ++ [.int .i64 (pli i)])) (hg : W.grownBy W' none) :
    Q3 W' base Lb vv N i lv h hc (k + 1) v' := by
  obtain ⟨g, c, cur, rfl, hb, _⟩ : ∃ g c cur, v' = .slice (some ⟨g, 0, none⟩) (N i + k + 1) c ∧ W.heap.size ≤ g ∧ W'.heap[g]? = some (.cells cur 3 (0, 0)) := by
    rcases hown.2 with ⟨_, h0⟩ | ⟨g, c, cur, h1, h2, h3, _⟩
    · omega
    · exact ⟨g, c, cur, h1, h2, h3⟩
  have hbl : base ≤ W.heap.size := Nat.le_trans q.q.pa.base_le (Nat.le_of_lt q.q.pa.lt)
  refine ⟨q.q.step hg (by simp) (fun m hm => (q.q.pa.row m hm).kept hg (by cases (vv m).ownBlock <;> simp)) (fun j hj => by simp) (by cases lv.ownBlock <;> simp), by rw [GL_succ]; exact hown.mono hbl, .inr (fun m hm => ?_), ?_, fun j hj => ?_⟩
  · by_cases e : (vv m).ownBlock = some g
    · have := ((q.q.pa.row m hm).lt g e).2
      omega
    · exact .inr e
  · intro e
    have e' : g = Lb := by simpa [Value.ownBlock] using e
    have := q.q.pa.lt
    omega
  · intro e
    have e' : g = h j := by simpa [Value.ownBlock] using e
    have := ((q.q.rows j hj).lt (h j) rfl).2
    omega

theorem infoT : (Tryd.prog.info? 24).map (fun i => (i.zero, i.size, i.bytes)) = some (some (.slice none 0 0), 1, 24) := by kernel_rfl

theorem Q2.later {W W' : World} {base Lb : Nat} {vv : Nat → Value} {N : Nat → Nat} {i : Nat} {lv : Value} {h hc : Nat → Nat} (q : Q2 W base Lb vv N i lv h hc) (hb : Below W.heap.size W W') : Q2 W' base Lb vv N i lv h hc :=
  ⟨q.pa.later hb, owns_below q.own hb, q.lfar, fun j hj => owns_below (q.rows j hj) hb, q.sep, q.hfar⟩
theorem Q3.later {W W' : World} {base Lb : Nat} {vv : Nat → Value} {N : Nat → Nat} {i : Nat} {lv : Value} {h hc : Nat → Nat} {k : Nat} {xv : Value} (q : Q3 W base Lb vv N i lv h hc k xv) (hb : Below W.heap.size W W') : Q3 W' base Lb vv N i lv h hc k xv :=
  ⟨q.q.later hb, owns_below q.x hb, q.xw, q.xfar, q.xsep⟩

/-- THE LONG LIST IS PUT TO THE OTHERS. -/
theorem Q3.put {W W' : World} {base Lb : Nat} {vv : Nat → Value} {N : Nat → Nat} {i : Nat} {lv : Value} {h hc : Nat → Nat} {g c G cap : Nat} (hi : i < 5) (q : Q3 W base Lb vv N i lv h hc 64 (.slice (some ⟨g, 0, none⟩) (N i + 64) c))
    (hown : W'.ownsRow base 24 1 (.slice (some ⟨G, 0, none⟩) (i + 1) cap) (i + 1) (((List.range i).map fun j => .slice (some ⟨h j, 0, none⟩) (N j + 64) (hc j)) ++ [.slice (some ⟨g, 0, none⟩) (N i + 64) c])) (hg : W.grownBy W' lv.ownBlock) (hat : lv.ownBlock = some G ∨ W.heap.size ≤ G) :
    Q2 W' base Lb vv N (i + 1) (.slice (some ⟨G, 0, none⟩) (i + 1) cap) (fun j => if j = i then g else h j) (fun j => if j = i then c else hc j) := by
  have hrow9 : ∀ {u : Value} {n : Nat} {xs : List Value}, W.ownsRow base 3 1 u n xs → W'.ownsRow base 3 1 u n xs := fun {u n xs} hu => by
    refine hu.kept hg ?_
    rcases owns_types q.q.own hu with e | e
    · rw [e]; cases u.ownBlock <;> simp
    · exact .inr (fun e' => e e'.symm)
  refine ⟨⟨fun m hm => hg.cell (a := ⟨Lb, m, none⟩) (q.q.pa.lst m hm) (fun e => q.q.lfar e.symm), fun m hm => hrow9 (q.q.pa.row m hm), q.q.pa.apart, q.q.pa.far, Nat.lt_of_lt_of_le q.q.pa.lt hg.size, q.q.pa.base_le⟩, ?_, ?_, fun j hj => ?_, fun j hj m hm1 hm2 => ?_, fun j hj => ?_⟩
  · rw [List.range_succ, List.map_append]
    have e : ((List.range i).map fun j => Value.slice (some ⟨if j = i then g else h j, 0, none⟩) (N j + 64) (if j = i then c else hc j)) = (List.range i).map fun j => .slice (some ⟨h j, 0, none⟩) (N j + 64) (hc j) := by
      apply List.map_congr_left
      intro j hj
      have : j < i := List.mem_range.1 hj
      rw [if_neg (by omega), if_neg (by omega)]
    rw [e]
    simpa using hown
  · intro e
    have e' : G = Lb := by simpa [Value.ownBlock] using e
    rcases hat with h1 | h1
    · exact q.q.lfar (by rw [h1, e'])
    · have := q.q.pa.lt
      omega
  · by_cases e : j = i
    · subst e
      simp only
      exact hrow9 q.x
    · simp only [if_neg e]
      exact hrow9 (q.q.rows j (by omega))
  · by_cases e : j = i
    · subst e
      simp only
      rcases q.xw with e1 | e1
      · intro e2
        have := q.q.pa.apart j m hi hm2 (by omega)
        rw [e2] at this
        rcases this with h0 | h0
        · cases h0
        · exact h0 e1
      · intro e2
        have := e1 m hm2
        rw [e2] at this
        rcases this with h0 | h0
        · cases h0
        · exact h0 rfl
    · simp only [if_neg e]
      exact q.q.sep j (by omega) m (by omega) hm2
  · by_cases e : j = i
    · subst e
      simp only
      intro e2
      exact q.xfar (by rw [← e2]; rfl)
    · simp only [if_neg e]
      exact q.q.hfar j (by omega)

end Go.Proofs.YtcdajbfoneifaaaDoor
