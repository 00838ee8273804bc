import Derived.Test.YtfembjjpmjfklaaDoorRefG
import Derived.Test.YtfembjjpmjfklaaDoorLawB
namespace Go.Proofs.YtfembjjpmjfklaaDoor
open Go.RowKit

theorem Fr.set3 {T : Nat → Prop} {W wr : World} (h : Fr T W wr) {g k : Nat} (hT : T g) (x y z : Value) : Fr T W (((wr.setCell ⟨g, k, none⟩ x).setCell ⟨g, k + 1, none⟩ y).setCell ⟨g, k + 2, none⟩ z) := ((h.setCell hT x).setCell hT y).setCell hT z

/-- WHAT written READS OF THE ROW. -/
theorem OwnC.cellAt {T : Nat → Prop} {lo : Nat} {W : World} {g N c : Nat} {vs : List Value} {cl : List (List Am)} (h : OwnC T lo W (.slice (some ⟨g, 0, none⟩) N c) vs cl) {k : Nat} {x : Value} (hx : vs[k]? = some x) : W.cell? ⟨g, k, none⟩ = some x := by
  have hn : cl.length = N := by rcases h.row.2 with ⟨e, _⟩ | ⟨_, _, _, e, _⟩ <;> cases e; rfl
  have h0 := h.row
  rw [hn] at h0
  have := World.ownsRow.cells (g := g) h0 rfl k _ hx
  rw [Go.WideShapes.add_plain] at this
  simpa using this
theorem OwnC.elem {T : Nat → Prop} {lo : Nat} {W : World} {v : Value} {vs : List Value} {cl : List (List Am)} (h : OwnC T lo W v vs cl) {k : Nat} (hk : k < cl.length) : ∃ xa, vs[k]? = some (.slice xa cl[k].length cl[k].length) ∧ OwnA lo W (.slice xa cl[k].length cl[k].length) cl[k] ∧ cl[k].length ≤ 16777217 := by
  obtain ⟨x, h1, h2, ⟨xa, rfl⟩, h3⟩ := h.el k hk
  exact ⟨xa, h1, h2, h3⟩
/-- .. AT ONE CLAUSE: its value stays, whatever is written. -/
theorem OwnC.one {T : Nat → Prop} {lo : Nat} {W : World} {v : Value} {vs : List Value} {cl : List (List Am)} (h : OwnC T lo W v vs cl) {k L : Nat} {xa : Option Addr} (hx : vs[k]? = some (.slice xa L L)) : ∃ hk : k < cl.length, cl[k].length = L ∧ OwnA lo W (.slice xa L L) cl[k] := by
  have hl : vs.length = cl.length := by simpa using h.row.1
  have hk : k < cl.length := by rw [← hl]; exact (List.getElem?_eq_some_iff.1 hx).1
  obtain ⟨ya, h1, h2, h3⟩ := h.elem hk
  rw [hx] at h1
  cases h1
  exact ⟨hk, rfl, h2⟩
theorem OwnA.addr {base : Nat} {W : World} {xa : Option Addr} {L c : Nat} {al : List Am} (h : OwnA base W (.slice xa L c) al) (hL : 0 < L) : ∃ g, xa = some ⟨g, 0, none⟩ := by
  rcases h.2 with ⟨e, _⟩ | ⟨g, cap, cur, e, _⟩
  · cases e; omega
  · cases e; exact ⟨g, rfl⟩
theorem OwnC.addr {T : Nat → Prop} {lo : Nat} {W : World} {va : Option Addr} {N c : Nat} {vs : List Value} {cl : List (List Am)} (h : OwnC T lo W (.slice va N c) vs cl) (hN : 0 < N) : ∃ g, va = some ⟨g, 0, none⟩ := by
  rcases h.row.2 with ⟨e, _⟩ | ⟨g, cap, cur, e, _⟩
  · cases e; omega
  · cases e; exact ⟨g, rfl⟩

/-- AN ATOM OF A CLAUSE IS WRITTEN. -/
theorem OwnC.setEl {T : Nat → Prop} {lo : Nat} {W : World} {v : Value} {vs : List Value} {cl : List (List Am)} (h : OwnC T lo W v vs cl) {i g L : Nat} (hx : vs[i]? = some (.slice (some ⟨g, 0, none⟩) L L)) {k : Nat} (hk : k < L) (x : Am) (hi : i < cl.length) :
    OwnC T lo (((W.setCell ⟨g, k * 3, none⟩ (.string x.n)).setCell ⟨g, k * 3 + 1, none⟩ (.int .i64 x.op)).setCell ⟨g, k * 3 + 2, none⟩ (.string x.v)) v vs (cl.set i (cl[i].set k x)) := by
  obtain ⟨hi', hL, ho⟩ := h.one hx
  have hr : v.ownBlock ≠ some g := h.ar i _ hx g rfl
  refine ⟨?_, by rw [List.length_set]; exact h.big, fun j hj => ?_, h.ap, h.ar, h.tr, h.te⟩
  · rw [List.length_set]
    exact ownsRow_setCell_other (ownsRow_setCell_other (ownsRow_setCell_other h.row (a := ⟨g, _, none⟩) hr _) (a := ⟨g, _, none⟩) hr _) (a := ⟨g, _, none⟩) hr _
  · have hj' : j < cl.length := by rw [List.length_set] at hj; exact hj
    by_cases e : j = i
    · subst e
      have hg : (cl.set j (cl[j].set k x))[j]'hj = cl[j].set k x := by simp
      rw [hg]
      obtain ⟨ya, h1, h2, h3⟩ := h.elem hj'
      have hs := ho.set hL k hk x
      refine ⟨_, hx, hs, ⟨some ⟨g, 0, none⟩, ?_⟩, ?_⟩
      · rw [List.length_set, hL]
      · rw [List.length_set]; exact h3
    · have hg : (cl.set i (cl[i].set k x))[j]'hj = cl[j] := List.getElem_set_ne (fun e' => e e'.symm) _
      rw [hg]
      obtain ⟨y, h1, h2⟩ := h.el j hj'
      have hy : y.ownBlock ≠ some g := fun e2 => h.ap i j _ y hx h1 (fun e' => e e'.symm) g rfl e2
      exact ⟨y, h1, ownsRow_setCell_other (ownsRow_setCell_other (ownsRow_setCell_other h2.1 (a := ⟨g, _, none⟩) hy _) (a := ⟨g, _, none⟩) hy _) (a := ⟨g, _, none⟩) hy _, h2.2⟩

/-- WHAT HAS BEEN MARKED: all of the clauses ahead of i, of clause i the first k. -/
def Mk (cl : List (List Am)) (i k : Nat) : Prop := ∀ (j m : Nat) (hj : j < cl.length) (hm : m < cl[j].length), (j < i ∨ j = i ∧ m < k) → cl[j][m] = mk1 j
theorem Mk.start (cl : List (List Am)) : Mk cl 0 0 := fun j m hj hm h => by omega
theorem Mk.next {cl : List (List Am)} {i : Nat} (hil : i < cl.length) (h : ∀ hi : i < cl.length, Mk cl i cl[i].length) : Mk cl (i + 1) 0 := fun j m hj hm e => by
  by_cases e2 : j = i
  · subst e2
    exact h hj j m hj hm (.inr ⟨rfl, hm⟩)
  · by_cases hi : i < cl.length
    · exact h hi j m hj hm (.inl (by omega))
    · omega
theorem Mk.put {cl : List (List Am)} {i k : Nat} (h : Mk cl i k) (hi : i < cl.length) : Mk (cl.set i (cl[i].set k (mk1 i))) i (k + 1) := fun j m hj hm e => by
  have hj' : j < cl.length := by rw [List.length_set] at hj; exact hj
  by_cases e2 : j = i
  · subst e2
    have hg : (cl.set j (cl[j].set k (mk1 j)))[j]'hj = cl[j].set k (mk1 j) := by simp
    have hm' : m < cl[j].length := by rw [hg, List.length_set] at hm; exact hm
    have hq : ((cl.set j (cl[j].set k (mk1 j)))[j]'hj)[m]'hm = (cl[j].set k (mk1 j))[m]'(by rw [List.length_set]; exact hm') := by simp
    rw [hq]
    by_cases e3 : m = k
    · subst e3; simp
    · rw [List.getElem_set_ne (fun e' => e3 e'.symm)]
      exact h j m hj' hm' (.inr ⟨rfl, by omega⟩)
  · have hg : (cl.set i (cl[i].set k (mk1 i)))[j]'hj = cl[j] := List.getElem_set_ne (fun e' => e2 e'.symm) _
    have hm' : m < cl[j].length := by rw [hg] at hm; exact hm
    have hq : ((cl.set i (cl[i].set k (mk1 i)))[j]'hj)[m]'hm = cl[j][m]'hm' := by simp [hg]
    rw [hq]
    exact h j m hj' hm' (.inl (by omega))

/-- THE ROW'S CELL IS WRITTEN. -/
theorem ownsRow_setOne {W : World} {lo : Nat} {g N c : Nat} {vs : List Value} {u : Value} {k : Nat} (h : W.ownsRow lo 52 1 (.slice (some ⟨g, 0, none⟩) N c) N vs) : (W.setCell ⟨g, k, none⟩ u).ownsRow lo 52 1 (.slice (some ⟨g, 0, none⟩) N c) N (vs.set k u) := ownsRow_set h k u

/-- WHAT STANDS WHILE A ROW IS MARKED. -/
def St (T : Nat → Prop) (lo : Nat) (W : World) (v : Value) (vs : List Value) (N i k : Nat) (w : World) : Prop := ∃ cl : List (List Am), cl.length = N ∧ OwnC T lo w v vs cl ∧ Fr T W w ∧ Mk cl i k
theorem St.later {T : Nat → Prop} {lo : Nat} {W : World} {v : Value} {vs : List Value} {N i k : Nat} {w w' : World} (h : St T lo W v vs N i k w) (hb : Below w.heap.size w w') : St T lo W v vs N i k w' := by
  obtain ⟨cl, h1, h2, h3, h4⟩ := h
  exact ⟨cl, h1, h2.later hb, h3.below hb, h4⟩
theorem St.addr {T : Nat → Prop} {lo : Nat} {W : World} {va : Option Addr} {vc : Nat} {vs : List Value} {N i k : Nat} {w : World} (h : St T lo W (.slice va N vc) vs N i k w) (hN : 0 < N) : ∃ g, va = some ⟨g, 0, none⟩ := by
  obtain ⟨cl, h1, h2, -⟩ := h
  exact h2.addr hN
theorem St.elem {T : Nat → Prop} {lo : Nat} {W : World} {v : Value} {vs : List Value} {N i k : Nat} {w : World} (h : St T lo W v vs N i k w) {j : Nat} (hj : j < N) : ∃ xa L, vs[j]? = some (.slice xa L L) ∧ L ≤ 16777217 := by
  obtain ⟨cl, h1, h2, -⟩ := h
  obtain ⟨xa, e1, -, e2⟩ := h2.elem (k := j) (by omega)
  exact ⟨xa, _, e1, e2⟩
theorem St.eaddr {T : Nat → Prop} {lo : Nat} {W : World} {v : Value} {vs : List Value} {N i k : Nat} {w : World} (h : St T lo W v vs N i k w) {j : Nat} {xa : Option Addr} {L : Nat} (hx : vs[j]? = some (.slice xa L L)) (hL : 0 < L) : ∃ g, xa = some ⟨g, 0, none⟩ := by
  obtain ⟨cl, h1, h2, -⟩ := h
  obtain ⟨_, _, ho⟩ := h2.one hx
  exact ho.addr hL
theorem St.cell {T : Nat → Prop} {lo : Nat} {W : World} {g vc : Nat} {vs : List Value} {N i k : Nat} {w : World} (h : St T lo W (.slice (some ⟨g, 0, none⟩) N vc) vs N i k w) {j : Nat} {x : Value} (hx : vs[j]? = some x) : w.cell? ⟨g, j, none⟩ = some x ∧ g < w.heap.size := by
  obtain ⟨cl, h1, h2, -⟩ := h
  exact ⟨h2.cellAt hx, (h2.row.lt g rfl).2⟩
theorem St.spots {T : Nat → Prop} {lo : Nat} {W : World} {v : Value} {vs : List Value} {N i k : Nat} {w : World} (h : St T lo W v vs N i k w) {j g L : Nat} (hx : vs[j]? = some (.slice (some ⟨g, 0, none⟩) L L)) {m : Nat} (hm : m < L) :
    g < w.heap.size ∧ (∃ y : Am, w.cell? ⟨g, m * 3, none⟩ = some (.string y.n) ∧ w.cell? ⟨g, m * 3 + 1, none⟩ = some (.int .i64 y.op) ∧ w.cell? ⟨g, m * 3 + 2, none⟩ = some (.string y.v) ∧ ((j < i ∨ j = i ∧ m < k) → y = mk1 j)) ∧ w.frozen? ⟨g, m * 3, none⟩ = false ∧ w.frozen? ⟨g, m * 3 + 1, none⟩ = false ∧ w.frozen? ⟨g, m * 3 + 2, none⟩ = false := by
  obtain ⟨cl, h1, h2, -, h4⟩ := h
  obtain ⟨hj, hL, ho⟩ := h2.one hx
  obtain ⟨q0, q1, q2⟩ := ho.cells m (by omega)
  have hf : ∀ o, w.frozen? ⟨g, o, none⟩ = false := fun o => ownsRow_free (n := L) (by have h := ho; unfold OwnA at h; rw [hL] at h; exact h) o
  exact ⟨(World.ownsRow.lt ho g rfl).2, ⟨_, q0, q1, q2, fun e => h4 j m hj (by omega) e⟩, hf _, hf _, hf _⟩
theorem St.mark {T : Nat → Prop} {lo : Nat} {W : World} {v : Value} {vs : List Value} {N i k : Nat} {w : World} (h : St T lo W v vs N i k w) {g L : Nat} (hx : vs[i]? = some (.slice (some ⟨g, 0, none⟩) L L)) (hk : k < L) :
    St T lo W v vs N i (k + 1) (((w.setCell ⟨g, k * 3, none⟩ (.string ⟨#[77, 65, 82, 75]⟩)).setCell ⟨g, k * 3 + 1, none⟩ (.int .i64 i)).setCell ⟨g, k * 3 + 2, none⟩ (.string ⟨#[]⟩)) := by
  obtain ⟨cl, h1, h2, h3, h4⟩ := h
  obtain ⟨hj, hL, ho⟩ := h2.one hx
  exact ⟨_, by rw [List.length_set]; exact h1, h2.setEl hx hk (mk1 i) hj, h3.set3 (h2.te i _ hx g rfl) _ _ _, h4.put hj⟩
theorem St.next {T : Nat → Prop} {lo : Nat} {W : World} {v : Value} {vs : List Value} {N i L : Nat} {w : World} {xa : Option Addr} (h : St T lo W v vs N i L w) (hx : vs[i]? = some (.slice xa L L)) : St T lo W v vs N (i + 1) 0 w := by
  obtain ⟨cl, h1, h2, h3, h4⟩ := h
  obtain ⟨hj, hL, ho⟩ := h2.one hx
  exact ⟨cl, h1, h2, h3, Mk.next hj (fun hi => by rw [hL]; exact h4)⟩

theorem St.olds {T : Nat → Prop} {lo : Nat} {W : World} {v : Value} {vs : List Value} {N i k : Nat} {w : World} (h : St T lo W v vs N i k w) {j : Nat} {xa : Option Addr} {L : Nat} (hx : vs[j]? = some (.slice xa L L)) :
    ∃ olds : List Value, olds.length = L * 3 ∧ (xa = none → L = 0 ∧ L = 0) ∧ ∀ w', Below w.heap.size w w' → ∀ b, xa = some b → ∀ q u, olds[q]? = some u → w'.cell? (b.add q) = some u := by
  obtain ⟨cl, h1, h2, -⟩ := h
  obtain ⟨hj, hL, ho⟩ := h2.one hx
  refine ⟨cl[j].flatMap amCells, by rw [ho.1, hL], fun e => ?_, fun w' hb b e q u hq => ?_⟩
  · subst e
    rcases ho.2 with ⟨e, _⟩ | ⟨g, cap, cur, e, _⟩
    · cases e; exact ⟨rfl, rfl⟩
    · cases e
  · subst e
    have ho' := ho.later hb
    unfold OwnA at ho'
    rw [hL] at ho'
    rcases ho'.2 with ⟨e, _⟩ | ⟨g, cap, cur, e, _⟩
    · cases e
    · cases e
      exact World.ownsRow.cells (g := g) ho' rfl q u hq
theorem neqA (n : ByteArray) (op : Int) (v : ByteArray) (w : World) : (binOp .neq 34 (.agg #[.string n, .int .i64 op, .string v]) (.agg #[.string n, .int .i64 op, .string v])).run Tryd.prog w = .ok (.bool false) w := amV_neq n op v w

theorem Fr.fromAlloc {T : Nat → Prop} {w w' : World} {o : Obj} (h : Fr T (w.alloc o) w') : Fr T w w' :=
  ⟨h.os, h.tape, h.output, Nat.le_trans (by simp) h.size, fun g hg hn => (h.block g (by simp; omega) hn).trans (Below.heap_alloc w o g hg)⟩

end Go.Proofs.YtfembjjpmjfklaaDoor
