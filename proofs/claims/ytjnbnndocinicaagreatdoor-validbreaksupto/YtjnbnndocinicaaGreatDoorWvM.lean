import Derived.Test.YtjnbnndocinicaaGreatDoorUmC
namespace Go.Proofs.YtjnbnndocinicaaGreatDoor
open Go.RowKit Go.Maps Go.Shelf

/-- THE MARKS THAT RANGES OVER FUNCTIONS LEAVE. -/
def mk1 (D : Nat) : Deferred := { target := .collected D, args := #[] }
def Mks (W : World) (lo : Nat) (Ds : List Nat) : Prop := Ds.Nodup ∧ ∀ D ∈ Ds, lo ≤ D ∧ W.heap[D]? = some (.deferred (some []))
/-- Nothing but blocks that are no cells, from lo on. -/
structure Sh (lo : Nat) (W W2 : World) : Prop where
  bel : RowKit.Below lo W W2
  cel : ∀ (b : Nat) cs t z, W.heap[b]? = some (Obj.cells cs t z) → W2.heap[b]? = some (Obj.cells cs t z)
theorem Sh.refl (lo : Nat) (W : World) : Sh lo W W := ⟨Below.refl _ _, fun _ _ _ _ h => h⟩
theorem Sh.trans {lo : Nat} {A B C : World} (h : Sh lo A B) (k : Sh lo B C) : Sh lo A C := ⟨h.bel.trans k.bel, fun b cs t z e => k.cel b cs t z (h.cel b cs t z e)⟩
theorem sh_put {lo : Nat} {W : World} {D : Nat} {o : Obj} (o2 : Obj) (hD : lo ≤ D) (h : W.heap[D]? = some o) (hc : o.isCells = false) (hw : o.isWalk = false) : Sh lo W (W.putObj D o2) := by
  refine ⟨?_, fun b cs t z e => ?_⟩
  · refine (Below.refl lo W).grown (grownBy_putObj' W D o2) ?_ (fun k e => by cases e; exact hD)
    have := (Array.getElem?_eq_some_iff.1 h).1
    omega
  · by_cases hb : b = D
    · subst hb; rw [h] at e; cases e; cases hc
    · exact (World.putObj_heap_other hb).trans e
theorem Sh.row {lo : Nat} {W W2 : World} (h : Sh lo W W2) {base e size n : Nat} {v : Value} {xs : List Value} (r : W.ownsRow base e size v n xs) : W2.ownsRow base e size v n xs := by
  refine ⟨r.1, ?_⟩
  rcases r.2 with z | ⟨g, cap, cur, h1, h2, h3, h4⟩
  · exact .inl z
  · exact .inr ⟨g, cap, cur, h1, h2, h.cel _ _ _ _ h3, h4⟩
theorem leaves_marks {F : Fence} {n : Nat} {P : Program} {fn : Func} {tmps : Array Value} {R : Ending → World → Prop} {lo : Nat} : ∀ (Ds : List Nat) (W : World), Mks W lo Ds → (∀ W2, Sh lo W W2 → LeavesInM F n P fn tmps R [] .returning W2) → LeavesInM F n P fn tmps R (Ds.map mk1) .returning W
  | [], W, _, h => h W (Sh.refl _ _)
  | D :: Ds, W, hM, h => by
    obtain ⟨hn, hm⟩ := hM
    obtain ⟨hD, hk⟩ := hm D (by simp)
    have s1 : Sh lo W (W.putObj D (.deferred none)) := sh_put _ hD hk rfl rfl
    refine ⟨by simp, .inl ⟨_, _, rfl, run_takeDeferred hk, ?_⟩⟩
    refine leaves_marks Ds _ ⟨(List.nodup_cons.1 hn).2, fun D2 h2 => ?_⟩ fun W2 h2 => h W2 (s1.trans h2)
    have hne : D2 ≠ D := fun e => (List.nodup_cons.1 hn).1 (e ▸ h2)
    exact ⟨(hm D2 (by simp [h2])).1, (World.putObj_heap_other hne).trans (hm D2 (by simp [h2])).2⟩
/-- WHAT A ROUND THAT GOES ON KEEPS: all below n, and two blocks. -/
structure Kb (n a b : Nat) (X Y : World) : Prop where
  bel : RowKit.Below n X Y
  ha : Y.heap[a]? = X.heap[a]?
  hb : Y.heap[b]? = X.heap[b]?
theorem Kb.trans {n a b : Nat} {X Y Z : World} (h : Kb n a b X Y) (k : Kb n a b Y Z) : Kb n a b X Z := ⟨h.bel.trans k.bel, k.ha.trans h.ha, k.hb.trans h.hb⟩
theorem Kb.put {n a b m : Nat} (hn : n ≤ m) (ha : a < m) (hb : b < m) (W : World) (l : Nat) (o o2 : Obj) (hl : m ≤ l) (h : W.heap[l]? = some o) (_ : o.isCells = false) (_ : o.isWalk = false) : Kb n a b W (W.putObj l o2) := by
  refine ⟨(Below.refl n W).grown (grownBy_putObj' W l o2) ?_ (fun k e => by cases e; omega), World.putObj_heap_other (by omega), World.putObj_heap_other (by omega)⟩
  have := (Array.getElem?_eq_some_iff.1 h).1
  omega
theorem Kb.alloc {n a b : Nat} (W : World) (o : Obj) (hn : n ≤ W.heap.size) (ha : a < W.heap.size) (hb : b < W.heap.size) : Kb n a b W (W.alloc o) := ⟨(Below.refl n W).alloc hn o, Below.heap_alloc _ _ _ ha, Below.heap_alloc _ _ _ hb⟩
theorem Kb.of {n a b : Nat} {X Y : World} (h : RowKit.Below X.heap.size X Y) (hn : n ≤ X.heap.size) (ha : a < X.heap.size) (hb : b < X.heap.size) : Kb n a b X Y := ⟨h.mono hn, h.block _ ha, h.block _ hb⟩
structure Iw (w0 : World) (Bs Ba : Nat) (S A : Obj) (X : World) : Prop where
  bel : RowKit.Below w0.heap.size w0 X
  s : X.heap[Bs]? = some S
  a : X.heap[Ba]? = some A
theorem Iw.later {w0 : World} {Bs Ba : Nat} {S A : Obj} {X Y : World} (h : Iw w0 Bs Ba S A X) (hb : RowKit.Below X.heap.size X Y) : Iw w0 Bs Ba S A Y := ⟨bl_t h.bel hb, (hb.block _ (blk_lt h.s)).trans h.s, (hb.block _ (blk_lt h.a)).trans h.a⟩
theorem Iw.kb {w0 : World} {Bs Ba : Nat} {S A : Obj} {X Y : World} (h : Iw w0 Bs Ba S A X) (k : Kb w0.heap.size Bs Ba X Y) : Iw w0 Bs Ba S A Y := ⟨h.bel.trans k.bel, k.ha.trans h.s, k.hb.trans h.a⟩
end Go.Proofs.YtjnbnndocinicaaGreatDoor
