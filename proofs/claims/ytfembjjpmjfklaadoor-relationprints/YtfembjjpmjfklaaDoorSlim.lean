import Derived.Test.YtfembjjpmjfklaaDoorRelX
import Derived.Test.YtfembjjpmjfklaaDoorSameB
import Derived.OneCell
namespace Go.Proofs.YtfembjjpmjfklaaDoor
open Go.RowKit

theorem ba_inj {s t : ByteArray} (h : s.data.toList = t.data.toList) : s = t := ByteArray.ext (Array.ext' h)
theorem ownRow_shape {W : World} {base : Nat} {e : TypeId} {z : Nat} {v : Value} {n : Nat} {xs : List Value} (h : W.ownsRow base e z v n xs) : ∃ a c, v = .slice a n c := by
  rcases h.2 with ⟨rfl, rfl⟩ | ⟨g, cap, cur, rfl, _⟩
  · exact ⟨_, _, rfl⟩
  · exact ⟨_, _, rfl⟩
theorem ownRow_own {W : World} {base : Nat} {e : TypeId} {z : Nat} {v : Value} {n : Nat} {xs : List Value} (h : W.ownsRow base e z v n xs) : ∀ k, v.ownBlock = some k → base ≤ k := fun k hk => (h.lt k hk).1
theorem info9c : (Tryd.prog.info? 9).map (fun i => (i.zero, i.size, i.bytes)) = some (some (.string ⟨#[]⟩), 1, 16) := by kernel_rfl
theorem Sts.shape {w : World} {v : Value} {L : List ByteArray} (h : Sts w v L) : ∃ a c, v = .slice a L.length c := by
  obtain ⟨a, c, e, _⟩ := h
  exact ⟨a, c, e⟩
theorem ownsRow_mono {W : World} {b b' : Nat} {e : TypeId} {z : Nat} {v : Value} {n : Nat} {xs : List Value} (h : W.ownsRow b' e z v n xs) (hb : b ≤ b') : W.ownsRow b e z v n xs := by
  obtain ⟨h1, h2⟩ := h
  refine ⟨h1, ?_⟩
  rcases h2 with h2 | ⟨g, cap, cur, e1, e2, e3⟩
  · exact .inl h2
  · exact .inr ⟨g, cap, cur, e1, Nat.le_trans hb e2, e3⟩
/-- A ROW OF THESE ATOMS, ALL ITS OWN. -/
def OwnA (base : Nat) (W : World) (v : Value) (al : List Am) : Prop := W.ownsRow base 34 3 v al.length (al.flatMap amCells)
theorem OwnA.mono {b b' : Nat} {W : World} {v : Value} {al : List Am} (h : OwnA b' W v al) (hb : b ≤ b') : OwnA b W v al := ownsRow_mono h hb
/-- A ROW OF THESE TEXTS, ALL ITS OWN. -/
def OwnS (base : Nat) (W : World) (v : Value) (al : List ByteArray) : Prop := W.ownsRow base 9 1 v al.length (al.map Value.string)
theorem OwnS.mono {b b' : Nat} {W : World} {v : Value} {al : List ByteArray} (h : OwnS b' W v al) (hb : b ≤ b') : OwnS b W v al := ownsRow_mono h hb
theorem OwnA.later {b : Nat} {W W' : World} {v : Value} {al : List Am} (h : OwnA b W v al) (hb : Below W.heap.size W W') : OwnA b W' v al := ownsRow_below h hb
theorem OwnS.later {b : Nat} {W W' : World} {v : Value} {al : List ByteArray} (h : OwnS b W v al) (hb : Below W.heap.size W W') : OwnS b W' v al := ownsRow_below h hb
/-- A CELL OF A ROW OF THE CALL'S OWN IS WRITTEN. -/
theorem ownsRow_set {W : World} {base : Nat} {e : TypeId} {z g n cap : Nat} {xs : List Value} (h : W.ownsRow base e z (.slice (some ⟨g, 0, none⟩) n cap) n xs) (k : Nat) (u : Value) :
    (W.setCell ⟨g, k, none⟩ u).ownsRow base e z (.slice (some ⟨g, 0, none⟩) n cap) n (xs.set k u) := by
  obtain ⟨h1, h2⟩ := h
  refine ⟨by rw [List.length_set]; exact h1, ?_⟩
  rcases h2 with ⟨h2, _⟩ | ⟨g', cap', cur, hv, hg, hh, r1, r2, r3, r4⟩
  · cases h2
  · cases hv
    refine Or.inr ⟨g, cap, cur.setIfInBounds k u, rfl, hg, ?_, r1, r2, by simpa using r3, ?_⟩
    · have hlt := lt_of_block hh
      have h' : W.heap[g] = .cells cur e (0, 0) := by simpa [Array.getElem?_eq_getElem hlt] using hh
      show (W.heap.modify g _)[g]? = _
      rw [Array.getElem?_eq_getElem (by simpa using hlt), Array.getElem_modify_self, h']
      rfl
    · rw [Array.toList_setIfInBounds, List.take_set, r4]
theorem ownsRow_free {W : World} {base : Nat} {e : TypeId} {z g n cap : Nat} {xs : List Value} (h : W.ownsRow base e z (.slice (some ⟨g, 0, none⟩) n cap) n xs) (k : Nat) : W.frozen? ⟨g, k, none⟩ = false := by
  rcases h.2 with ⟨h2, _⟩ | ⟨g', cap', cur, hv, hg, hh, _⟩
  · cases h2
  · cases hv
    simp [World.frozen?, hh]
theorem set3 (x : Am) : ∀ (al : List Am) (i : Nat), i < al.length → (((al.flatMap amCells).set (i * 3) (.string x.n)).set (i * 3 + 1) (.int .i64 x.op)).set (i * 3 + 2) (.string x.v) = (al.set i x).flatMap amCells
  | [], i, h => absurd h (Nat.not_lt_zero _)
  | a :: al, 0, _ => rfl
  | a :: al, i + 1, h => by
    have ih := set3 x al i (Nat.lt_of_succ_lt_succ h)
    have e : (i + 1) * 3 = i * 3 + 1 + 1 + 1 := by omega
    rw [e]
    show ((((amCells a ++ al.flatMap amCells).set (i * 3 + 1 + 1 + 1) _).set (i * 3 + 1 + 1 + 1 + 1) _).set (i * 3 + 1 + 1 + 1 + 2) _) = amCells a ++ (al.set i x).flatMap amCells
    rw [← ih]
    rfl
/-- AN ATOM OF A ROW OF ITS OWN IS WRITTEN. -/
theorem OwnA.set {W : World} {base g n cap : Nat} {al : List Am} (h : OwnA base W (.slice (some ⟨g, 0, none⟩) n cap) al) (hn : al.length = n) (i : Nat) (hi : i < n) (x : Am) :
    OwnA base (((W.setCell ⟨g, i * 3, none⟩ (.string x.n)).setCell ⟨g, i * 3 + 1, none⟩ (.int .i64 x.op)).setCell ⟨g, i * 3 + 2, none⟩ (.string x.v)) (.slice (some ⟨g, 0, none⟩) n cap) (al.set i x) := by
  subst hn
  unfold OwnA at h ⊢
  rw [List.length_set, ← set3 x al i hi]
  exact ownsRow_set (ownsRow_set (ownsRow_set h (i * 3) _) (i * 3 + 1) _) (i * 3 + 2) _
theorem OwnS.set {W : World} {base g n cap : Nat} {al : List ByteArray} (h : OwnS base W (.slice (some ⟨g, 0, none⟩) n cap) al) (hn : al.length = n) (i : Nat) (hi : i < n) (x : ByteArray) :
    OwnS base (W.setCell ⟨g, i, none⟩ (.string x)) (.slice (some ⟨g, 0, none⟩) n cap) (al.set i x) := by
  subst hn
  unfold OwnS at h ⊢
  rw [List.length_set, List.map_set]
  exact ownsRow_set h i _
theorem numA_any (n : Int) (w : World) :
    Calls Tryd.prog 9 #[.int .i64 n] w fun x w' => x = .returned (.int .i64 n) ∧ w' = w := by
  go_enter Tryd.func9, Tryd.ntmps9
  go_wp2
  go_ret
  exact ⟨rfl, rfl⟩
def mk1 (n : Int) : Am := ⟨⟨#[77, 65, 82, 75]⟩, n, ⟨#[]⟩⟩
set_option maxHeartbeats 1000000 in
theorem markA_any (n : Int) (w : World) :
    Calls Tryd.prog 22 #[.int .i64 n] w fun e w' => e = .returned (.agg #[.string ⟨#[77, 65, 82, 75]⟩, .int .i64 n, .string ⟨#[]⟩]) ∧ Below w.heap.size w w' := by
  go_enter Tryd.func22, Tryd.ntmps22
  go_wp2
  exact bodyPost_ret (v := .agg #[.string ⟨#[77, 65, 82, 75]⟩, .int .i64 n, .string ⟨#[]⟩]) (by simp [results, Tryd.results22, go_sem]) rfl ⟨rfl, (Below.refl _ _).alloc (Nat.le_refl _) _⟩
theorem OwnA.cells {base : Nat} {W : World} {g n cap : Nat} {al : List Am} (h : OwnA base W (.slice (some ⟨g, 0, none⟩) n cap) al) (i : Nat) (hi : i < al.length) : W.cell? ⟨g, i * 3, none⟩ = some (.string al[i].n) ∧ W.cell? ⟨g, i * 3 + 1, none⟩ = some (.int .i64 al[i].op) ∧ W.cell? ⟨g, i * 3 + 2, none⟩ = some (.string al[i].v) := by
  have hn : al.length = n := by rcases h.2 with ⟨e, _⟩ | ⟨_, _, _, e, _⟩ <;> cases e; rfl
  subst hn
  refine ⟨?_, ?_, ?_⟩
  · have := World.ownsRow.cells (g := g) h rfl (i * 3 + 0) _ ((flat_at 3 amCells (fun _ => rfl) al i 0 hi (by omega)).trans rfl)
    rw [Go.WideShapes.add_plain] at this
    simpa using this
  · have := World.ownsRow.cells (g := g) h rfl (i * 3 + 1) _ ((flat_at 3 amCells (fun _ => rfl) al i 1 hi (by omega)).trans rfl)
    rw [Go.WideShapes.add_plain] at this
    simpa [Nat.add_assoc] using this
  · have := World.ownsRow.cells (g := g) h rfl (i * 3 + 2) _ ((flat_at 3 amCells (fun _ => rfl) al i 2 hi (by omega)).trans rfl)
    rw [Go.WideShapes.add_plain] at this
    simpa [Nat.add_assoc] using this
theorem neqA (n : ByteArray) (op : Int) (v : ByteArray) (w : World) : (binOp .neq 34 (.agg #[.string n, .int .i64 op, .string v]) (.agg #[.string n, .int .i64 op, .string v])).run Tryd.prog w = .ok (.bool false) w := amV_neq n op v w

end Go.Proofs.YtfembjjpmjfklaaDoor
