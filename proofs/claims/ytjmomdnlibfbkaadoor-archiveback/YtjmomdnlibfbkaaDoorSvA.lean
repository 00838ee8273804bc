import Derived.Test.YtjmomdnlibfbkaaDoorProg
import Derived.Test.YtjmomdnlibfbkaaDoorPthX
import Derived.Below
import Derived.WalkKit
import Derived.WalkSpells
import Derived.WalkLawsBesides
import Derived.Deep.MidRow
import Derived.Deep.RegionHeld3
import Derived.Handy
import Derived.Maps.AppendAt
import Derived.Laws.OwnMore
import Derived.Deep.AppendLies
import Derived.OwnWalk
import Derived.ArgAppend
import Derived.Deep.Onto
import Derived.Deep.QuietTactic
import Derived.BigQuiet
import Derived.BigRegion
import Derived.Deep.RegionLaw
import Derived.RangeFuncBox
namespace Go.Proofs.YtjmomdnlibfbkaaDoor
open Go.RowKit

theorem owns_below {W W' : World} {base : Nat} {e : TypeId} {size : Nat} {v : Value} {n : Nat} {xs : List Value} (h : W.ownsRow base e size v n xs) (hb : Below W.heap.size W W') : W'.ownsRow base e size v n xs := by
  refine ⟨h.1, ?_⟩
  rcases h.2 with h' | ⟨g, cap, cur, h1, h2, h3, h4⟩
  · exact .inl h'
  · exact .inr ⟨g, cap, cur, h1, h2, (hb.block g (Array.getElem?_eq_some_iff.1 h3).1).trans h3, h4⟩
theorem owns_at {W : World} {base e size g n cap m : Nat} {xs : List Value} (h : W.ownsRow base e size (.slice (some ⟨g, 0, none⟩) n cap) m xs) (k : Nat) (u : Value) (hk : xs[k]? = some u) : W.cell? ⟨g, k, none⟩ = some u := by
  have := h.cells (g := g) rfl k u hk
  by_cases e : k = 0
  · subst e; simpa [Addr.add] using this
  · simpa [Addr.add, e] using this
theorem owns_form {W : World} {base e size m : Nat} {v : Value} {xs : List Value} (h : W.ownsRow base e size v m xs) : ∃ a c, v = .slice a m c := by
  rcases h.2 with ⟨h1, h2⟩ | ⟨g, cap, cur, h1, _⟩
  · exact ⟨none, 0, by rw [h1, h2]⟩
  · exact ⟨_, _, h1⟩
theorem owns_fro {W : World} {base e size g n cap m : Nat} {xs : List Value} (h : W.ownsRow base e size (.slice (some ⟨g, 0, none⟩) n cap) m xs) (k : Nat) : W.frozen? ⟨g, k, none⟩ = false := by
  rcases h.2 with ⟨e, _⟩ | ⟨g', c, cur, e, _, hg, _⟩
  · cases e
  · cases e
    simp [World.frozen?, hg]
theorem owns_cap {W : World} {base e size g n cap m : Nat} {xs : List Value} (h : W.ownsRow base e size (.slice (some ⟨g, 0, none⟩) n cap) m xs) : n ≤ cap := by
  rcases h.2 with ⟨e, _⟩ | ⟨g', c, cur, e, _, _, h4, _⟩
  · cases e
  · cases e
    exact h4
theorem owns_cnt {W : World} {base e size g n cap m : Nat} {xs : List Value} (h : W.ownsRow base e size (.slice (some ⟨g, 0, none⟩) n cap) m xs) : n = m := by
  obtain ⟨a, c, h1⟩ := owns_form h
  cases h1
  rfl

theorem wpList_append_run {P : Program} {ops : Array Oper} {rest : List Oper} {o : Oper} {a : Act} {w w' : World} {v' : Value} {Q : Exit → Act → World → Prop} (hgd : o.guard = none) (s x : Operand) (t : TypeId)
    (ho : o.op = .call { callee := .builtin .append, args := #[s, x], argTypes := #[t, t] }) (vs vx : Value) (hs : a.eval s = vs) (hx : a.eval x = vx)
    (hr : (Builtin.append_ #[t, t] o.type #[vs, vx]).run P w = .ok v' w') (h : wpList P ops Q rest (a.put o.dst v') w') : wpList P ops Q (o :: rest) a w :=
  wpList_plain hgd fun _ hK => by
    unfold Oper.wp execOp
    simp only [ho, resolve, invoke, builtin, Sem.run_bind, Sem.run_pure, Result.andThen_ok, List.map_toArray, List.map_cons, List.map_nil, hs, hx, hr]
    exact hK _ _ h
theorem append_empty {P : Program} (w : World) (t ty e : TypeId) (i : TypeInfo) (ht : P.underlying t = some (.slice e)) (hi : P.info? e = some i) (g : Nat) (a : Option Addr) (c : Nat) :
    (Builtin.append_ #[t, t] ty #[.slice (some ⟨g, 0, none⟩) 0 0, .slice a 0 c]).run P w = .ok (.slice (some ⟨g, 0, none⟩) 0 0) w := by
  have hl : ∀ (x : Addr), (loadCells x 0).run P w = .ok #[] w := fun x => by simpa using run_loadCells_list (P := P) w x [] (by simp)
  cases a <;> simp [Builtin.append_, run_underlying ht, sizeOf, typeInfo, hi, Builtin.lenOf, Builtin.firstCells, storeCells, hl]
/-- A LIST IN NEW MEMORY. -/
theorem app1 {P : Program} (t ty e : TypeId) (i : TypeInfo) (z : Value) (size bytes : Nat) (ht : P.underlying t = some (.slice e)) (hi : P.info? e = some i) (hz : i.zero = some z) (hsize : i.size = size) (hby : i.bytes = bytes) (hzs : z.cells.size = size) (hsz : 0 < size)
    (n : Nat) (xs : List Value) (hx : xs.length = n * size) (h1 : ∀ u ∈ xs, u.oneCell' = true) (hn : n * bytes ≤ 140737488355328) (h63 : n ≤ maxLen)
    (xa : Option Addr) (xc : Nat) (wr : World) (hsrc : n = 0 ∨ ∃ b o, xa = some ⟨b, o, none⟩ ∧ b < wr.heap.size ∧ ∀ j u, xs[j]? = some u → wr.cell? ⟨b, o + j, none⟩ = some u) :
    ∃ v1 W1, (Builtin.append_ #[t, t] ty #[.slice (some ⟨wr.heap.size, 0, none⟩) 0 0, .slice xa n xc]).run P (wr.alloc (.cells #[] e)) = .ok v1 W1 ∧ W1.ownsRow wr.heap.size e size v1 n xs ∧ Below wr.heap.size wr W1 ∧ (∀ k, v1.ownBlock = some k → wr.heap.size ≤ k) := by
  have hb0 : Below wr.heap.size wr (wr.alloc (.cells #[] e)) := (Below.refl _ wr).alloc (Nat.le_refl _) _
  have ho0 : (wr.alloc (.cells #[] e)).ownsRow wr.heap.size e size (.slice (some ⟨wr.heap.size, 0, none⟩) 0 0) 0 [] := World.ownsRow_lit wr #[] 0 (Nat.le_refl _) (Nat.zero_le _) (by simp)
  rcases hsrc with rfl | ⟨b, o, rfl, hbl, hc⟩
  · have : xs = [] := List.length_eq_zero_iff.1 (by omega)
    subst this
    exact ⟨_, _, append_empty _ t ty e i ht hi _ xa xc, ho0, hb0, fun k hk => by cases hk; exact Nat.le_refl _⟩
  · obtain ⟨v1, W1, hr, h2, h3, _, h5⟩ := run_append_own_at (P := P) (wr.alloc (.cells #[] e)) wr.heap.size t ty e i z size bytes ht hi hz hsize hby hzs hsz _ 0 [] ho0 ⟨b, o, none⟩ n xc xs hx
      (fun j u hj => by rw [Addr.add_mid]; exact (hb0.cell (p := ⟨b, o + j, none⟩) hbl).trans (hc j u hj)) h1 (by omega) (by rw [Nat.zero_add]; exact hn) hb0.size
    rw [Nat.zero_add, List.nil_append] at h2
    refine ⟨v1, W1, hr, h2, hb0.grown h3 hb0.size (fun k hk => by cases hk; exact Nat.le_refl _), fun k hk => ?_⟩
    rcases h5 with h5 | h5
    · rw [h5] at hk; cases hk; exact Nat.le_refl _
    · rw [h5] at hk; cases hk; exact hb0.size
/-- AND SOMETHING BEHIND IT. -/
theorem app2 {P : Program} (t ty e : TypeId) (i : TypeInfo) (z : Value) (size bytes : Nat) (ht : P.underlying t = some (.slice e)) (hi : P.info? e = some i) (hz : i.zero = some z) (hsize : i.size = size) (hby : i.bytes = bytes) (hzs : z.cells.size = size) (hsz : 0 < size)
    (n m : Nat) (hm0 : 0 < m) (xs mk : List Value) (hx : xs.length = n * size) (h1 : ∀ u ∈ xs, u.oneCell' = true) (hmk : mk.length = m * size) (hm1 : ∀ u ∈ mk, u.oneCell' = true) (hn : (n + m) * bytes ≤ 140737488355328) (h63 : n + m ≤ maxLen)
    (xa : Option Addr) (xc : Nat) (wr : World) (hsrc : n = 0 ∨ ∃ b o, xa = some ⟨b, o, none⟩ ∧ b < wr.heap.size ∧ ∀ j u, xs[j]? = some u → wr.cell? ⟨b, o + j, none⟩ = some u) :
    ∃ v1 W1 g cap W2, (Builtin.append_ #[t, t] ty #[.slice (some ⟨wr.heap.size, 0, none⟩) 0 0, .slice xa n xc]).run P (wr.alloc (.cells #[] e)) = .ok v1 W1 ∧
      (Builtin.append_ #[t, t] ty #[v1, .slice (some ⟨W1.heap.size, 0, none⟩) m m]).run P (W1.alloc (.cells mk.toArray e)) = .ok (.slice (some ⟨g, 0, none⟩) (n + m) cap) W2 ∧
      W2.ownsRow wr.heap.size e size (.slice (some ⟨g, 0, none⟩) (n + m) cap) (n + m) (xs ++ mk) ∧ Below wr.heap.size wr W2 := by
  obtain ⟨v1, W1, hr, ho1, hb1, hk1⟩ := app1 (P := P) t ty e i z size bytes ht hi hz hsize hby hzs hsz n xs hx h1 (Nat.le_trans (Nat.mul_le_mul_right _ (by omega)) hn) (by omega) xa xc wr hsrc
  have hb2 : Below W1.heap.size W1 (W1.alloc (.cells mk.toArray e)) := (Below.refl _ W1).alloc (Nat.le_refl _) _
  obtain ⟨g, cap, W2, hr2, ho2, hg2, hgg, _⟩ := run_append_lies (P := P) (W1.alloc (.cells mk.toArray e)) t ty wr.heap.size e i z size bytes ht hi hz hsize hby hzs hsz v1 n xs (owns_below ho1 hb2) ⟨W1.heap.size, 0, none⟩ m m mk hmk
    (fun j u hj => by rw [Addr.add_mid, Nat.zero_add, World.cell?_alloc_new]; simpa using hj) hm1 hm0 h63 hn (Nat.le_trans hb1.size hb2.size) _ rfl
  have hb12 := hb1.trans (hb2.mono hb1.size)
  exact ⟨v1, W1, g, cap, W2, hr, hr2, ho2, hb12.grown hg2 hb12.size hk1⟩

end Go.Proofs.YtjmomdnlibfbkaaDoor
