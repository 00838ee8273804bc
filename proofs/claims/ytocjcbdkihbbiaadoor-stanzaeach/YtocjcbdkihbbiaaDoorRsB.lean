import Derived.Test.YtocjcbdkihbbiaaDoorRsA
import Derived.Test.YtocjcbdkihbbiaaDoorSbC
import Derived.OrdersHeld
import Derived.Deep.RegionHeld3
import Derived.Maps.AppendAt
import Derived.Laws.OwnMore
import Derived.Deep.AppendLies
namespace Go.Proofs.YtocjcbdkihbbiaaDoor
open Go.RowKit Go.Shelf

theorem ownsRow_below {w w' : World} {base : Nat} {e : TypeId} {z : Nat} {v : Value} {n : Nat} {xs : List Value} (h : w.ownsRow base e z v n xs) (hb : Below w.heap.size w w') : w'.ownsRow base e z v n xs := by
  obtain ⟨h1, h2⟩ := h
  refine ⟨h1, ?_⟩
  rcases h2 with h2 | ⟨g, cap, cur, e1, e2, e3, e4⟩
  · exact Or.inl h2
  · exact Or.inr ⟨g, cap, cur, e1, e2, (hb.block g (Array.getElem?_eq_some_iff.1 e3).1).trans e3, e4⟩
theorem append_empty {P : Program} (w : World) (t ty e : TypeId) (i : TypeInfo) (ht : P.underlying t = some (.slice e)) (hi : P.info? e = some i) (g : Nat) (a : Option Addr) (c : Nat) :
    (Builtin.append_ #[t, t] ty #[.slice (some ⟨g, 0, none⟩) 0 0, .slice a 0 c]).run P w = .ok (.slice (some ⟨g, 0, none⟩) 0 0) w := by
  have hl : ∀ (x : Addr), (loadCells x 0).run P w = .ok #[] w := fun x => by simpa using run_loadCells_list (P := P) w x [] (by simp)
  cases a <;> simp [Builtin.append_, run_underlying ht, sizeOf, typeInfo, hi, Builtin.lenOf, Builtin.firstCells, storeCells, hl]
theorem app2 {P : Program} (t ty e : TypeId) (i : TypeInfo) (z : Value) (size bytes : Nat) (ht : P.underlying t = some (.slice e)) (hi : P.info? e = some i) (hz : i.zero = some z) (hsize : i.size = size) (hby : i.bytes = bytes) (hzs : z.cells.size = size) (hsz : 0 < size)
    (n : Nat) (xs mk : List Value) (hx : xs.length = n * size) (h1 : ∀ u ∈ xs, u.oneCell' = true) (hmk : mk.length = 1 * size) (hm1 : ∀ u ∈ mk, u.oneCell' = true) (hn : (n + 1) * bytes ≤ 140737488355328) (h63 : n + 1 ≤ maxLen)
    (xa : Option Addr) (xc : Nat) (wr : World) (hsrc : n = 0 ∨ ∃ b o, xa = some ⟨b, o, none⟩ ∧ b < wr.heap.size ∧ ∀ j u, xs[j]? = some u → wr.cell? ⟨b, o + j, none⟩ = some u) :
    ∃ v1 W1 g cap W2, (Builtin.append_ #[t, t] ty #[.slice (some ⟨wr.heap.size, 0, none⟩) 0 0, .slice xa n xc]).run P (wr.alloc (.cells #[] e)) = .ok v1 W1 ∧
      (Builtin.append_ #[t, t] ty #[v1, .slice (some ⟨W1.heap.size, 0, none⟩) 1 1]).run P (W1.alloc (.cells mk.toArray e)) = .ok (.slice (some ⟨g, 0, none⟩) (n + 1) cap) W2 ∧
      W2.ownsRow wr.heap.size e size (.slice (some ⟨g, 0, none⟩) (n + 1) cap) (n + 1) (xs ++ mk) ∧ Below wr.heap.size wr W2 ∧ Below wr.heap.size wr W1 := by
  have hb0 : Below wr.heap.size wr (wr.alloc (.cells #[] e)) := (Below.refl _ wr).alloc (Nat.le_refl _) _
  have ho0 : (wr.alloc (.cells #[] e)).ownsRow wr.heap.size e size (.slice (some ⟨wr.heap.size, 0, none⟩) 0 0) 0 [] := World.ownsRow_lit wr #[] 0 (Nat.le_refl _) (Nat.zero_le _) (by simp)
  have s1 : ∃ v1 W1, (Builtin.append_ #[t, t] ty #[.slice (some ⟨wr.heap.size, 0, none⟩) 0 0, .slice xa n xc]).run P (wr.alloc (.cells #[] e)) = .ok v1 W1 ∧ W1.ownsRow wr.heap.size e size v1 n xs ∧ Below wr.heap.size wr W1 ∧ (∀ k, v1.ownBlock = some k → wr.heap.size ≤ k) := by
    rcases hsrc with rfl | ⟨b, o, rfl, hbl, hc⟩
    · have : xs = [] := List.length_eq_zero_iff.1 (by omega)
      subst this
      exact ⟨_, _, append_empty _ t ty e i ht hi _ xa xc, ho0, hb0, fun k hk => by cases hk; exact Nat.le_refl _⟩
    · obtain ⟨v1, W1, hr, h2, h3, _, h5⟩ := run_append_own_at (P := P) (wr.alloc (.cells #[] e)) wr.heap.size t ty e i z size bytes ht hi hz hsize hby hzs hsz _ 0 [] ho0 ⟨b, o, none⟩ n xc xs hx
        (fun j u hj => by rw [Addr.add_mid]; exact (hb0.cell (p := ⟨b, o + j, none⟩) hbl).trans (hc j u hj)) h1 (by omega) (Nat.le_trans (Nat.mul_le_mul_right _ (by omega)) hn) hb0.size
      rw [Nat.zero_add, List.nil_append] at h2
      refine ⟨v1, W1, hr, h2, hb0.grown h3 hb0.size (fun k hk => by cases hk; exact Nat.le_refl _), fun k hk => ?_⟩
      rcases h5 with h5 | h5
      · rw [h5] at hk; cases hk; exact Nat.le_refl _
      · rw [h5] at hk; cases hk; exact hb0.size
  obtain ⟨v1, W1, hr, ho1, hb1, hk1⟩ := s1
  have hb2 : Below W1.heap.size W1 (W1.alloc (.cells mk.toArray e)) := (Below.refl _ W1).alloc (Nat.le_refl _) _
  obtain ⟨g, cap, W2, hr2, ho2, hg2, hgg, _⟩ := run_append_lies (P := P) (W1.alloc (.cells mk.toArray e)) t ty wr.heap.size e i z size bytes ht hi hz hsize hby hzs hsz v1 n xs (ownsRow_below ho1 hb2) ⟨W1.heap.size, 0, none⟩ 1 1 mk hmk
    (fun j u hj => by rw [Addr.add_mid, Nat.zero_add, World.cell?_alloc_new]; simpa using hj) hm1 (by omega) h63 hn (Nat.le_trans hb1.size hb2.size) _ rfl
  have hb12 := hb1.trans (hb2.mono hb1.size)
  exact ⟨v1, W1, g, cap, W2, hr, hr2, ho2, hb12.grown hg2 hb12.size hk1, hb1⟩
theorem app2b {P : Program} (t ty e : TypeId) (i : TypeInfo) (z : Value) (size bytes : Nat) (ht : P.underlying t = some (.slice e)) (hi : P.info? e = some i) (hz : i.zero = some z) (hsize : i.size = size) (hby : i.bytes = bytes) (hzs : z.cells.size = size) (hsz : 0 < size)
    (n : Nat) (xs mk : List Value) (hx : xs.length = n * size) (h1 : ∀ u ∈ xs, u.oneCell' = true) (hmk : mk.length = 1 * size) (hm1 : ∀ u ∈ mk, u.oneCell' = true) (hn : (n + 1) * bytes ≤ 140737488355328) (h63 : n + 1 ≤ maxLen)
    (xa : Option Addr) (xc B : Nat) (W : World) (g0 m : Nat) (hB : B ≤ W.heap.size) (hrow : W.ownsRow B e size (.slice (some ⟨g0, 0, none⟩) 0 0) 0 []) (hm : ∀ j u, mk[j]? = some u → W.cell? ⟨m, j, none⟩ = some u) (hmg : m ≠ g0) (hml : m < W.heap.size)
    (hsrc : n = 0 ∨ ∃ b o, xa = some ⟨b, o, none⟩ ∧ ∀ j u, xs[j]? = some u → W.cell? ⟨b, o + j, none⟩ = some u) :
    ∃ v1 W1 g cap W2, (Builtin.append_ #[t, t] ty #[.slice (some ⟨g0, 0, none⟩) 0 0, .slice xa n xc]).run P W = .ok v1 W1 ∧
      (Builtin.append_ #[t, t] ty #[v1, .slice (some ⟨m, 0, none⟩) 1 1]).run P W1 = .ok (.slice (some ⟨g, 0, none⟩) (n + 1) cap) W2 ∧
      W2.ownsRow B e size (.slice (some ⟨g, 0, none⟩) (n + 1) cap) (n + 1) (xs ++ mk) ∧ Below B W W2 ∧ Below B W W1 := by
  have hg0 : B ≤ g0 := (hrow.lt g0 rfl).1
  have s1 : ∃ v1 W1, (Builtin.append_ #[t, t] ty #[.slice (some ⟨g0, 0, none⟩) 0 0, .slice xa n xc]).run P W = .ok v1 W1 ∧ W1.ownsRow B e size v1 n xs ∧ Below B W W1 ∧ (∀ k, v1.ownBlock = some k → B ≤ k) ∧ (∀ j u, mk[j]? = some u → W1.cell? ⟨m, j, none⟩ = some u) ∧ v1.ownBlock ≠ some m := by
    rcases hsrc with rfl | ⟨b, o, rfl, hc⟩
    · have : xs = [] := List.length_eq_zero_iff.1 (by omega)
      subst this
      exact ⟨_, _, append_empty _ t ty e i ht hi _ xa xc, hrow, Below.refl _ _, fun k hk => by cases hk; exact hg0, hm, fun e => by cases e; exact hmg rfl⟩
    · obtain ⟨v1, W1, hr, h2, h3, _, h5⟩ := run_append_own_at (P := P) W B t ty e i z size bytes ht hi hz hsize hby hzs hsz _ 0 [] hrow ⟨b, o, none⟩ n xc xs hx
        (fun j u hj => by rw [Addr.add_mid]; exact hc j u hj) h1 (by omega) (Nat.le_trans (Nat.mul_le_mul_right _ (by omega)) hn) hB
      rw [Nat.zero_add, List.nil_append] at h2
      refine ⟨v1, W1, hr, h2, (Below.refl _ _).grown h3 hB (fun k hk => by cases hk; exact hg0), fun k hk => ?_, fun j u hj => ?_, fun e => ?_⟩
      · rcases h5 with h5 | h5
        · rw [h5] at hk; cases hk; exact hg0
        · rw [h5] at hk; cases hk; exact hB
      · exact h3.cell (hm j u hj) (fun e => hmg (by cases e; rfl))
      · rcases h5 with h5 | h5
        · rw [h5] at e; cases e; exact hmg rfl
        · rw [h5] at e; cases e; omega
  obtain ⟨v1, W1, hr, ho1, hb1, hk1, hm2, hne⟩ := s1
  obtain ⟨g, cap, W2, hr2, ho2, hg2, hgg, _⟩ := run_append_lies (P := P) W1 t ty B e i z size bytes ht hi hz hsize hby hzs hsz v1 n xs ho1 ⟨m, 0, none⟩ 1 1 mk hmk
    (fun j u hj => by rw [Addr.add_mid, Nat.zero_add]; exact hm2 j u hj) hm1 (by omega) h63 hn (Nat.le_trans hB hb1.size) _ rfl
  exact ⟨v1, W1, g, cap, W2, hr, hr2, ho2, hb1.grown hg2 (Nat.le_trans hB hb1.size) hk1, hb1⟩
theorem app2x {P : Program} (t ty e : TypeId) (i : TypeInfo) (z : Value) (size bytes : Nat) (ht : P.underlying t = some (.slice e)) (hi : P.info? e = some i) (hz : i.zero = some z) (hsize : i.size = size) (hby : i.bytes = bytes) (hzs : z.cells.size = size) (hsz : 0 < size)
    (n : Nat) (xs mk : List Value) (hx : xs.length = n * size) (h1 : ∀ u ∈ xs, u.oneCell' = true) (hmk : mk.length = 1 * size) (hm1 : ∀ u ∈ mk, u.oneCell' = true) (hn : (n + 1) * bytes ≤ 140737488355328) (h63 : n + 1 ≤ maxLen)
    (xa : Option Addr) (xc : Nat) (wr : World) (hsrc : n = 0 ∨ ∃ b o, xa = some ⟨b, o, none⟩ ∧ b < wr.heap.size ∧ ∀ j u, xs[j]? = some u → wr.cell? ⟨b, o + j, none⟩ = some u) :
    (∃ v1 W1 g cap W2, (Builtin.append_ #[t, t] ty #[.slice (some ⟨wr.heap.size, 0, none⟩) 0 0, .slice xa n xc]).run P ((wr.alloc (.cells #[] e)).alloc (.cells mk.toArray e)) = .ok v1 W1 ∧
      (Builtin.append_ #[t, t] ty #[v1, .slice (some ⟨wr.heap.size + 1, 0, none⟩) 1 1]).run P W1 = .ok (.slice (some ⟨g, 0, none⟩) (n + 1) cap) W2 ∧
      W2.ownsRow wr.heap.size e size (.slice (some ⟨g, 0, none⟩) (n + 1) cap) (n + 1) (xs ++ mk) ∧ Below wr.heap.size wr W2 ∧ Below wr.heap.size wr W1) ∧
    (∃ v1 W1 g cap W2, (Builtin.append_ #[t, t] ty #[.slice (some ⟨wr.heap.size + 1, 0, none⟩) 0 0, .slice xa n xc]).run P ((wr.alloc (.cells mk.toArray e)).alloc (.cells #[] e)) = .ok v1 W1 ∧
      (Builtin.append_ #[t, t] ty #[v1, .slice (some ⟨wr.heap.size, 0, none⟩) 1 1]).run P W1 = .ok (.slice (some ⟨g, 0, none⟩) (n + 1) cap) W2 ∧
      W2.ownsRow wr.heap.size e size (.slice (some ⟨g, 0, none⟩) (n + 1) cap) (n + 1) (xs ++ mk) ∧ Below wr.heap.size wr W2 ∧ Below wr.heap.size wr W1) := by
  constructor
  · have hb0 : Below wr.heap.size wr (wr.alloc (.cells #[] e)) := (Below.refl _ wr).alloc (Nat.le_refl _) _
    have hbA := hb0.alloc hb0.size (.cells mk.toArray e)
    have hr0 : (wr.alloc (.cells #[] e)).ownsRow wr.heap.size e size (.slice (some ⟨wr.heap.size, 0, none⟩) 0 0) 0 [] := World.ownsRow_lit wr #[] 0 (Nat.le_refl _) (Nat.zero_le _) (by simp)
    obtain ⟨v1, W1, g, cap, W2, e1, e2, e3, e4, e5⟩ := app2b (P := P) t ty e i z size bytes ht hi hz hsize hby hzs hsz n xs mk hx h1 hmk hm1 hn h63 xa xc wr.heap.size ((wr.alloc (.cells #[] e)).alloc (.cells mk.toArray e)) wr.heap.size (wr.heap.size + 1) hbA.size
      (hr0.alloc _) (fun j u hj => by rw [show wr.heap.size + 1 = (wr.alloc (.cells #[] e)).heap.size by simp, World.cell?_alloc_new]; simpa using hj) (by omega) (by simp)
      (hsrc.imp id fun ⟨b, o, q1, q2, q3⟩ => ⟨b, o, q1, fun j u hj => (hbA.cell (p := ⟨b, o + j, none⟩) q2).trans (q3 j u hj)⟩)
    exact ⟨v1, W1, g, cap, W2, e1, e2, e3, hbA.trans e4, hbA.trans e5⟩
  · have hb0 : Below wr.heap.size wr (wr.alloc (.cells mk.toArray e)) := (Below.refl _ wr).alloc (Nat.le_refl _) _
    have hbA := hb0.alloc hb0.size (.cells #[] e)
    have hr0 : ((wr.alloc (.cells mk.toArray e)).alloc (.cells #[] e)).ownsRow wr.heap.size e size (.slice (some ⟨wr.heap.size + 1, 0, none⟩) 0 0) 0 [] := by
      have := World.ownsRow_lit (base := wr.heap.size) (e := e) (size := size) (wr.alloc (.cells mk.toArray e)) #[] 0 hb0.size (Nat.zero_le _) (by simp)
      simpa using this
    have hm0 : ∀ (j : Nat) u, mk[j]? = some u → (wr.alloc (.cells mk.toArray e)).cell? ⟨wr.heap.size, j, none⟩ = some u := fun j u hj => by rw [World.cell?_alloc_new]; simpa using hj
    obtain ⟨v1, W1, g, cap, W2, e1, e2, e3, e4, e5⟩ := app2b (P := P) t ty e i z size bytes ht hi hz hsize hby hzs hsz n xs mk hx h1 hmk hm1 hn h63 xa xc wr.heap.size ((wr.alloc (.cells mk.toArray e)).alloc (.cells #[] e)) (wr.heap.size + 1) wr.heap.size hbA.size
      hr0 (fun j u hj => (((Below.refl _ (wr.alloc (.cells mk.toArray e))).alloc (Nat.le_refl _) _).cell (p := ⟨wr.heap.size, j, none⟩) (by simp)).trans (hm0 j u hj)) (by omega) (by simp; omega)
      (hsrc.imp id fun ⟨b, o, q1, q2, q3⟩ => ⟨b, o, q1, fun j u hj => (hbA.cell (p := ⟨b, o + j, none⟩) q2).trans (q3 j u hj)⟩)
    exact ⟨v1, W1, g, cap, W2, e1, e2, e3, hbA.trans e4, hbA.trans e5⟩
theorem step_run {P : Program} {ops : Array Oper} {o : Oper} {a : Act} {w : World} {K : Act → World → Prop} {Q : Exit → Act → World → Prop} {E : Prop}
    (hg : o.guard = none) (s x : Operand) (t : TypeId) (hop : o.op = Op.call { callee := Callee.builtin Builtin.append, args := #[s, x], argTypes := #[t, t] }) (vs vx : Value) (hs : a.eval s = vs) (hx : a.eval x = vx) (v' : Value) (w' : World)
    (hr : (Builtin.append_ #[t, t] o.type #[vs, vx]).run P w = .ok v' w') (hK : K (a.put o.dst v') w') :
    if Region.wanted o (yielded ops a.tmps) = true then Oper.wp P o a w K Q else E := by
  have hw : Region.wanted o (yielded ops a.tmps) = true := by simp [Region.wanted, hg]
  rw [if_pos hw]
  unfold Oper.wp
  simp [execOp, hop, resolve, invoke, builtin, hs, hx, hr, Result.andThen]
  exact hK
theorem row_cap {W : World} {B : Nat} {e : TypeId} {s g n cap : Nat} {xs : List Value} (h : W.ownsRow B e s (.slice (some ⟨g, 0, none⟩) (n + 1) cap) (n + 1) xs) : n ≤ cap := by
  rcases h.2 with ⟨e, _⟩ | ⟨g', cap', cur, e, _, _, hnc, _⟩
  · cases e
  · cases e; omega

/-- A FIELD's THREE CELLS. -/
structure Tv where
  a : Value
  b : Value
  c : Value
def flat : List Tv → List Value
  | [] => []
  | t :: r => t.a :: t.b :: t.c :: flat r
theorem flat_len : ∀ ts : List Tv, (flat ts).length = ts.length * 3
  | [] => rfl
  | t :: r => by simp only [flat, List.length_cons, flat_len r]; omega
theorem flat_app : ∀ a b : List Tv, flat (a ++ b) = flat a ++ flat b
  | [], b => rfl
  | t :: r, b => by simp only [List.cons_append, flat, flat_app r b]
theorem flat_at : ∀ (ts : List Tv) (i : Nat) (t : Tv), ts[i]? = some t → (flat ts)[i * 3]? = some t.a ∧ (flat ts)[i * 3 + 1]? = some t.b ∧ (flat ts)[i * 3 + 2]? = some t.c
  | [], i, t, h => by simp at h
  | x :: r, 0, t, h => by
    simp at h
    subst h
    exact ⟨rfl, rfl, rfl⟩
  | x :: r, i + 1, t, h => by
    have h2 : r[i]? = some t := by simpa using h
    obtain ⟨h3, h4, h5⟩ := flat_at r i t h2
    refine ⟨?_, ?_, ?_⟩
    · rw [show (i + 1) * 3 = i * 3 + 3 by omega]; exact h3
    · rw [show (i + 1) * 3 + 1 = i * 3 + 1 + 3 by omega]; exact h4
    · rw [show (i + 1) * 3 + 2 = i * 3 + 2 + 3 by omega]; exact h5
structure FdV (lo : Nat) (W : World) (t : Tv) (f : Fd) : Prop where
  nm : t.a = .string (ba f.nm)
  ls : ∃ b c, t.b = .slice (some ⟨b, 0, none⟩) f.ls.length c ∧ W.ownsRow lo 9 1 (.slice (some ⟨b, 0, none⟩) f.ls.length c) f.ls.length (strs f.ls)
  ns : ∃ b c, t.c = .slice (some ⟨b, 0, none⟩) f.ns.length c ∧ W.ownsRow lo 3 1 (.slice (some ⟨b, 0, none⟩) f.ns.length c) f.ns.length (ints f.ns)
theorem row_cells {W : World} {base b n c m : Nat} {e : TypeId} {xs : List Value} (h : W.ownsRow base e 1 (.slice (some ⟨b, 0, none⟩) n c) m xs) : b < W.heap.size ∧ m ≤ c ∧ ∀ i u, xs[i]? = some u → W.cell? ⟨b, i, none⟩ = some u := by
  refine ⟨(h.lt b rfl).2, ?_, fun i u hi => ?_⟩
  · rcases h.2 with ⟨e, _⟩ | ⟨g', cap', cur, e, _, _, h4, _⟩
    · cases e
    · cases e
      exact h4
  · have := h.cells (g := b) rfl i u hi
    rw [Addr.add_mid, Nat.zero_add] at this
    exact this
theorem FdV.later {lo : Nat} {W W2 : World} {t : Tv} {f : Fd} (h : FdV lo W t f) (hb : Below W.heap.size W W2) : FdV lo W2 t f := by
  obtain ⟨b, c, h1, h2⟩ := h.ls
  obtain ⟨b', c', h5, h6⟩ := h.ns
  exact ⟨h.nm, ⟨b, c, h1, ownsRow_below h2 hb⟩, ⟨b', c', h5, ownsRow_below h6 hb⟩⟩
theorem FdV.keep {lo : Nat} {W W2 : World} {t : Tv} {f : Fd} (h : FdV lo W t f) (hk : ∀ (k : Nat) (c : Array Value) (t : TypeId), (t = 49 ∨ t = 9 ∨ t = 3) → W.heap[k]? = some (.cells c t (0, 0)) → W2.heap[k]? = W.heap[k]?) : FdV lo W2 t f := by
  obtain ⟨b, c, h1, h2⟩ := h.ls
  obtain ⟨b', c', h5, h6⟩ := h.ns
  exact ⟨h.nm, ⟨b, c, h1, ownsRow_same h2 fun g c _ hc => hk g c 9 (.inr (.inl rfl)) hc⟩, ⟨b', c', h5, ownsRow_same h6 fun g c _ hc => hk g c 3 (.inr (.inr rfl)) hc⟩⟩
theorem FdV.one {lo : Nat} {W : World} {t : Tv} {f : Fd} (h : FdV lo W t f) : t.a.oneCell' = true ∧ t.b.oneCell' = true ∧ t.c.oneCell' = true := by
  obtain ⟨b, c, h1, _⟩ := h.ls
  obtain ⟨b', c', h5, _⟩ := h.ns
  rw [h.nm, h1, h5]
  exact ⟨rfl, rfl, rfl⟩
/-- A PARAGRAPH OF THE DEFINITION's OWN. -/
structure RP (lo : Nat) (W : World) (v : Value) (p : List Fd) (ts : List Tv) : Prop where
  len : ts.length = p.length
  each : ∀ (i : Nat) t f, ts[i]? = some t → p[i]? = some f → FdV lo W t f
  row : W.ownsRow lo 49 3 v p.length (flat ts)
theorem RP.later {lo : Nat} {W W2 : World} {v : Value} {p : List Fd} {ts : List Tv} (h : RP lo W v p ts) (hb : Below W.heap.size W W2) : RP lo W2 v p ts :=
  ⟨h.len, fun i t f h1 h2 => (h.each i t f h1 h2).later hb, ownsRow_below h.row hb⟩
theorem RP.keep {lo : Nat} {W W2 : World} {v : Value} {p : List Fd} {ts : List Tv} (h : RP lo W v p ts) (hk : ∀ (k : Nat) (c : Array Value) (t : TypeId), (t = 49 ∨ t = 9 ∨ t = 3) → W.heap[k]? = some (.cells c t (0, 0)) → W2.heap[k]? = W.heap[k]?) : RP lo W2 v p ts :=
  ⟨h.len, fun i t f h1 h2 => (h.each i t f h1 h2).keep hk, ownsRow_same h.row fun g c _ hc => hk g c 49 (.inl rfl) hc⟩
theorem RP.nil (lo : Nat) (W : World) : RP lo W (.slice none 0 0) [] [] := ⟨rfl, fun i t f h => by simp at h, World.ownsRow_nil _ _ _ _⟩
theorem RP.shape {lo : Nat} {W : World} {v : Value} {p : List Fd} {ts : List Tv} (h : RP lo W v p ts) : ∃ a c, v = .slice a p.length c := by
  rcases h.row.2 with ⟨h1, h2⟩ | ⟨g, cap, cur, h1, _⟩
  · exact ⟨none, 0, by rw [h1, h2]⟩
  · exact ⟨_, _, h1⟩
theorem RP.ones {lo : Nat} {W : World} {v : Value} {p : List Fd} {ts : List Tv} (h : RP lo W v p ts) : ∀ u ∈ flat ts, u.oneCell' = true := by
  intro u hu
  have key : ∀ (ts : List Tv), (∀ t ∈ ts, t.a.oneCell' = true ∧ t.b.oneCell' = true ∧ t.c.oneCell' = true) → ∀ u ∈ flat ts, u.oneCell' = true := by
    intro ts
    induction ts with
    | nil => intro _ u hu; cases hu
    | cons t r ih =>
      intro ht u hu
      have h0 := ht t List.mem_cons_self
      simp only [flat, List.mem_cons] at hu
      rcases hu with rfl | rfl | rfl | hu
      · exact h0.1
      · exact h0.2.1
      · exact h0.2.2
      · exact ih (fun x hx => ht x (List.mem_cons_of_mem _ hx)) u hu
  refine key ts (fun t ht => ?_) u hu
  obtain ⟨i, hi, e⟩ := List.getElem_of_mem ht
  have hi2 : i < p.length := by have := h.len; omega
  exact (h.each i t p[i] (by rw [List.getElem?_eq_getElem hi, e]) (List.getElem?_eq_getElem hi2)).one
end Go.Proofs.YtocjcbdkihbbiaaDoor
