import Derived.Test.YtmjdpddpphfpiaaProg
import Derived.Below
import Derived.WalkKit
import Derived.WalkSpells
import Derived.WalkLawsBesides
import Derived.Deep.MidRow
import Derived.Deep.RegionHeld3
import Derived.Handy
import Derived.Maps.AppendAt
import Derived.Laws.OwnMore
import Derived.Deep.AppendLies
import Derived.OwnWalk
import Derived.ArgAppend
import Derived.Deep.Onto
import Derived.Deep.QuietTactic
import Derived.BigQuiet
import Derived.BigRegion
import Derived.Deep.RegionLaw
import Derived.RangeFuncBox
namespace Go.Proofs.Ytmjdpddpphfpiaa
open Go.RowKit

theorem hide {p : Prop} (h : p) : Hid p := h
theorem unhide {p : Prop} (h : Hid p) : p := h
theorem bl_t {w w1 w2 : World} (h : Below w.heap.size w w1) (h2 : Below w1.heap.size w1 w2) : Below w.heap.size w w2 := h.trans (h2.mono h.size)
theorem bl_drewN (w : World) (n : Nat) : Below w.heap.size w (w.drewN n) := (Below.refl _ w).trans ⟨rfl, rfl, rfl, Nat.le_refl _, fun _ _ => rfl⟩
theorem owns_below {W W' : World} {base : Nat} {e : TypeId} {size : Nat} {v : Value} {n : Nat} {xs : List Value} (h : W.ownsRow base e size v n xs) (hb : Below W.heap.size W W') : W'.ownsRow base e size v n xs := by
  refine ⟨h.1, ?_⟩
  rcases h.2 with h' | ⟨g, cap, cur, h1, h2, h3, h4⟩
  · exact .inl h'
  · exact .inr ⟨g, cap, cur, h1, h2, (hb.block g (Array.getElem?_eq_some_iff.1 h3).1).trans h3, h4⟩
theorem owns_at {W : World} {base e size g n cap m : Nat} {xs : List Value} (h : W.ownsRow base e size (.slice (some ⟨g, 0, none⟩) n cap) m xs) (k : Nat) (u : Value) (hk : xs[k]? = some u) : W.cell? ⟨g, k, none⟩ = some u := by
  have := h.cells (g := g) rfl k u hk
  by_cases e : k = 0
  · subst e; simpa [Addr.add] using this
  · simpa [Addr.add, e] using this
theorem owns_form {W : World} {base e size m : Nat} {v : Value} {xs : List Value} (h : W.ownsRow base e size v m xs) : ∃ a c, v = .slice a m c := by
  rcases h.2 with ⟨h1, h2⟩ | ⟨g, cap, cur, h1, _⟩
  · exact ⟨none, 0, by rw [h1, h2]⟩
  · exact ⟨_, _, h1⟩
theorem owns_fro {W : World} {base e size g n cap m : Nat} {xs : List Value} (h : W.ownsRow base e size (.slice (some ⟨g, 0, none⟩) n cap) m xs) (k : Nat) : W.frozen? ⟨g, k, none⟩ = false := by
  rcases h.2 with ⟨e, _⟩ | ⟨g', c, cur, e, _, hg, _⟩
  · cases e
  · cases e
    simp [World.frozen?, hg]
theorem owns_cap {W : World} {base e size g n cap m : Nat} {xs : List Value} (h : W.ownsRow base e size (.slice (some ⟨g, 0, none⟩) n cap) m xs) : n ≤ cap := by
  rcases h.2 with ⟨e, _⟩ | ⟨g', c, cur, e, _, _, h4, _⟩
  · cases e
  · cases e
    exact h4
theorem owns_cnt {W : World} {base e size g n cap m : Nat} {xs : List Value} (h : W.ownsRow base e size (.slice (some ⟨g, 0, none⟩) n cap) m xs) : n = m := by
  obtain ⟨a, c, h1⟩ := owns_form h
  cases h1
  rfl

theorem wpList_append_run {P : Program} {ops : Array Oper} {rest : List Oper} {o : Oper} {a : Act} {w w' : World} {v' : Value} {Q : Exit → Act → World → Prop} (hgd : o.guard = none) (s x : Operand) (t : TypeId)
    (ho : o.op = .call { callee := .builtin .append, args := #[s, x], argTypes := #[t, t] }) (vs vx : Value) (hs : a.eval s = vs) (hx : a.eval x = vx)
    (hr : (Builtin.append_ #[t, t] o.type #[vs, vx]).run P w = .ok v' w') (h : wpList P ops Q rest (a.put o.dst v') w') : wpList P ops Q (o :: rest) a w :=
  wpList_plain hgd fun _ hK => by
    unfold Oper.wp execOp
    simp only [ho, resolve, invoke, builtin, Sem.run_bind, Sem.run_pure, Result.andThen_ok, List.map_toArray, List.map_cons, List.map_nil, hs, hx, hr]
    exact hK _ _ h
theorem append_empty {P : Program} (w : World) (t ty e : TypeId) (i : TypeInfo) (ht : P.underlying t = some (.slice e)) (hi : P.info? e = some i) (g : Nat) (a : Option Addr) (c : Nat) :
    (Builtin.append_ #[t, t] ty #[.slice (some ⟨g, 0, none⟩) 0 0, .slice a 0 c]).run P w = .ok (.slice (some ⟨g, 0, none⟩) 0 0) w := by
  have hl : ∀ (x : Addr), (loadCells x 0).run P w = .ok #[] w := fun x => by simpa using run_loadCells_list (P := P) w x [] (by simp)
  cases a <;> simp [Builtin.append_, run_underlying ht, sizeOf, typeInfo, hi, Builtin.lenOf, Builtin.firstCells, storeCells, hl]
/-- A LIST IN NEW MEMORY. -/
theorem app1 {P : Program} (t ty e : TypeId) (i : TypeInfo) (z : Value) (size bytes : Nat) (ht : P.underlying t = some (.slice e)) (hi : P.info? e = some i) (hz : i.zero = some z) (hsize : i.size = size) (hby : i.bytes = bytes) (hzs : z.cells.size = size) (hsz : 0 < size)
    (n : Nat) (xs : List Value) (hx : xs.length = n * size) (h1 : ∀ u ∈ xs, u.oneCell' = true) (hn : n * bytes ≤ 140737488355328) (h63 : n ≤ maxLen)
    (xa : Option Addr) (xc : Nat) (wr : World) (hsrc : n = 0 ∨ ∃ b o, xa = some ⟨b, o, none⟩ ∧ b < wr.heap.size ∧ ∀ j u, xs[j]? = some u → wr.cell? ⟨b, o + j, none⟩ = some u) :
    ∃ v1 W1, (Builtin.append_ #[t, t] ty #[.slice (some ⟨wr.heap.size, 0, none⟩) 0 0, .slice xa n xc]).run P (wr.alloc (.cells #[] e)) = .ok v1 W1 ∧ W1.ownsRow wr.heap.size e size v1 n xs ∧ Below wr.heap.size wr W1 ∧ (∀ k, v1.ownBlock = some k → wr.heap.size ≤ k) := by
  have hb0 : Below wr.heap.size wr (wr.alloc (.cells #[] e)) := (Below.refl _ wr).alloc (Nat.le_refl _) _
  have ho0 : (wr.alloc (.cells #[] e)).ownsRow wr.heap.size e size (.slice (some ⟨wr.heap.size, 0, none⟩) 0 0) 0 [] := World.ownsRow_lit wr #[] 0 (Nat.le_refl _) (Nat.zero_le _) (by simp)
  rcases hsrc with rfl | ⟨b, o, rfl, hbl, hc⟩
  · have : xs = [] := List.length_eq_zero_iff.1 (by omega)
    subst this
    exact ⟨_, _, append_empty _ t ty e i ht hi _ xa xc, ho0, hb0, fun k hk => by cases hk; exact Nat.le_refl _⟩
  · obtain ⟨v1, W1, hr, h2, h3, _, h5⟩ := run_append_own_at (P := P) (wr.alloc (.cells #[] e)) wr.heap.size t ty e i z size bytes ht hi hz hsize hby hzs hsz _ 0 [] ho0 ⟨b, o, none⟩ n xc xs hx
      (fun j u hj => by rw [Addr.add_mid]; exact (hb0.cell (p := ⟨b, o + j, none⟩) hbl).trans (hc j u hj)) h1 (by omega) (by rw [Nat.zero_add]; exact hn) hb0.size
    rw [Nat.zero_add, List.nil_append] at h2
    refine ⟨v1, W1, hr, h2, hb0.grown h3 hb0.size (fun k hk => by cases hk; exact Nat.le_refl _), fun k hk => ?_⟩
    rcases h5 with h5 | h5
    · rw [h5] at hk; cases hk; exact Nat.le_refl _
    · rw [h5] at hk; cases hk; exact hb0.size
/-- AND SOMETHING BEHIND IT. -/
theorem app2 {P : Program} (t ty e : TypeId) (i : TypeInfo) (z : Value) (size bytes : Nat) (ht : P.underlying t = some (.slice e)) (hi : P.info? e = some i) (hz : i.zero = some z) (hsize : i.size = size) (hby : i.bytes = bytes) (hzs : z.cells.size = size) (hsz : 0 < size)
    (n m : Nat) (hm0 : 0 < m) (xs mk : List Value) (hx : xs.length = n * size) (h1 : ∀ u ∈ xs, u.oneCell' = true) (hmk : mk.length = m * size) (hm1 : ∀ u ∈ mk, u.oneCell' = true) (hn : (n + m) * bytes ≤ 140737488355328) (h63 : n + m ≤ maxLen)
    (xa : Option Addr) (xc : Nat) (wr : World) (hsrc : n = 0 ∨ ∃ b o, xa = some ⟨b, o, none⟩ ∧ b < wr.heap.size ∧ ∀ j u, xs[j]? = some u → wr.cell? ⟨b, o + j, none⟩ = some u) :
    ∃ v1 W1 g cap W2, (Builtin.append_ #[t, t] ty #[.slice (some ⟨wr.heap.size, 0, none⟩) 0 0, .slice xa n xc]).run P (wr.alloc (.cells #[] e)) = .ok v1 W1 ∧
      (Builtin.append_ #[t, t] ty #[v1, .slice (some ⟨W1.heap.size, 0, none⟩) m m]).run P (W1.alloc (.cells mk.toArray e)) = .ok (.slice (some ⟨g, 0, none⟩) (n + m) cap) W2 ∧
      W2.ownsRow wr.heap.size e size (.slice (some ⟨g, 0, none⟩) (n + m) cap) (n + m) (xs ++ mk) ∧ Below wr.heap.size wr W2 := by
  obtain ⟨v1, W1, hr, ho1, hb1, hk1⟩ := app1 (P := P) t ty e i z size bytes ht hi hz hsize hby hzs hsz n xs hx h1 (Nat.le_trans (Nat.mul_le_mul_right _ (by omega)) hn) (by omega) xa xc wr hsrc
  have hb2 : Below W1.heap.size W1 (W1.alloc (.cells mk.toArray e)) := (Below.refl _ W1).alloc (Nat.le_refl _) _
  obtain ⟨g, cap, W2, hr2, ho2, hg2, hgg, _⟩ := run_append_lies (P := P) (W1.alloc (.cells mk.toArray e)) t ty wr.heap.size e i z size bytes ht hi hz hsize hby hzs hsz v1 n xs (owns_below ho1 hb2) ⟨W1.heap.size, 0, none⟩ m m mk hmk
    (fun j u hj => by rw [Addr.add_mid, Nat.zero_add, World.cell?_alloc_new]; simpa using hj) hm1 hm0 h63 hn (Nat.le_trans hb1.size hb2.size) _ rfl
  have hb12 := hb1.trans (hb2.mono hb1.size)
  exact ⟨v1, W1, g, cap, W2, hr, hr2, ho2, hb12.grown hg2 hb12.size hk1⟩

theorem infoI : (Try.prog.info? 3).map (fun i => (i.zero, i.size, i.bytes)) = some (some (.int .i64 0), 1, 8) := by kernel_rfl
theorem infoB : (Try.prog.info? 4).map (fun i => (i.zero, i.size, i.bytes)) = some (some (.bool false), 1, 1) := by kernel_rfl
theorem infoL : (Try.prog.info? 23).map (fun i => (i.zero, i.size, i.bytes)) = some (some (.slice none 0 0), 1, 24) := by kernel_rfl

/-- VALUES AS THEY LIE. -/
def Rv (W : World) (pa : Option Addr) (n : Nat) (F : Nat → Value) : Prop := 0 < n → ∃ b o, pa = some ⟨b, o, none⟩ ∧ b < W.heap.size ∧ ∀ i, i < n → W.cell? ⟨b, o + i, none⟩ = some (F i)
theorem Rv.later {W W2 : World} {pa : Option Addr} {n : Nat} {F : Nat → Value} (h : Rv W pa n F) (hb : Below W.heap.size W W2) : Rv W2 pa n F := fun h0 => by
  obtain ⟨b, o, h1, hl, h2⟩ := h h0
  exact ⟨b, o, h1, Nat.lt_of_lt_of_le hl hb.size, fun i hi => (hb.cell (p := ⟨b, o + i, none⟩) hl).trans (h2 i hi)⟩
theorem Rv.at {W : World} {pa : Option Addr} {n : Nat} {F : Nat → Value} (h : Rv W pa n F) {k : Nat} (hk : k < n) : ∃ b o, pa = some ⟨b, o, none⟩ ∧ b < W.heap.size ∧ W.cell? ⟨b, o + k, none⟩ = some (F k) := by
  obtain ⟨b, o, h1, hl, h2⟩ := h (by omega)
  exact ⟨b, o, h1, hl, h2 k hk⟩
theorem Rv.congr {W : World} {pa : Option Addr} {n : Nat} {F G : Nat → Value} (h : Rv W pa n F) (e : ∀ k, k < n → F k = G k) : Rv W pa n G := fun h0 => by
  obtain ⟨b, o, h1, hl, h2⟩ := h h0
  exact ⟨b, o, h1, hl, fun i hi => by rw [← e i hi]; exact h2 i hi⟩
def iv (f : Nat → Int) (k : Nat) : Value := .int .i64 (f k)
def bv (f : Nat → Bool) (k : Nat) : Value := .bool (f k)
/-- NUMBERS; YES OR NO. -/
def Ri (W : World) (pa : Option Addr) (n : Nat) (f : Nat → Int) : Prop := Rv W pa n (iv f)
def Rt (W : World) (pa : Option Addr) (n : Nat) (f : Nat → Bool) : Prop := Rv W pa n (bv f)
/-- ROWS OF NUMBERS. -/
def Rr (W : World) (pa : Option Addr) (N : Nat) (ln : Nat → Nat) (L : Nat → Nat → Int) : Prop := ∃ (ca : Nat → Option Addr) (cc : Nat → Nat), Rv W pa N (fun k => .slice (ca k) (ln k) (cc k)) ∧ ∀ k, k < N → Ri W (ca k) (ln k) (L k)
theorem Ri.later {W W2 : World} {pa : Option Addr} {n : Nat} {f : Nat → Int} (h : Ri W pa n f) (hb : Below W.heap.size W W2) : Ri W2 pa n f := Rv.later h hb
theorem Rt.later {W W2 : World} {pa : Option Addr} {n : Nat} {f : Nat → Bool} (h : Rt W pa n f) (hb : Below W.heap.size W W2) : Rt W2 pa n f := Rv.later h hb
theorem Rr.later {W W2 : World} {pa : Option Addr} {N : Nat} {ln : Nat → Nat} {L : Nat → Nat → Int} (h : Rr W pa N ln L) (hb : Below W.heap.size W W2) : Rr W2 pa N ln L := by
  obtain ⟨ca, cc, h1, h2⟩ := h
  exact ⟨ca, cc, h1.later hb, fun k hk => (h2 k hk).later hb⟩
theorem Rr.at {W : World} {pa : Option Addr} {N : Nat} {ln : Nat → Nat} {L : Nat → Nat → Int} (h : Rr W pa N ln L) {k : Nat} (hk : k < N) : ∃ b o ca cc, pa = some ⟨b, o, none⟩ ∧ W.cell? ⟨b, o + k, none⟩ = some (.slice ca (ln k) cc) ∧ Ri W ca (ln k) (L k) := by
  obtain ⟨ca, cc, h1, h2⟩ := h
  obtain ⟨b, o, e, hl, hc⟩ := h1.at hk
  exact ⟨b, o, _, _, e, hc, h2 k hk⟩
def vl (n : Nat) (F : Nat → Value) : List Value := (List.range n).map F
theorem vl_len (n : Nat) (F : Nat → Value) : (vl n F).length = n := by simp [vl]
theorem vl_at (n : Nat) (F : Nat → Value) (k : Nat) (h : k < n) : (vl n F)[k]? = some (F k) := by simp [vl, h]
theorem vl_succ (n : Nat) (F : Nat → Value) : vl (n + 1) F = vl n F ++ [F n] := by simp [vl, List.range_succ]
theorem vl_congr {n : Nat} {F G : Nat → Value} (h : ∀ k, k < n → F k = G k) : vl n F = vl n G := by
  unfold vl
  apply List.map_congr_left
  intro k hk
  exact h k (List.mem_range.1 hk)
theorem vl_one (n : Nat) (F : Nat → Value) (h : ∀ k, (F k).oneCell' = true) : ∀ u ∈ vl n F, u.oneCell' = true := fun u hu => by
  obtain ⟨x, _, rfl⟩ := List.mem_map.1 hu
  exact h x
theorem Rv.src {W : World} {pa : Option Addr} {n : Nat} {F : Nat → Value} (h : Rv W pa n F) : n = 0 ∨ ∃ b o, pa = some ⟨b, o, none⟩ ∧ b < W.heap.size ∧ ∀ j u, (vl n F)[j]? = some u → W.cell? ⟨b, o + j, none⟩ = some u := by
  by_cases e : n = 0
  · exact .inl e
  · obtain ⟨b, o, h1, h2, h3⟩ := h (by omega)
    refine .inr ⟨b, o, h1, h2, fun j u hj => ?_⟩
    have hjl : j < n := by
      have := (List.getElem?_eq_some_iff.1 hj).1
      simpa [vl] using this
    rw [vl_at _ _ _ hjl] at hj
    cases hj
    exact h3 j hjl
theorem Rv.of_owns {W : World} {base e n c : Nat} {a : Option Addr} {F : Nat → Value} (h : W.ownsRow base e 1 (.slice a n c) n (vl n F)) : Rv W a n F := fun h0 => by
  rcases h.2 with ⟨_, e2⟩ | ⟨g, cap, cur, e1, _, hg, _⟩
  · omega
  · cases e1
    exact ⟨g, 0, rfl, (Array.getElem?_eq_some_iff.1 hg).1, fun i hi => by rw [Nat.zero_add]; exact owns_at h i _ (vl_at _ _ _ hi)⟩
end Go.Proofs.Ytmjdpddpphfpiaa
