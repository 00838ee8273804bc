import Derived.Test.YtjmomdnlibfbkaaDoorSvA
import Derived.Test.YtjmomdnlibfbkaaDoorAbQ
import Derived.Deep.WholeRow
import Derived.BigFrame
import Derived.DeepKeys
import Derived.Deep.MidRow
import Derived.Deep.LoopGhost
import Derived.MakeChecks
import Derived.ChangeKeysEq
import Derived.Maps.OwnSet
import Derived.OwnWalk
import Derived.Deep.RegionWith
import Derived.Deep.CutRange
import Derived.Laws.IdiomCopy
import Derived.Lib.LazyBuf
namespace Go.Proofs.YtjmomdnlibfbkaaDoor
open Go.RowKit

abbrev Nm := ByteArray
theorem blk_lt {W : World} {g : Nat} {o : Obj} (h : W.heap[g]? = some o) : g < W.heap.size := (Array.getElem?_eq_some_iff.1 h).1
theorem cell_blk {W : World} {g : Nat} {cur : Array Value} {t : TypeId} (h : W.heap[g]? = some (.cells cur t (0, 0))) (i : Nat) : W.cell? ⟨g, i, none⟩ = cur[i]? ∧ W.frozen? ⟨g, i, none⟩ = false := by
  refine ⟨?_, by simp [World.frozen?, h]⟩
  simp [World.cell?, h]
theorem own_same {W W2 : World} {base : Nat} {e : TypeId} {size : Nat} {v : Value} {n : Nat} {xs : List Value} (h : W.ownsRow base e size v n xs) (hb : ∀ g, v.ownBlock = some g → W2.heap[g]? = W.heap[g]?) : W2.ownsRow base e size v n xs := by
  refine ⟨h.1, ?_⟩
  rcases h.2 with h' | ⟨g, cap, cur, rfl, h2, h3, h4⟩
  · exact .inl h'
  · exact .inr ⟨g, cap, cur, rfl, h2, (hb g rfl).trans h3, h4⟩
theorem cell_later {W W2 : World} {p : Addr} {v : Value} (h : W.cell? p = some v) (hb : Below W.heap.size W W2) : W2.cell? p = some v := by
  have hlt := World.block_lt_of_cell? _ _ h
  exact (hb.cell hlt).trans h
theorem rangeAt_later {w w' : World} {b o : Nat} {cs : List Value} (h : w.rangeAt b o cs) (hl : b < w.heap.size) (hb : Below w.heap.size w w') : w'.rangeAt b o cs := fun j v hv => (hb.cell (p := ⟨b, o + j, none⟩) hl).trans (h j v hv)
theorem bx_eq (x : Nm) : (ByteArray.toList x == ByteArray.toList x) = true := by simp
theorem ba_if (x y : Nm) : (ByteArray.toList x == ByteArray.toList y) = decide (x = y) := by
  by_cases e : x = y
  · subst e; simp
  · rw [decide_eq_false e, beq_eq_false_iff_ne, ByteArray.toList_eq, ByteArray.toList_eq]
    intro z
    apply e
    have : x.data = y.data := by simpa using z
    cases x; cases y; simp_all
/-- ROWS OF k CELLS, ONE BEHIND ANOTHER. -/
theorem flat_lenm {k : Nat} : ∀ {rs : List (List Value)}, (∀ r ∈ rs, r.length = k) → rs.flatten.length = rs.length * k
  | [], _ => by simp
  | r :: rs, h => by
    rw [List.flatten_cons, List.length_append, h r List.mem_cons_self, flat_lenm fun x hx => h x (List.mem_cons_of_mem _ hx), List.length_cons]
    rw [Nat.succ_mul]; omega
theorem flat_at {k : Nat} : ∀ {rs : List (List Value)}, (∀ r ∈ rs, r.length = k) → ∀ {i : Nat} {r : List Value}, rs[i]? = some r → ∀ {j : Nat} {u : Value}, r[j]? = some u → rs.flatten[i * k + j]? = some u
  | [], _, _, _, hi, _, _, _ => by cases hi
  | x :: rs, ok, i, r, hi, j, u, hj => by
    have hx := ok x List.mem_cons_self
    rw [List.flatten_cons]
    cases i with
    | zero =>
      cases hi
      have hl := (List.getElem?_eq_some_iff.1 hj).1
      rw [List.getElem?_append_left (by omega)]
      simpa using hj
    | succ i =>
      rw [Nat.succ_mul, List.getElem?_append_right (by omega)]
      have := flat_at (fun y hy => ok y (List.mem_cons_of_mem _ hy)) (i := i) (by simpa using hi) hj
      rw [show i * k + k + j - x.length = i * k + j by omega]
      exact this
theorem flat_inv {k : Nat} : ∀ {rs : List (List Value)}, (∀ r ∈ rs, r.length = k) → ∀ {t : Nat} {u : Value}, rs.flatten[t]? = some u → ∃ i r j, rs[i]? = some r ∧ r[j]? = some u ∧ t = i * k + j
  | [], _, t, u, h => by simp at h
  | x :: rs, ok, t, u, h => by
    have hx := ok x List.mem_cons_self
    rw [List.flatten_cons] at h
    by_cases hl : t < k
    · rw [List.getElem?_append_left (by omega)] at h
      exact ⟨0, x, t, rfl, h, by simp⟩
    · rw [List.getElem?_append_right (by omega)] at h
      obtain ⟨i, q, j, h1, h2, h3⟩ := flat_inv (fun y hy => ok y (List.mem_cons_of_mem _ hy)) h
      exact ⟨i + 1, q, j, by simpa using h1, h2, by rw [Nat.succ_mul]; omega⟩
/-- A VALUE IN A BLOCK OF ITS OWN. -/
structure Bk (t k : Nat) (w : World) (g : Nat) (cs : List Value) : Prop where
  len : cs.length = k
  one : ∀ x ∈ cs, x.oneCell' = true
  at_ : w.heap[g]? = some (.cells cs.toArray t (0, 0))
section
variable {t k : Nat} {w w2 : World} {g : Nat} {l : List Value}
theorem Bk.lt (h : Bk t k w g l) : g < w.heap.size := blk_lt h.at_
theorem Bk.of (h : Bk t k w g l) (e : w2.heap[g]? = w.heap[g]?) : Bk t k w2 g l := ⟨h.len, h.one, e.trans h.at_⟩
theorem Bk.later (h : Bk t k w g l) (hb : Below w.heap.size w w2) : Bk t k w2 g l := h.of (hb.block g h.lt)
theorem Bk.cell (h : Bk t k w g l) {i : Nat} {v : Value} (hi : l[i]? = some v) : w.cell? ⟨g, i, none⟩ = some v := by
  rw [(cell_blk h.at_ i).1]; simpa using hi
theorem Bk.free (h : Bk t k w g l) (i : Nat) : w.frozen? ⟨g, i, none⟩ = false := (cell_blk h.at_ i).2
theorem Bk.range (h : Bk t k w g l) : w.rangeAt g 0 l := fun j v hj => by rw [Nat.zero_add]; exact h.cell hj
theorem Bk.set (h : Bk t k w g l) (i : Nat) (v : Value) (hv : v.oneCell' = true) : Bk t k (w.setCell ⟨g, i, none⟩ v) g (l.set i v) := by
  refine ⟨by rw [List.length_set]; exact h.len, fun x hx => ?_, ?_⟩
  · rcases List.mem_or_eq_of_mem_set hx with hx | rfl
    · exact h.one x hx
    · exact hv
  · rw [heap_setCell_same w g i _ t v h.at_]
    simp
end
section
variable {ops : Array Oper} {rest : List Oper} {o : Oper} {a : Act} {w : World} {Q : Exit → Act → World → Prop}
theorem b_alloc {t k : Nat} {zc : List Value} (hz : (Tryd.prog.info? t).map (fun i => (i.zero, i.size)) = some (some (.agg zc.toArray), k) ∧ zc.length = k ∧ zc.all (·.oneCell') = true) (ho : o.op = .alloc t) (hw : Region.wanted o (yielded ops a.tmps) = true)
    (h : ∀ w2, Bk t k w2 w.heap.size zc → Below w.heap.size w w2 → w.heap.size + 1 ≤ w2.heap.size ∧ w2.heap.size ≤ w.heap.size + 1 → wpList Tryd.prog ops Q rest (a.put o.dst (.pointer (some ⟨w.heap.size, 0, none⟩))) w2) : wpList Tryd.prog ops Q (o :: rest) a w := by
  refine BigFrame.wpList_want hw fun K hK => ?_
  obtain ⟨h1, h2, h3⟩ := hz
  unfold Oper.wp execOp
  simp only [ho, Sem.run_bind, Instr.alloc, (zero_of_info h1).1, newVar, newRow, run_newObj_alloc, Sem.run_pure, Result.andThen_ok]
  exact hK _ _ (h _ ⟨h2, List.all_eq_true.1 h3, heap_alloc_new w _⟩ ((Below.refl _ _).alloc (Nat.le_refl _) _) (by simp))
theorem b_box {t k : Nat} (cs : List Value) (hl : cs.length = k) (h1 : ∀ x ∈ cs, x.oneCell' = true) (x : Operand) (ho : o.op = .box t x) (hw : Region.wanted o (yielded ops a.tmps) = true) (hx : a.eval x = .agg cs.toArray)
    (h : ∀ w2, Bk t k w2 w.heap.size cs → Below w.heap.size w w2 → w.heap.size + 1 ≤ w2.heap.size ∧ w2.heap.size ≤ w.heap.size + 1 → wpList Tryd.prog ops Q rest (a.put o.dst (.pointer (some ⟨w.heap.size, 0, none⟩))) w2) : wpList Tryd.prog ops Q (o :: rest) a w := by
  refine BigFrame.wpList_want hw fun K hK => ?_
  unfold Oper.wp execOp
  simp only [ho, Sem.run_bind, Instr.box, hx, newVar, newRow, run_newObj_alloc, Sem.run_pure, Result.andThen_ok]
  exact hK _ _ (h _ ⟨hl, h1, heap_alloc_new w _⟩ ((Below.refl _ _).alloc (Nat.le_refl _) _) (by simp))
theorem m_load {t k : Nat} {d : TypeDesc} (hu : Tryd.prog.underlying t = some d) (hd : d.isRow = true) (hs : (Tryd.prog.info? t).map (·.size) = some k) (x : Operand) (ho : o.op = .load t x) (hw : Region.wanted o (yielded ops a.tmps) = true) (b off : Nat) (hx : a.eval x = .pointer (some ⟨b, off, none⟩)) (cs : List Value) (hr : w.rangeAt b off cs) (hl : cs.length = k)
    (h : wpList Tryd.prog ops Q rest (a.put o.dst (.agg cs.toArray)) w) : wpList Tryd.prog ops Q (o :: rest) a w := by
  refine BigFrame.wpList_want hw fun K hK => ?_
  exact wp_load_mid t x ho b off hx cs _ hr hu hd (by rw [hs, hl]) (hK _ _ h)
theorem b_store {t k : Nat} (hs : (Tryd.prog.info? t).map (·.size) = some k) (x y : Operand) (ho : o.op = .store t x y) (hw : Region.wanted o (yielded ops a.tmps) = true) (g : Nat) (hx : a.eval x = .pointer (some ⟨g, 0, none⟩)) (l : List Value) (hy : a.eval y = .agg l.toArray) (hl : l.length = k) (h1 : ∀ x ∈ l, x.oneCell' = true) (l0 : List Value) (hb : Bk t k w g l0)
    (h : ∀ w2, Bk t k w2 g l → (∀ k, k ≠ g → w2.heap[k]? = w.heap[k]?) → (∀ B, B ≤ g → Below B w w2) → w.heap.size ≤ w2.heap.size ∧ w2.heap.size ≤ w.heap.size → wpList Tryd.prog ops Q rest (a.put o.dst undef) w2) : wpList Tryd.prog ops Q (o :: rest) a w := by
  refine BigFrame.wpList_want hw fun K hK => ?_
  refine wp_store_row t x y ho g _ hx hy t _ hb.at_ (by rw [hs, List.size_toArray, hl]) (by rw [List.size_toArray, List.size_toArray, hl, hb.len]) (by rw [List.all_toArray]; exact List.all_eq_true.2 h1) (hK _ _ ?_)
  exact h _ ⟨hl, h1, setRow_heap w g _ _ t (0, 0) hb.at_⟩ (fun k hk => setRow_other w g k _ hk) (fun B hB => ⟨rfl, rfl, rfl, by simp, fun k hk => setRow_other w g k _ (by omega)⟩) (by simp)
theorem b_set {t k : Nat} (ty : TypeId) (x y : Operand) (ho : o.op = .store ty x y) (hw : Region.wanted o (yielded ops a.tmps) = true) (g i : Nat) (hx : a.eval x = .pointer (some ⟨g, i, none⟩)) (v : Value) (hst : ∀ old, w.cell? ⟨g, i, none⟩ = some old → w.frozen? ⟨g, i, none⟩ = false → (storeVar ty ⟨g, i, none⟩ v).run Tryd.prog w = .ok () (w.setCell ⟨g, i, none⟩ v)) (hy : a.eval y = v) (hv : v.oneCell' = true) (l : List Value) (hb : Bk t k w g l) (hi2 : i < k)
    (h : ∀ w2, Bk t k w2 g (l.set i v) → (∀ k, k ≠ g → w2.heap[k]? = w.heap[k]?) → (∀ B, B ≤ g → Below B w w2) → w.heap.size ≤ w2.heap.size ∧ w2.heap.size ≤ w.heap.size → wpList Tryd.prog ops Q rest (a.put o.dst undef) w2) : wpList Tryd.prog ops Q (o :: rest) a w := by
  refine BigFrame.wpList_want hw fun K hK => ?_
  have hl : i < l.length := by rw [hb.len]; exact hi2
  have hc := hb.cell (List.getElem?_eq_getElem hl)
  have hz := hb.free i
  unfold Oper.wp execOp
  simp only [ho, hx, hy, Instr.storeAt, Instr.sureAddr, Sem.run_bind, Sem.run_pure, Result.andThen_ok]
  rw [hst _ hc hz]
  exact hK _ _ (h _ (hb.set i v hv) (fun j hj => Below.heap_setCell w _ _ j hj) (fun B hB => (Below.refl _ _).setCell (p := ⟨g, i, none⟩) hB _) (by simp))
end
/-- NOTHING BUT BLOCKS OF P HAS CHANGED. -/
structure Fx (P : Nat → Prop) (W W2 : World) : Prop where
  bel : Below 0 W W2
  blk : ∀ b, b < W.heap.size → ¬ P b → W2.heap[b]? = W.heap[b]?
theorem Fx.of {P : Nat → Prop} {W W2 : World} (h : Below W.heap.size W W2) : Fx P W W2 := ⟨h.mono (Nat.zero_le _), fun b hb _ => h.block b hb⟩
theorem Fx.size {P : Nat → Prop} {W W2 : World} (h : Fx P W W2) : W.heap.size ≤ W2.heap.size := h.bel.size
theorem Fx.below {P : Nat → Prop} {W W2 : World} {B : Nat} (h : Fx P W W2) (hB : B ≤ W.heap.size) (hp : ∀ b, b < B → ¬ P b) : Below B W W2 :=
  ⟨h.bel.1, h.bel.2, h.bel.3, h.bel.size, fun b hb => h.blk b (Nat.lt_of_lt_of_le hb hB) (hp b hb)⟩
theorem own_low {W W2 : World} {base e size n : Nat} {v : Value} {xs : List Value} (h : W.ownsRow base e size v n xs) (hb : Below W.heap.size W W2) : W2.ownsRow base e size v n xs := own_same h fun b e => hb.block b (World.ownsRow.lt h b e).2
theorem own_base {W : World} {b1 b2 e size n : Nat} {v : Value} {xs : List Value} (h : W.ownsRow b1 e size v n xs) (hb : b2 ≤ b1) : W.ownsRow b2 e size v n xs := by
  refine ⟨h.1, ?_⟩
  rcases h.2 with h' | ⟨g, cap, cur, rfl, h2, h3, h4⟩
  · exact .inl h'
  · exact .inr ⟨g, cap, cur, rfl, Nat.le_trans hb h2, h3, h4⟩
theorem info_parts2 {e : TypeId} {z : Value} {s b : Nat} (h : (Tryd.prog.info? e).map (fun i => (i.zero, i.size, i.bytes)) = some (some z, s, b)) : ∃ i, Tryd.prog.info? e = some i ∧ i.zero = some z ∧ i.size = s ∧ i.bytes = b := by
  obtain ⟨i, hi, e⟩ := Option.map_eq_some_iff.1 h
  injection e with e1 e2
  injection e2 with e2 e3
  exact ⟨i, hi, e1, e2, e3⟩
/-- WHAT A TYPE'S ROWS ARE MADE OF. -/
structure Ty (t e k bytes : Nat) (z : Value) : Prop where
  und : Tryd.prog.underlying t = some (.slice e)
  inf : (Tryd.prog.info? e).map (fun i => (i.zero, i.size, i.bytes)) = some (some z, k, bytes)
  zs : z.cells.size = k
  pos : 0 < k
/-- MORE BEHIND A ROW OF ONE'S OWN. -/
theorem row_app {t e k bytes : Nat} {z : Value} (T : Ty t e k bytes z) {wr : World} {lo n m : Nat} {s : Value} {xs : List Value} (h : wr.ownsRow lo e k s n xs) (hlo : lo ≤ wr.heap.size) (news : List Value) (hnl : news.length = m * k) (h1 : ∀ u ∈ news, u.oneCell' = true) (hm : 0 < m) (h63 : n + m ≤ maxLen) (hb : (n + m) * bytes ≤ 140737488355328) (ty : TypeId) :
    ∃ g cap w9, (Builtin.append_ #[t, t] ty #[s, .slice (some ⟨wr.heap.size, 0, none⟩) m m]).run Tryd.prog (wr.alloc (.cells news.toArray e)) = .ok (.slice (some ⟨g, 0, none⟩) (n + m) cap) w9 ∧
      w9.ownsRow lo e k (.slice (some ⟨g, 0, none⟩) (n + m) cap) (n + m) (xs ++ news) ∧ Fx (fun b => s.ownBlock = some b) wr w9 ∧ (s.ownBlock = some g ∨ wr.heap.size ≤ g) := by
  obtain ⟨i0, hi0, hz0, hz1, hz2⟩ := info_parts2 T.inf
  have hb2 : Below wr.heap.size wr (wr.alloc (.cells news.toArray e)) := (Below.refl _ wr).alloc (Nat.le_refl _) _
  obtain ⟨g, cap, w9, hr, ho, hg, hgg, _⟩ := run_append_lies (P := Tryd.prog) (wr.alloc (.cells news.toArray e)) t ty lo e i0 z k bytes T.und hi0 hz0 hz1 hz2 T.zs T.pos s n xs (own_low h hb2) ⟨wr.heap.size, 0, none⟩ m m news hnl
    (fun j u hj => by rw [Addr.add_mid, Nat.zero_add, World.cell?_alloc_new]; simpa using hj) h1 hm h63 hb (Nat.le_trans hlo hb2.size) _ rfl
  refine ⟨g, cap, w9, hr, ho, ⟨⟨hg.1, hg.2, hg.3, Nat.le_trans hb2.size hg.size, fun _ h => absurd h (Nat.not_lt_zero _)⟩, fun c hc hn => ?_⟩, hgg.imp id fun e => by rw [e]; exact hb2.size⟩
  rw [hg.block c (Nat.lt_of_lt_of_le hc hb2.size) (fun q => hn q.symm)]
  exact hb2.block c hc
theorem size_setCells (b : Nat) : ∀ (vs : List Value) (o : Nat) (u : World), (u.setCells b o vs).heap.size = u.heap.size
  | [], _, _ => rfl
  | v :: r, o, u => by rw [World.setCells, size_setCells b r]; simp
theorem below_setCells {w : World} {base : Nat} (b : Nat) (hb : base ≤ b) : ∀ (vs : List Value) (o : Nat) (u : World), Below base w u → Below base w (u.setCells b o vs)
  | [], _, _, h => h
  | v :: r, o, u, h => by
    rw [World.setCells]
    exact below_setCells b hb r (o + 1) _ (h.setCell (p := ⟨b, o, none⟩) hb v)
theorem heap_setCells (b : Nat) : ∀ (vs : List Value) (o : Nat) (u : World) (k : Nat), k ≠ b → (u.setCells b o vs).heap[k]? = u.heap[k]?
  | [], _, _, _, _ => rfl
  | v :: r, o, u, k, h => by
    rw [World.setCells, heap_setCells b r (o + 1) _ k h]
    exact Below.heap_setCell u ⟨b, o, none⟩ v k h
section
variable {ops : Array Oper} {rest : List Oper} {o : Oper} {a : Act} {w : World} {Q : Exit → Act → World → Prop}
theorem m_store {t k : Nat} (hs : (Tryd.prog.info? t).map (·.size) = some k) (x y : Operand) (ho : o.op = .store t x y) (hw : Region.wanted o (yielded ops a.tmps) = true) (b off : Nat) (hx : a.eval x = .pointer (some ⟨b, off, none⟩)) (l : List Value) (hy : a.eval y = .agg l.toArray) (hl : l.length = k) (h1 : ∀ x ∈ l, x.oneCell' = true) (ht : w.there b off k)
    (h : wpList Tryd.prog ops Q rest (a.put o.dst undef) (w.setCells b off l)) : wpList Tryd.prog ops Q (o :: rest) a w := by
  refine BigFrame.wpList_want hw fun K hK => ?_
  exact wp_store_mid t x y ho b off l.toArray hx hy (by rw [List.size_toArray, hl]; exact ht) (by rw [hs, List.size_toArray, hl]) (all_oneCell_toArray h1) (hK _ _ h)
end
end Go.Proofs.YtjmomdnlibfbkaaDoor
