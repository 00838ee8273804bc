import Derived.Test.YtkpkpebljkcmkaaDoorGnA
import Derived.Maps.OwnSet
import Derived.OwnWalk
import Derived.Deep.RegionWith
import Derived.Deep.CutRange
import Derived.Laws.IdiomCopy
namespace Go.Proofs.YtkpkpebljkcmkaaDoor
open Go.RowKit

/-- A VALUE IN A BLOCK OF ITS OWN. -/
structure Bk (t k : Nat) (w : World) (g : Nat) (cs : List Value) : Prop where
  len : cs.length = k
  one : ∀ x ∈ cs, x.oneCell' = true
  at_ : w.heap[g]? = some (.cells cs.toArray t (0, 0))
section
variable {t k : Nat} {w w2 : World} {g : Nat} {l : List Value}
theorem Bk.lt (h : Bk t k w g l) : g < w.heap.size := blk_lt h.at_
theorem Bk.of (h : Bk t k w g l) (e : w2.heap[g]? = w.heap[g]?) : Bk t k w2 g l := ⟨h.len, h.one, e.trans h.at_⟩
theorem Bk.later (h : Bk t k w g l) (hb : Below w.heap.size w w2) : Bk t k w2 g l := h.of (hb.block g h.lt)
theorem Bk.cell (h : Bk t k w g l) {i : Nat} {v : Value} (hi : l[i]? = some v) : w.cell? ⟨g, i, none⟩ = some v := by
  rw [(cell_blk h.at_ i).1]; simpa using hi
theorem Bk.free (h : Bk t k w g l) (i : Nat) : w.frozen? ⟨g, i, none⟩ = false := (cell_blk h.at_ i).2
theorem Bk.range (h : Bk t k w g l) : w.rangeAt g 0 l := fun j v hj => by rw [Nat.zero_add]; exact h.cell hj
theorem Bk.set (h : Bk t k w g l) (i : Nat) (v : Value) (hv : v.oneCell' = true) : Bk t k (w.setCell ⟨g, i, none⟩ v) g (l.set i v) := by
  refine ⟨by rw [List.length_set]; exact h.len, fun x hx => ?_, ?_⟩
  · rcases List.mem_or_eq_of_mem_set hx with hx | rfl
    · exact h.one x hx
    · exact hv
  · rw [heap_setCell_same w g i _ t v h.at_]
    simp
end
section
variable {ops : Array Oper} {rest : List Oper} {o : Oper} {a : Act} {w : World} {Q : Exit → Act → World → Prop}
theorem b_alloc {t k : Nat} {zc : List Value} (hz : (Tryd.prog.info? t).map (fun i => (i.zero, i.size)) = some (some (.agg zc.toArray), k) ∧ zc.length = k ∧ zc.all (·.oneCell') = true) (ho : o.op = .alloc t) (hw : Region.wanted o (yielded ops a.tmps) = true)
    (h : ∀ w2, Bk t k w2 w.heap.size zc → Below w.heap.size w w2 → w.heap.size + 1 ≤ w2.heap.size ∧ w2.heap.size ≤ w.heap.size + 1 → wpList Tryd.prog ops Q rest (a.put o.dst (.pointer (some ⟨w.heap.size, 0, none⟩))) w2) : wpList Tryd.prog ops Q (o :: rest) a w := by
  refine BigFrame.wpList_want hw fun K hK => ?_
  obtain ⟨h1, h2, h3⟩ := hz
  unfold Oper.wp execOp
  simp only [ho, Sem.run_bind, Instr.alloc, (zero_of_info h1).1, newVar, newRow, run_newObj_alloc, Sem.run_pure, Result.andThen_ok]
  exact hK _ _ (h _ ⟨h2, List.all_eq_true.1 h3, heap_alloc_new w _⟩ ((Below.refl _ _).alloc (Nat.le_refl _) _) (by simp))
theorem b_box {t k : Nat} (cs : List Value) (hl : cs.length = k) (h1 : ∀ x ∈ cs, x.oneCell' = true) (x : Operand) (ho : o.op = .box t x) (hw : Region.wanted o (yielded ops a.tmps) = true) (hx : a.eval x = .agg cs.toArray)
    (h : ∀ w2, Bk t k w2 w.heap.size cs → Below w.heap.size w w2 → w.heap.size + 1 ≤ w2.heap.size ∧ w2.heap.size ≤ w.heap.size + 1 → wpList Tryd.prog ops Q rest (a.put o.dst (.pointer (some ⟨w.heap.size, 0, none⟩))) w2) : wpList Tryd.prog ops Q (o :: rest) a w := by
  refine BigFrame.wpList_want hw fun K hK => ?_
  unfold Oper.wp execOp
  simp only [ho, Sem.run_bind, Instr.box, hx, newVar, newRow, run_newObj_alloc, Sem.run_pure, Result.andThen_ok]
  exact hK _ _ (h _ ⟨hl, h1, heap_alloc_new w _⟩ ((Below.refl _ _).alloc (Nat.le_refl _) _) (by simp))
theorem m_load {t k : Nat} {d : TypeDesc} (hu : Tryd.prog.underlying t = some d) (hd : d.isRow = true) (hs : (Tryd.prog.info? t).map (·.size) = some k) (x : Operand) (ho : o.op = .load t x) (hw : Region.wanted o (yielded ops a.tmps) = true) (b off : Nat) (hx : a.eval x = .pointer (some ⟨b, off, none⟩)) (cs : List Value) (hr : w.rangeAt b off cs) (hl : cs.length = k)
    (h : wpList Tryd.prog ops Q rest (a.put o.dst (.agg cs.toArray)) w) : wpList Tryd.prog ops Q (o :: rest) a w := by
  refine BigFrame.wpList_want hw fun K hK => ?_
  exact wp_load_mid t x ho b off hx cs _ hr hu hd (by rw [hs, hl]) (hK _ _ h)
theorem b_store {t k : Nat} (hs : (Tryd.prog.info? t).map (·.size) = some k) (x y : Operand) (ho : o.op = .store t x y) (hw : Region.wanted o (yielded ops a.tmps) = true) (g : Nat) (hx : a.eval x = .pointer (some ⟨g, 0, none⟩)) (l : List Value) (hy : a.eval y = .agg l.toArray) (hl : l.length = k) (h1 : ∀ x ∈ l, x.oneCell' = true) (l0 : List Value) (hb : Bk t k w g l0)
    (h : ∀ w2, Bk t k w2 g l → (∀ k, k ≠ g → w2.heap[k]? = w.heap[k]?) → (∀ B, B ≤ g → Below B w w2) → w.heap.size ≤ w2.heap.size ∧ w2.heap.size ≤ w.heap.size → wpList Tryd.prog ops Q rest (a.put o.dst undef) w2) : wpList Tryd.prog ops Q (o :: rest) a w := by
  refine BigFrame.wpList_want hw fun K hK => ?_
  refine wp_store_row t x y ho g _ hx hy t _ hb.at_ (by rw [hs, List.size_toArray, hl]) (by rw [List.size_toArray, List.size_toArray, hl, hb.len]) (by rw [List.all_toArray]; exact List.all_eq_true.2 h1) (hK _ _ ?_)
  exact h _ ⟨hl, h1, setRow_heap w g _ _ t (0, 0) hb.at_⟩ (fun k hk => setRow_other w g k _ hk) (fun B hB => ⟨rfl, rfl, rfl, by simp, fun k hk => setRow_other w g k _ (by omega)⟩) (by simp)
theorem b_set {t k : Nat} (ty : TypeId) (x y : Operand) (ho : o.op = .store ty x y) (hw : Region.wanted o (yielded ops a.tmps) = true) (g i : Nat) (hx : a.eval x = .pointer (some ⟨g, i, none⟩)) (v : Value) (hst : ∀ old, w.cell? ⟨g, i, none⟩ = some old → w.frozen? ⟨g, i, none⟩ = false → (storeVar ty ⟨g, i, none⟩ v).run Tryd.prog w = .ok () (w.setCell ⟨g, i, none⟩ v)) (hy : a.eval y = v) (hv : v.oneCell' = true) (l : List Value) (hb : Bk t k w g l) (hi2 : i < k)
    (h : ∀ w2, Bk t k w2 g (l.set i v) → (∀ k, k ≠ g → w2.heap[k]? = w.heap[k]?) → (∀ B, B ≤ g → Below B w w2) → w.heap.size ≤ w2.heap.size ∧ w2.heap.size ≤ w.heap.size → wpList Tryd.prog ops Q rest (a.put o.dst undef) w2) : wpList Tryd.prog ops Q (o :: rest) a w := by
  refine BigFrame.wpList_want hw fun K hK => ?_
  have hl : i < l.length := by rw [hb.len]; exact hi2
  have hc := hb.cell (List.getElem?_eq_getElem hl)
  have hz := hb.free i
  unfold Oper.wp execOp
  simp only [ho, hx, hy, Instr.storeAt, Instr.sureAddr, Sem.run_bind, Sem.run_pure, Result.andThen_ok]
  rw [hst _ hc hz]
  exact hK _ _ (h _ (hb.set i v hv) (fun j hj => Below.heap_setCell w _ _ j hj) (fun B hB => (Below.refl _ _).setCell (p := ⟨g, i, none⟩) hB _) (by simp))
end
/-- THE STANZA'S CELLS. -/
structure PcC (cs : List Value) (p : Hk) (d r c v f : Value) : Prop where
  len : cs.length = 43
  one : ∀ x ∈ cs, x.oneCell' = true
  c0 : cs[0]? = some (.string p.nm)
  c1 : cs[1]? = some (.string p.vr)
  c2 : cs[2]? = some (.bool p.es)
  c3 : cs[3]? = some d
  c4 : cs[4]? = some r
  c5 : cs[5]? = some c
  c6 : cs[6]? = some v
  c7 : cs[7]? = some f
  c8 : cs[8]? = some (.string p.ar)
  c9 : cs[9]? = some (.int .i64 p.sz)
  cs0 : ∀ j x, p.sm[j]? = some x → cs[10 + j]? = some x
  c42 : cs[42]? = some (.string p.sy)
theorem HkC.pc {cs : List Value} {p : Hk} {d r c v f : Value} (h : HkC cs p d r c v f) (hs : p.sm.length = 32) : PcC (cs.take 43) p d r c v f := by
  have t : ∀ {j : Nat} {u : Value}, j < 43 → cs[j]? = some u → (cs.take 43)[j]? = some u := fun hj e => by rw [List.getElem?_take_of_lt hj]; exact e
  refine ⟨by rw [List.length_take, h.len]; decide, fun x hx => h.one x (List.mem_of_mem_take hx), t (by decide) h.c0, t (by decide) h.c1, t (by decide) h.c2, t (by decide) h.c3, t (by decide) h.c4, t (by decide) h.c5, t (by decide) h.c6, t (by decide) h.c7, t (by decide) h.c8, t (by decide) h.c9, fun j x hj => t ?_ (h.cs0 j x hj), t (by decide) h.c42⟩
  have := (List.getElem?_eq_some_iff.1 hj).1
  omega
/-- NOTHING BUT BLOCKS OF P HAS CHANGED. -/
structure Fx (P : Nat → Prop) (W W2 : World) : Prop where
  bel : Below 0 W W2
  blk : ∀ b, b < W.heap.size → ¬ P b → W2.heap[b]? = W.heap[b]?
theorem Fx.of {P : Nat → Prop} {W W2 : World} (h : Below W.heap.size W W2) : Fx P W W2 := ⟨h.mono (Nat.zero_le _), fun b hb _ => h.block b hb⟩
theorem Fx.size {P : Nat → Prop} {W W2 : World} (h : Fx P W W2) : W.heap.size ≤ W2.heap.size := h.bel.size
theorem Fx.below {P : Nat → Prop} {W W2 : World} {B : Nat} (h : Fx P W W2) (hB : B ≤ W.heap.size) (hp : ∀ b, b < B → ¬ P b) : Below B W W2 :=
  ⟨h.bel.1, h.bel.2, h.bel.3, h.bel.size, fun b hb => h.blk b (Nat.lt_of_lt_of_le hb hB) (hp b hb)⟩
theorem own_low {W W2 : World} {base e size n : Nat} {v : Value} {xs : List Value} (h : W.ownsRow base e size v n xs) (hb : Below W.heap.size W W2) : W2.ownsRow base e size v n xs := own_same h fun b e => hb.block b (World.ownsRow.lt h b e).2
theorem own_base {W : World} {b1 b2 e size n : Nat} {v : Value} {xs : List Value} (h : W.ownsRow b1 e size v n xs) (hb : b2 ≤ b1) : W.ownsRow b2 e size v n xs := by
  refine ⟨h.1, ?_⟩
  rcases h.2 with h' | ⟨g, cap, cur, rfl, h2, h3, h4⟩
  · exact .inl h'
  · exact .inr ⟨g, cap, cur, rfl, Nat.le_trans hb h2, h3, h4⟩
theorem info_parts2 {e : TypeId} {z : Value} {s b : Nat} (h : (Tryd.prog.info? e).map (fun i => (i.zero, i.size, i.bytes)) = some (some z, s, b)) : ∃ i, Tryd.prog.info? e = some i ∧ i.zero = some z ∧ i.size = s ∧ i.bytes = b := by
  obtain ⟨i, hi, e⟩ := Option.map_eq_some_iff.1 h
  injection e with e1 e2
  injection e2 with e2 e3
  exact ⟨i, hi, e1, e2, e3⟩
/-- WHAT A TYPE'S ROWS ARE MADE OF. -/
structure Ty (t e k bytes : Nat) (z : Value) : Prop where
  und : Tryd.prog.underlying t = some (.slice e)
  inf : (Tryd.prog.info? e).map (fun i => (i.zero, i.size, i.bytes)) = some (some z, k, bytes)
  zs : z.cells.size = k
  pos : 0 < k
/-- MORE BEHIND A ROW OF ONE'S OWN. -/
theorem row_app {t e k bytes : Nat} {z : Value} (T : Ty t e k bytes z) {wr : World} {lo n m : Nat} {s : Value} {xs : List Value} (h : wr.ownsRow lo e k s n xs) (hlo : lo ≤ wr.heap.size) (news : List Value) (hnl : news.length = m * k) (h1 : ∀ u ∈ news, u.oneCell' = true) (hm : 0 < m) (h63 : n + m ≤ maxLen) (hb : (n + m) * bytes ≤ 140737488355328) (ty : TypeId) :
    ∃ g cap w9, (Builtin.append_ #[t, t] ty #[s, .slice (some ⟨wr.heap.size, 0, none⟩) m m]).run Tryd.prog (wr.alloc (.cells news.toArray e)) = .ok (.slice (some ⟨g, 0, none⟩) (n + m) cap) w9 ∧
      w9.ownsRow lo e k (.slice (some ⟨g, 0, none⟩) (n + m) cap) (n + m) (xs ++ news) ∧ Fx (fun b => s.ownBlock = some b) wr w9 ∧ (s.ownBlock = some g ∨ wr.heap.size ≤ g) := by
  obtain ⟨i0, hi0, hz0, hz1, hz2⟩ := info_parts2 T.inf
  have hb2 : Below wr.heap.size wr (wr.alloc (.cells news.toArray e)) := (Below.refl _ wr).alloc (Nat.le_refl _) _
  obtain ⟨g, cap, w9, hr, ho, hg, hgg, _⟩ := run_append_lies (P := Tryd.prog) (wr.alloc (.cells news.toArray e)) t ty lo e i0 z k bytes T.und hi0 hz0 hz1 hz2 T.zs T.pos s n xs (own_low h hb2) ⟨wr.heap.size, 0, none⟩ m m news hnl
    (fun j u hj => by rw [Addr.add_mid, Nat.zero_add, World.cell?_alloc_new]; simpa using hj) h1 hm h63 hb (Nat.le_trans hlo hb2.size) _ rfl
  refine ⟨g, cap, w9, hr, ho, ⟨⟨hg.1, hg.2, hg.3, Nat.le_trans hb2.size hg.size, fun _ h => absurd h (Nat.not_lt_zero _)⟩, fun c hc hn => ?_⟩, hgg.imp id fun e => by rw [e]; exact hb2.size⟩
  rw [hg.block c (Nat.lt_of_lt_of_le hc hb2.size) (fun q => hn q.symm)]
  exact hb2.block c hc
/-- A LIST THAT IS LENT, WITH WHAT STANDS BEHIND IT. -/
def Len (t k lo : Nat) (W : World) (fl : List (List Value)) (mk : List Value) (m : Nat) (v : Value) : Prop := ∃ g cap, v = .slice (some ⟨g, 0, none⟩) fl.length cap ∧ W.ownsRow lo t k (.slice (some ⟨g, 0, none⟩) (fl.length + m) cap) (fl.length + m) (fl.flatten ++ mk)
theorem Len.same {t k lo : Nat} {W W2 : World} {fl : List (List Value)} {mk : List Value} {m : Nat} {v : Value} (h : Len t k lo W fl mk m v) (hb : ∀ b, lo ≤ b → b < W.heap.size → W2.heap[b]? = W.heap[b]?) : Len t k lo W2 fl mk m v := by
  obtain ⟨g, cap, e, ho⟩ := h
  exact ⟨g, cap, e, own_same ho fun b e => hb b (World.ownsRow.lt ho b e).1 (World.ownsRow.lt ho b e).2⟩
theorem Len.keep {t k lo : Nat} {W W2 : World} {fl : List (List Value)} {mk : List Value} {m : Nat} {v : Value} (h : Len t k lo W fl mk m v) (hb : ∀ b, v.ownBlock = some b → W2.heap[b]? = W.heap[b]?) : Len t k lo W2 fl mk m v := by
  obtain ⟨g, cap, e, ho⟩ := h
  exact ⟨g, cap, e, own_same ho fun b e2 => hb b (by rw [e]; exact e2)⟩
theorem Len.base {t k l1 l2 : Nat} {W : World} {fl : List (List Value)} {mk : List Value} {m : Nat} {v : Value} (h : Len t k l1 W fl mk m v) (hb : l2 ≤ l1) : Len t k l2 W fl mk m v := by
  obtain ⟨g, cap, e, ho⟩ := h
  exact ⟨g, cap, e, own_base ho hb⟩
theorem Len.blk {t k lo : Nat} {W : World} {fl : List (List Value)} {mk : List Value} {m : Nat} {v : Value} (h : Len t k lo W fl mk m v) : ∀ g, v.ownBlock = some g → lo ≤ g ∧ g < W.heap.size := by
  obtain ⟨g, cap, e, ho⟩ := h
  intro b hb
  rw [e] at hb
  exact World.ownsRow.lt ho b hb
theorem Len.one {t k lo : Nat} {W : World} {fl : List (List Value)} {mk : List Value} {m : Nat} {v : Value} (h : Len t k lo W fl mk m v) : v.oneCell' = true := by
  obtain ⟨g, cap, e, ho⟩ := h
  rw [e]; rfl
theorem Len.rws {t k lo : Nat} {W : World} {fl : List (List Value)} {mk : List Value} {m : Nat} {v : Value} (h : Len t k lo W fl mk m v) (ok : ∀ r ∈ fl, isT t k r) : Rws t k W v fl := by
  obtain ⟨g, cap, e, ho⟩ := h
  rw [e]
  exact own_rws ok ho _
/-- .. OPENED. -/
theorem Len.open {t k lo : Nat} {W : World} {fl : List (List Value)} {mk : List Value} {m : Nat} {v : Value} (h : Len t k lo W fl mk m v) (ok : ∀ r ∈ fl, isT t k r) : ∃ g cap, v = .slice (some ⟨g, 0, none⟩) fl.length cap ∧ fl.length + m ≤ cap ∧ lo ≤ g ∧ g < W.heap.size ∧ (∀ j, W.frozen? ⟨g, j, none⟩ = false) ∧ (∀ j u, mk[j]? = some u → W.cell? ⟨g, fl.length * k + j, none⟩ = some u) := by
  obtain ⟨g, cap, e, ho⟩ := h
  refine ⟨g, cap, e, owns_cap ho, (World.ownsRow.lt ho g rfl).1, (World.ownsRow.lt ho g rfl).2, fun j => owns_fro ho j, fun j u hj => owns_at ho _ _ ?_⟩
  have hl := flat_len ok
  rw [List.getElem?_append_right (by omega), hl, Nat.add_sub_cancel_left]
  exact hj
def mkA : List Value := [.string ⟨#[42]⟩, .int .i64 0, .string ⟨#[]⟩]
def mkS : List Value := [.string ⟨#[42]⟩, .string ⟨#[42, 42]⟩]
theorem tyS : Ty 47 9 1 16 (.string ⟨#[]⟩) := ⟨Tryd.underlying47, by kernel_rfl, by kernel_rfl, by decide⟩
theorem zeroF : ∃ zc : List Value, (Tryd.prog.info? 40).map (fun i => (i.zero, i.size, i.bytes)) = some (some (.agg zc.toArray), 34, 56) ∧ zc.length = 34 :=
  ⟨((((Tryd.prog.info? 40).bind (·.zero)).map fun z => z.cells.toList).getD []), by kernel_rfl, by kernel_rfl⟩
theorem tyF : ∃ z, Ty 24 40 34 56 z := by
  obtain ⟨zc, h, hl⟩ := zeroF
  exact ⟨_, Tryd.underlying24, h, by show zc.toArray.size = 34; simpa using hl, by decide⟩
/-- A LIST LENT, WITH MARKS BEHIND IT: THE TWO APPENDS. -/
theorem lend {t e k bytes : Nat} {z : Value} (T : Ty t e k bytes z) {wr : World} {fl : List (List Value)} {xa : Option Addr} {xc : Nat} (h : Rws e k wr (.slice xa fl.length xc) fl) (mk : List Value) {m : Nat} (hm0 : 0 < m) (hmk : mk.length = m * k) (hm1 : ∀ u ∈ mk, u.oneCell' = true) (h63 : fl.length + m ≤ maxLen) (hn : (fl.length + m) * bytes ≤ 140737488355328) (ty : TypeId) :
    ∃ v1 W1 g cap W2, (Builtin.append_ #[t, t] ty #[.slice (some ⟨wr.heap.size, 0, none⟩) 0 0, .slice xa fl.length xc]).run Tryd.prog (wr.alloc (.cells #[] e)) = .ok v1 W1 ∧
      (Builtin.append_ #[t, t] ty #[v1, .slice (some ⟨W1.heap.size, 0, none⟩) m m]).run Tryd.prog (W1.alloc (.cells mk.toArray e)) = .ok (.slice (some ⟨g, 0, none⟩) (fl.length + m) cap) W2 ∧
      fl.length + m ≤ cap ∧ Len e k wr.heap.size W2 fl mk m (.slice (some ⟨g, 0, none⟩) fl.length cap) ∧ Below wr.heap.size wr W2 := by
  obtain ⟨i0, hi0, hz0, hz1, hz2⟩ := info_parts2 T.inf
  obtain ⟨v1, W1, g, cap, W2, h1, h2, h3, h4⟩ := app2 (P := Tryd.prog) t ty e i0 z k bytes T.und hi0 hz0 hz1 hz2 T.zs T.pos fl.length m hm0 fl.flatten mk (flat_len h.ok) (flat_one h.ok) hmk hm1 hn h63 xa xc wr h.src
  exact ⟨v1, W1, g, cap, W2, h1, h2, owns_cap h3, ⟨g, cap, rfl, h3⟩, h4⟩
/-- TEXTS IN NEW MEMORY. -/
theorem texts_run {w : World} {fl : List (List Value)} {xa : Option Addr} {xc : Nat} (h : Rws 9 1 w (.slice xa fl.length xc) fl) (hl : fl.length ≤ 8796093021952) (ty : TypeId) :
    ∃ v1 W1, (Builtin.append_ #[47, 47] ty #[.slice none 0 0, .slice xa fl.length xc]).run Tryd.prog w = .ok v1 W1 ∧ W1.ownsRow w.heap.size 9 1 v1 fl.length fl.flatten ∧ Below w.heap.size w W1 := by
  obtain ⟨i0, hi0, hz0, hz1, hz2⟩ := info_parts2 tyS.inf
  rcases h.src with h0 | ⟨b, o, rfl, hbl, hc⟩
  · have e : fl = [] := List.length_eq_zero_iff.1 h0
    subst e
    refine ⟨.slice none 0 0, w, ?_, World.ownsRow_nil _ _ _ _, Below.refl _ _⟩
    have hl : ∀ (x : Addr), (loadCells x 0).run Tryd.prog w = .ok #[] w := fun x => by simpa using run_loadCells_list (P := Tryd.prog) w x [] (by simp)
    cases xa <;> simp [Builtin.append_, run_underlying tyS.und, sizeOf, typeInfo, hi0, Builtin.lenOf, Builtin.firstCells, hl]
  · obtain ⟨v1, W1, hr, h2, h3, _, h5⟩ := run_append_own_at (P := Tryd.prog) w w.heap.size 47 ty 9 i0 (.string ⟨#[]⟩) 1 16 tyS.und hi0 hz0 hz1 hz2 rfl (by decide) (.slice none 0 0) 0 [] (World.ownsRow_nil _ _ _ _) ⟨b, o, none⟩ fl.length xc fl.flatten (flat_len h.ok)
      (fun j u hj => by rw [Addr.add_mid]; exact hc j u hj) (flat_one h.ok) (by unfold maxLen; omega) (by omega) (Nat.le_refl _)
    rw [Nat.zero_add, List.nil_append] at h2
    exact ⟨v1, W1, hr, h2, (Below.refl _ w).grown h3 (Nat.le_refl _) (fun k hk => by cases hk)⟩
theorem size_setCells (b : Nat) : ∀ (vs : List Value) (o : Nat) (u : World), (u.setCells b o vs).heap.size = u.heap.size
  | [], _, _ => rfl
  | v :: r, o, u => by rw [World.setCells, size_setCells b r]; simp
theorem below_setCells {w : World} {base : Nat} (b : Nat) (hb : base ≤ b) : ∀ (vs : List Value) (o : Nat) (u : World), Below base w u → Below base w (u.setCells b o vs)
  | [], _, _, h => h
  | v :: r, o, u, h => by
    rw [World.setCells]
    exact below_setCells b hb r (o + 1) _ (h.setCell (p := ⟨b, o, none⟩) hb v)
theorem heap_setCells (b : Nat) : ∀ (vs : List Value) (o : Nat) (u : World) (k : Nat), k ≠ b → (u.setCells b o vs).heap[k]? = u.heap[k]?
  | [], _, _, _, _ => rfl
  | v :: r, o, u, k, h => by
    rw [World.setCells, heap_setCells b r (o + 1) _ k h]
    exact Below.heap_setCell u ⟨b, o, none⟩ v k h
/-- ROWS THAT ARE TURNED ABOUT WITHIN THEIR BLOCK. -/
structure Ab (w0 W : World) (g N : Nat) (csl rows : List (List Value)) : Prop where
  len : rows.length = N
  mem : ∀ r ∈ rows, r ∈ csl
  at_ : ∀ j r, rows[j]? = some r → W.rangeAt g (j * 44) r
  spot : ∀ t, t < N * 44 → (W.cell? ⟨g, t, none⟩).isSome = true
  fr : ∀ t, W.frozen? ⟨g, t, none⟩ = false
  lt : g < W.heap.size
  oth : ∀ b, b ≠ g → W.heap[b]? = w0.heap[b]?
  size : W.heap.size = w0.heap.size
  bel : ∀ B, B ≤ g → Below B w0 W
theorem Ab.drew {w0 W : World} {g N : Nat} {csl rows : List (List Value)} (h : Ab w0 W g N csl rows) : Ab w0 W.drew g N csl rows :=
  ⟨h.len, h.mem, h.at_, h.spot, h.fr, h.lt, h.oth, h.size, fun B hB => (h.bel B hB).drew⟩
theorem Ab.there {w0 W : World} {g N : Nat} {csl rows : List (List Value)} (h : Ab w0 W g N csl rows) {i : Nat} (hi : i < N) : W.there g (i * 44) 44 := fun j hj => ⟨h.spot _ (by omega), h.fr _⟩
theorem Ab.put {w0 W : World} {g N : Nat} {csl rows : List (List Value)} (h : Ab w0 W g N csl rows) (c44 : ∀ r ∈ csl, r.length = 44) {i : Nat} (hi : i < N) {x : List Value} (hx : x ∈ csl) : Ab w0 (W.setCells g (i * 44) x) g N csl (rows.set i x) := by
  have hxl := c44 x hx
  refine ⟨by rw [List.length_set]; exact h.len, fun r hr => ?_, fun j r hj => ?_, fun t ht => World.isSome_setCells _ _ _ _ _ (h.spot t ht), fun t => by rw [World.frozen?_setCells]; exact h.fr t, by rw [size_setCells]; exact h.lt, fun b hb => (heap_setCells g x _ W b hb).trans (h.oth b hb), by rw [size_setCells]; exact h.size, fun B hB => below_setCells g hB x _ W (h.bel B hB)⟩
  · rcases List.mem_or_eq_of_mem_set hr with q | rfl
    · exact h.mem r q
    · exact hx
  · by_cases e : i = j
    · subst e
      rw [List.getElem?_set_self (by rw [h.len]; exact hi)] at hj
      cases hj
      exact World.rangeAt_setCells_same W g (i * 44) x (by rw [hxl]; exact h.there hi)
    · rw [List.getElem?_set_ne e] at hj
      have hr := c44 r (h.mem r (List.mem_of_getElem? hj))
      exact World.rangeAt_setCells_apart (h.at_ j r hj) _ _ _ (.inr (by rw [hr, hxl]; omega))
section
variable {ops : Array Oper} {rest : List Oper} {o : Oper} {a : Act} {w : World} {Q : Exit → Act → World → Prop}
theorem m_store {t k : Nat} (hs : (Tryd.prog.info? t).map (·.size) = some k) (x y : Operand) (ho : o.op = .store t x y) (hw : Region.wanted o (yielded ops a.tmps) = true) (b off : Nat) (hx : a.eval x = .pointer (some ⟨b, off, none⟩)) (l : List Value) (hy : a.eval y = .agg l.toArray) (hl : l.length = k) (h1 : ∀ x ∈ l, x.oneCell' = true) (ht : w.there b off k)
    (h : wpList Tryd.prog ops Q rest (a.put o.dst undef) (w.setCells b off l)) : wpList Tryd.prog ops Q (o :: rest) a w := by
  refine BigFrame.wpList_want hw fun K hK => ?_
  exact wp_store_mid t x y ho b off l.toArray hx hy (by rw [List.size_toArray, hl]; exact ht) (by rw [hs, List.size_toArray, hl]) (all_oneCell_toArray h1) (hK _ _ h)
end
end Go.Proofs.YtkpkpebljkcmkaaDoor
