import Derived.Test.YtboajcpfoejfeaaTzL
import Derived.MakeChecks
namespace Go.Proofs.Ytboajcpfoejfeaa
open Go.RowKit Go.Maps

theorem buildC (z : Int) : ∀ s : List Int, s.length = 32 → Try.prog.built 36 [(0, .int .i64 z), (1, .agg (sC s).toArray)] = some (cC (z, s)).toArray
  | [a0, a1, a2, a3, a4, a5, a6, a7, a8, a9, a10, a11, a12, a13, a14, a15, a16, a17, a18, a19, a20, a21, a22, a23, a24, a25, a26, a27, a28, a29, a30, a31], _ => by kernel_rfl
/-- WHERE A CONTENT'S GROUP STANDS, IN A MAP. -/
structure RepC (D : DataW Value) (ks : List Ky) : Prop where
  has : ∀ k, Kok k → Maps.has D (klC k) = decide (k ∈ ks)
  at_ : ∀ k, Kok k → ∀ z, D.atKey (klC k) z = if k ∈ ks then .held (.int .i64 (ks.idxOf k : Nat)) else z
theorem RepC.start : RepC (.map []) [] := ⟨fun _ _ => rfl, fun _ _ _ => rfl⟩
theorem RepC.put {D : DataW Value} {ks : List Ky} (r : RepC D ks) (hD : IsMap D) {k : Ky} (hk : Kok k) (hn : k ∉ ks) : RepC (D.put (klC k) (.held (.int .i64 (ks.length : Nat)))) (ks ++ [k]) := by
  refine ⟨fun y hy => ?_, fun y hy z => ?_⟩
  · by_cases e : y = k
    · subst e
      rw [has_put_same hD (show WideAt.IsKeyLit (klC y) from trivial)]
      exact (decide_eq_true (by simp)).symm
    · rw [has_put_other (fun q => e (klC_inj hy hk q)), r.has y hy]
      exact decide_eq_decide.2 (by simp [e])
  · by_cases e : y = k
    · subst e
      rw [atKey_put_same hD (show WideAt.IsKeyLit (klC y) from trivial), if_pos (by simp), List.idxOf_append, if_neg hn]
      simp
    · rw [atKey_put_other (fun q => e (klC_inj hy hk q)), r.at_ y hy]
      by_cases q : y ∈ ks
      · rw [if_pos q, if_pos (by simp [q]), List.idxOf_append, if_pos q]
      · rw [if_neg q, if_neg (by simp [q, e])]
def Dc (W : World) (b : Nat) (ks : List Ky) (k : Nat) : Prop := ∃ D, W.ownsMap Try.prog 36 raw b k D ∧ RepC D ks
theorem Dc.lt {W : World} {b : Nat} {ks : List Ky} {k : Nat} (h : Dc W b ks k) : b < W.heap.size := let ⟨_, o, _⟩ := h; o.lt
theorem Dc.obj {W : World} {b : Nat} {ks : List Ky} {k : Nat} (h : Dc W b ks k) : ∃ es clock, W.heap[b]? = some (.map es clock) := by
  obtain ⟨D, ⟨es, clock, h1, h2⟩, r⟩ := h
  exact ⟨es, clock, h1⟩
theorem Dc.same {W W2 : World} {b : Nat} {ks : List Ky} {k : Nat} (h : Dc W b ks k) (hb : W2.heap[b]? = W.heap[b]?) : Dc W2 b ks k := by
  obtain ⟨D, ⟨es, clock, h1, h2⟩, r⟩ := h
  exact ⟨D, ⟨es, clock, hb.trans h1, h2⟩, r⟩
theorem Dc.later {W W2 : World} {b : Nat} {ks : List Ky} {k : Nat} (h : Dc W b ks k) (hb : Below W.heap.size W W2) : Dc W2 b ks k := h.same (hb.block b h.lt)
theorem Dc.make (W : World) : Dc (W.alloc (.map #[] 0)) W.heap.size [] 0 := ⟨_, World.ownsMap_made W Try.prog 36 raw, RepC.start⟩
theorem zero3 (w : World) : (zeroValue 3).run Try.prog w = .ok (.int .i64 0) w := by kernel_rfl
theorem Dc.look {W : World} {b : Nat} {ks : List Ky} {k : Nat} (h : Dc W b ks k) {x : Ky} (hx : Kok x) : (Instr.lookup 34 (.map (some b)) (.agg (cC x).toArray) true).run Try.prog W = .ok (.tuple #[.int .i64 (if x ∈ ks then ((ks.idxOf x : Nat) : Int) else 0), .bool (decide (x ∈ ks))]) W := by
  obtain ⟨D, ho, r⟩ := h
  obtain ⟨v, ps, hr, hv2⟩ := ho.look_ok lawC Try.underlying34 (zero3 W) (zd := .held (.int .i64 0)) (zp := []) rfl (keyC hx)
  have e := raw_inv hv2
  rw [r.at_ x hx] at e
  have e2 : v = .int .i64 (if x ∈ ks then ((ks.idxOf x : Nat) : Int) else 0) := by
    by_cases q : x ∈ ks
    · rw [if_pos q] at e; rw [if_pos q]; cases e; rfl
    · rw [if_neg q] at e; rw [if_neg q]; cases e; rfl
  rw [hr, r.has x hx, e2]
theorem Dc.put {W : World} {b k : Nat} {ks : List Ky} (h : Dc W b ks k) (hk : k < maxLen) {x : Ky} (hx : Kok x) (hn : x ∉ ks) :
    ∃ W2, (Instr.mapUpdate 34 (.map (some b)) (.agg (cC x).toArray) (.int .i64 (ks.length : Nat))).run Try.prog W = .ok () W2 ∧ Dc W2 b (ks ++ [x]) (k + 1) ∧ Fx (fun c => c = b) W W2 := by
  obtain ⟨D, ho, r⟩ := h
  obtain ⟨W2, hr, ho2, ht⟩ := ho.store lawC Try.underlying34 hk (keyC hx) (val := .int .i64 (ks.length : Nat)) (d := .held (.int .i64 (ks.length : Nat))) (ps := []) rfl
  have hg := ht.grown
  exact ⟨W2, hr, ⟨_, ho2, r.put ho.isMap hx hn⟩, ⟨hg.1, hg.2, hg.3, hg.size, fun _ h => absurd h (Nat.not_lt_zero _)⟩, fun c hc hn => hg.block c hc (by intro q; cases q; exact hn rfl)⟩
/-- A STRUCT IN A BLOCK OF ITS OWN. -/
structure Bk (t : TypeId) (n : Nat) (w : World) (g : Nat) (cs : List Value) : Prop where
  len : cs.length = n
  one : ∀ x ∈ cs, x.oneCell' = true
  at_ : w.heap[g]? = some (.cells cs.toArray t (0, 0))
theorem Bk.cell {t n : Nat} {w : World} {g : Nat} {cs : List Value} (h : Bk t n w g cs) {j : Nat} {v : Value} (hj : cs[j]? = some v) : w.cell? ⟨g, j, none⟩ = some v := by
  rw [(cell_blk h.at_ j).1]
  simpa using hj
theorem Bk.later {t n : Nat} {w w2 : World} {g : Nat} {cs : List Value} (h : Bk t n w g cs) (hb : Below w.heap.size w w2) : Bk t n w2 g cs := ⟨h.len, h.one, (hb.block g (blk_lt h.at_)).trans h.at_⟩
theorem infoC2 : ∃ zc : List Value, (Try.prog.info? 36).map (fun i => (i.zero, i.size)) = some (some (.agg zc.toArray), 33) ∧ zc.length = 33 ∧ zc.all (·.oneCell') = true :=
  ⟨((((Try.prog.info? 36).bind (·.zero)).map fun z => z.cells.toList).getD []), by kernel_rfl, by kernel_rfl, by kernel_rfl⟩
theorem infoF2 : ∃ zc : List Value, (Try.prog.info? 32).map (fun i => (i.zero, i.size)) = some (some (.agg zc.toArray), 34) ∧ zc.length = 34 ∧ zc.all (·.oneCell') = true :=
  ⟨((((Try.prog.info? 32).bind (·.zero)).map fun z => z.cells.toList).getD []), by kernel_rfl, by kernel_rfl, by kernel_rfl⟩
section
variable {ops : Array Oper} {rest : List Oper} {o : Oper} {a : Act} {w : World} {Q : Exit → Act → World → Prop}
theorem b_alloc {t n : Nat} (hin : ∃ zc : List Value, (Try.prog.info? t).map (fun i => (i.zero, i.size)) = some (some (.agg zc.toArray), n) ∧ zc.length = n ∧ zc.all (·.oneCell') = true) (ho : o.op = .alloc t) (hw : Region.wanted o (yielded ops a.tmps) = true)
    (h : ∀ w2 zc, Bk t n w2 w.heap.size zc → Below w.heap.size w w2 → w.heap.size + 1 ≤ w2.heap.size ∧ w2.heap.size ≤ w.heap.size + 1 → wpList Try.prog ops Q rest (a.put o.dst (.pointer (some ⟨w.heap.size, 0, none⟩))) w2) : wpList Try.prog ops Q (o :: rest) a w := by
  refine BigFrame.wpList_want hw fun K hK => ?_
  obtain ⟨zc, h1, h2, h3⟩ := hin
  unfold Oper.wp execOp
  simp only [ho, Sem.run_bind, Instr.alloc, (zero_of_info h1).1, newVar, newRow, run_newObj_alloc, Sem.run_pure, Result.andThen_ok]
  exact hK _ _ (h _ zc ⟨h2, List.all_eq_true.1 h3, heap_alloc_new w _⟩ ((Below.refl _ _).alloc (Nat.le_refl _) _) (by simp))
theorem b_store {t n : Nat} (hsz : (Try.prog.info? t).map (·.size) = some n) (x y : Operand) (ho : o.op = .store t x y) (hw : Region.wanted o (yielded ops a.tmps) = true) (g : Nat) (hx : a.eval x = .pointer (some ⟨g, 0, none⟩)) (l : List Value) (hy : a.eval y = .agg l.toArray) (hl : l.length = n) (h1 : ∀ x ∈ l, x.oneCell' = true) (l0 : List Value) (hb : Bk t n w g l0)
    (h : ∀ w2, Bk t n w2 g l → (∀ B, B ≤ g → Below B w w2) → wpList Try.prog ops Q rest (a.put o.dst undef) w2) : wpList Try.prog ops Q (o :: rest) a w := by
  refine BigFrame.wpList_want hw fun K hK => ?_
  refine wp_store_row t x y ho g _ hx hy t _ hb.at_ (by rw [hsz, List.size_toArray, hl]) (by rw [List.size_toArray, List.size_toArray, hl, hb.len]) (by rw [List.all_toArray]; exact List.all_eq_true.2 h1) (hK _ _ ?_)
  exact h _ ⟨hl, h1, setRow_heap w g _ _ t (0, 0) hb.at_⟩ (fun B hB => ⟨rfl, rfl, rfl, by simp, fun k hk => setRow_other w g k _ (by omega)⟩)
theorem c_build (parts : Array (Nat × Operand)) (ho : o.op = .build 36 parts) (hg : o.guard = none) (cs : List Value) (hb : Try.prog.built 36 (parts.map fun (i, x) => (i, a.eval x)).toList = some cs.toArray)
    (h : wpList Try.prog ops Q rest (a.put o.dst (.agg cs.toArray)) w) : wpList Try.prog ops Q (o :: rest) a w :=
  wpList_build hg _ parts ho (by rw [hb]; rfl) (by rw [hb]; exact h)
end
theorem fnew {wr w2 w3 : World} (k2 : Below wr.heap.size wr w2) (k3 : ∀ B, B ≤ wr.heap.size → Below B w2 w3) : Below wr.heap.size wr w3 := k2.trans (k3 _ (Nat.le_refl _))
/-- NO TWO GROUPS IN ONE BLOCK. -/
def Inj (E : List En) : Prop := ∀ (i j g : Nat) (x y : En), E[i]? = some x → E[j]? = some y → x.1.ownBlock = some g → y.1.ownBlock = some g → i = j
/-- THE GROUPS WHILE THEY ARE MADE. -/
structure Tg (w wr : World) (gv : Value) (mb : Nat) (l : List Fi) (E : List En) (k : Nat) : Prop where
  ga : Ga w wr gv E
  inj : Inj E
  eq : E.map (·.2) = grp l
  mp : Dc wr mb (hds l) k
  lo : w.heap.size ≤ mb
theorem Tg.later {w wr X : World} {gv : Value} {mb : Nat} {l : List Fi} {E : List En} {k : Nat} (h : Tg w wr gv mb l E k) (hb : Below wr.heap.size wr X) : Tg w X gv mb l E k :=
  ⟨h.ga.later hb, h.inj, h.eq, h.mp.later hb, h.lo⟩
theorem own_type {W : World} {lo e size n : Nat} {v : Value} {xs : List Value} (h : W.ownsRow lo e size v n xs) {g : Nat} (hg : v.ownBlock = some g) : ∃ cur, W.heap[g]? = some (.cells cur e (0, 0)) := by
  rcases h.2 with ⟨q, _⟩ | ⟨g2, cap, cur, e2, _, hh, _⟩
  · rw [q] at hg; cases hg
  · rw [e2] at hg; cases hg; exact ⟨cur, hh⟩
/-- THE OUTER LIST AND THE MAP WHERE NOTHING BUT ROWS CHANGES. -/
theorem Ga.fx {w wr X : World} {gv : Value} {E : List En} {P : Nat → Prop} (h : Ga w wr gv E) (f : Fx P wr X) (hp : ∀ b, P b → w.heap.size ≤ b) (h1 : ∀ g, gv.ownBlock = some g → ¬ P g) (h2 : ∀ e ∈ E, ∀ g, e.1.ownBlock = some g → ¬ P g) : Ga w X gv E :=
  ⟨own_same h.row fun g e => f.blk g (World.ownsRow.lt h.row g e).2 (h1 g e), fun e he => own_same (h.own e he) fun g q => f.blk g (World.ownsRow.lt (h.own e he) g q).2 (h2 e he g q), h.bw.trans (f.below h.bw.size fun b hb q => by have := hp b q; omega)⟩
/-- A NEW CONTENT IN THE MAP. -/
theorem Tg.putm {w wr : World} {gv : Value} {mb : Nat} {l : List Fi} {E : List En} {k : Nat} (h : Tg w wr gv mb l E k) (hk : k < maxLen) {f : Fi} (hf : f.ok) (hn : f.k ∉ hds l) :
    ∃ W2, (Instr.mapUpdate 34 (.map (some mb)) (.agg (cC f.k).toArray) (.int .i64 (E.length : Nat))).run Try.prog wr = .ok () W2 ∧ Ga w W2 gv E ∧ Dc W2 mb (hds l ++ [f.k]) (k + 1) ∧ Fx (fun c => c = mb) wr W2 := by
  have hlen : E.length = (hds l).length := by have := congrArg List.length h.eq; rw [List.length_map, grp_len] at this; exact this
  obtain ⟨W2, h1, h2, h3⟩ := h.mp.put hk hf.kok hn
  obtain ⟨es, clock, ho⟩ := h.mp.obj
  rw [hlen]
  refine ⟨W2, h1, h.ga.fx h3 (fun b e => by rw [e]; exact h.lo) (fun g e q => ?_) (fun e he g e2 q => ?_), h2, h3⟩
  · obtain ⟨cur, hc⟩ := own_type h.ga.row e
    rw [q, ho] at hc; cases hc
  · obtain ⟨cur, hc⟩ := own_type (h.ga.own e he) e2
    rw [q, ho] at hc; cases hc
/-- AN EMPTY GROUP MORE. -/
theorem own_nil (w : World) (lo e : Nat) : w.ownsRow lo e 1 (.slice none 0 0) 0 [] := ⟨rfl, .inl ⟨rfl, rfl⟩⟩
theorem inj_nil {E : List En} (h : Inj E) : Inj (E ++ [(.slice none 0 0, [])]) := fun i j g x y hx hy hg hk => by
  have hh : ∀ (i : Nat) (x : En), (E ++ [((.slice none 0 0, []) : En)])[i]? = some x → x.1.ownBlock = some g → E[i]? = some x := fun i x hx hg => by
    by_cases hi : i < E.length
    · rwa [List.getElem?_append_left hi] at hx
    · rw [List.getElem?_append_right (by omega)] at hx
      have h0 : i - E.length = 0 := by have := (List.getElem?_eq_some_iff.1 hx).1; simp at this; omega
      rw [h0] at hx
      cases hx
      cases hg
  exact h i j g x y (hh i x hx hg) (hh j y hy hk) hg hk
theorem inj_set {E : List En} (h : Inj E) {at_ : Nat} {h0 : En} (ha : E[at_]? = some h0) {x' : En} (hn : ∀ g, x'.1.ownBlock = some g → h0.1.ownBlock = some g ∨ ∀ (j : Nat) (y : En), E[j]? = some y → y.1.ownBlock ≠ some g) : Inj (E.set at_ x') := fun i j g x y hx hy hg hk => by
  have hat := (List.getElem?_eq_some_iff.1 ha).1
  rw [List.getElem?_set] at hx hy
  by_cases ei : at_ = i
  · rw [if_pos ei] at hx
    by_cases ej : at_ = j
    · omega
    · rw [if_neg ej] at hy
      rw [if_pos (by omega)] at hx
      cases hx
      rcases hn g hg with q | q
      · exact absurd (h at_ j g _ _ ha hy q hk) ej
      · exact absurd hk (q j y hy)
  · rw [if_neg ei] at hx
    by_cases ej : at_ = j
    · rw [if_pos ej, if_pos (by omega)] at hy
      cases hy
      rcases hn g hk with q | q
      · exact absurd (h at_ i g _ _ ha hx q hg) ei
      · exact absurd hg (q i x hx)
    · rw [if_neg ej] at hy
      exact h i j g x y hx hy hg hk
end Go.Proofs.Ytboajcpfoejfeaa
