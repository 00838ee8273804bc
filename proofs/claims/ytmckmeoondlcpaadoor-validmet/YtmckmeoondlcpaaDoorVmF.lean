import Derived.Test.YtmckmeoondlcpaaDoorVmE
import Derived.Deep.WholeRow
import Derived.BigFrame
import Derived.DeepKeys
import Derived.Deep.MidRow
namespace Go.Proofs.YtmckmeoondlcpaaDoor
open Go.RowKit

/-- THE CELLS OF A FILE; OF A SUM. -/
def isF (cs : List Value) : Prop := cs.length = 34 ∧ (∃ ls, Tryd.prog.keyLits 6 40 cs = some ls) ∧ ∀ v ∈ cs, v.oneCell' = true
def isU (cs : List Value) : Prop := cs.length = 32 ∧ (∃ ls, Tryd.prog.keyLits 6 36 cs = some ls) ∧ ∀ v ∈ cs, v.oneCell' = true
theorem keyF : Tryd.prog.keyTypeAt 5 40 = true := by kernel_rfl
theorem keyU : Tryd.prog.keyTypeAt 5 36 = true := by kernel_rfl
theorem cellsF : Tryd.prog.cellsOf 40 = 34 := by kernel_rfl
theorem cellsU : Tryd.prog.cellsOf 36 = 32 := by kernel_rfl
theorem infoF : (Tryd.prog.info? 40).map (·.size) = some 34 := by kernel_rfl
theorem infoU : (Tryd.prog.info? 36).map (·.size) = some 32 := by kernel_rfl
theorem formF {x : List Value} (hx : isF x) : (Value.agg x.toArray).formed Tryd.prog 40 = true := by
  unfold Value.formed
  rw [Tryd.underlying40, cellsF]
  simp [hx.1]
theorem formU {x : List Value} (hx : isU x) : (Value.agg x.toArray).formed Tryd.prog 36 = true := by
  unfold Value.formed
  rw [Tryd.underlying36, cellsU]
  simp [hx.1]
theorem neqF (x : List Value) (hx : isF x) (w : World) : (binOp .neq 40 (.agg x.toArray) (.agg x.toArray)).run Tryd.prog w = .ok (.bool false) w := by
  obtain ⟨ls, hls⟩ := hx.2.1
  obtain ⟨r, hr, hiff⟩ := run_equalIn_deep (P := Tryd.prog) (10000 - 5) 5 40 keyF w 6 6 (.agg x.toArray) (.agg x.toArray) ls ls (formF hx) (formF hx) (by simpa [Value.cells] using hls) (by simpa [Value.cells] using hls)
  rw [run_neq_struct, show (10000 : Nat) = 10000 - 5 + 5 from rfl, hr, hiff.2 rfl]
  rfl
theorem neqU (x : List Value) (hx : isU x) (w : World) : (binOp .neq 36 (.agg x.toArray) (.agg x.toArray)).run Tryd.prog w = .ok (.bool false) w := by
  obtain ⟨ls, hls⟩ := hx.2.1
  obtain ⟨r, hr, hiff⟩ := run_equalIn_deep (P := Tryd.prog) (10000 - 5) 5 36 keyU w 6 6 (.agg x.toArray) (.agg x.toArray) ls ls (formU hx) (formU hx) (by simpa [Value.cells] using hls) (by simpa [Value.cells] using hls)
  rw [run_neq_struct, show (10000 : Nat) = 10000 - 5 + 5 from rfl, hr, hiff.2 rfl]
  rfl
/-- FILES AS THEY LIE. -/
def Fls (w : World) (v : Value) (fl : List (List Value)) : Prop :=
  ∃ a c, v = .slice a fl.length c ∧ fl.length ≤ 9223372036854775807 ∧ ∀ i (h : i < fl.length), isF fl[i] ∧ ∃ b o, a = some ⟨b, o, none⟩ ∧ b < w.heap.size ∧ w.rangeAt b (o + i * 34) fl[i]
theorem rangeAt_later {w w' : World} {b o : Nat} {cs : List Value} (h : w.rangeAt b o cs) (hl : b < w.heap.size) (hb : Below w.heap.size w w') : w'.rangeAt b o cs := fun j v hv => (hb.cell (p := ⟨b, o + j, none⟩) hl).trans (h j v hv)
theorem Fls.later {w w' : World} {v : Value} {fl : List (List Value)} (h : Fls w v fl) (hb : Below w.heap.size w w') : Fls w' v fl := by
  obtain ⟨a, c, h1, h2, h3⟩ := h
  refine ⟨a, c, h1, h2, fun i hi => ?_⟩
  obtain ⟨hf, b, o, e1, e2, e3⟩ := h3 i hi
  exact ⟨hf, b, o, e1, Nat.lt_of_lt_of_le e2 hb.size, rangeAt_later e3 e2 hb⟩
theorem Fls.at {w : World} {va : Option Addr} {n vc : Nat} {fl : List (List Value)} (h : Fls w (.slice va n vc) fl) {k : Nat} {x : List Value} (hx : fl[k]? = some x) : isF x ∧ ∃ b o, va = some ⟨b, o, none⟩ ∧ b < w.heap.size ∧ w.rangeAt b (o + k * 34) x := by
  obtain ⟨hk, rfl⟩ := List.getElem?_eq_some_iff.1 hx
  obtain ⟨a, c, e, _, h3⟩ := h
  cases e
  exact h3 k hk
theorem Strs.at {w : World} {va : Option Addr} {n vc : Nat} {pl : List ByteArray} (h : Strs w (.slice va n vc) pl) {k : Nat} {x : ByteArray} (hx : pl[k]? = some x) : ∃ b o, va = some ⟨b, o, none⟩ ∧ b < w.heap.size ∧ w.cell? ⟨b, o + k, none⟩ = some (.string x) := by
  obtain ⟨hk, rfl⟩ := List.getElem?_eq_some_iff.1 hx
  obtain ⟨a, c, e, _, h3⟩ := h
  cases e
  exact h3 k hk
/-- A PACKAGE, AS IT READS. -/
structure Pk where
  nm : ByteArray
  vr : ByteArray
  es : Bool
  dp : List (List At)
  pr : List (List At)
  cf : List At
  pv : List ByteArray
  fs : List (List Value)
  ar : ByteArray
  sz : Int
  sm : List Value
  sy : ByteArray
/-- ITS CELLS. -/
structure PkC (cs : List Value) (p : Pk) (d r c v f : Value) : Prop where
  len : cs.length = 43
  one : ∀ x ∈ cs, x.oneCell' = true
  c0 : cs[0]? = some (.string p.nm)
  c1 : cs[1]? = some (.string p.vr)
  c2 : cs[2]? = some (.bool p.es)
  c3 : cs[3]? = some d
  c4 : cs[4]? = some r
  c5 : cs[5]? = some c
  c6 : cs[6]? = some v
  c7 : cs[7]? = some f
  c8 : cs[8]? = some (.string p.ar)
  c9 : cs[9]? = some (.int .i64 p.sz)
  cs0 : ∀ j x, p.sm[j]? = some x → cs[10 + j]? = some x
  c42 : cs[42]? = some (.string p.sy)
/-- WHAT MAY BE ASKED OF ITS LISTS. -/
structure PkZ (p : Pk) : Prop where
  dl : p.dp.length ≤ 5864062014634
  dls : ∀ al ∈ p.dp, al.length ≤ 3518437208883
  rl : p.pr.length ≤ 5864062014634
  rls : ∀ al ∈ p.pr, al.length ≤ 3518437208883
  cl : p.cf.length ≤ 3518437208883
  vl : p.pv.length ≤ 8796093021952
  fl : p.fs.length ≤ 2513169434843
  sl : isU p.sm
/-- ITS LISTS. -/
structure PkL (w : World) (p : Pk) (d r c v f : Value) : Prop where
  dl : Cls w d p.dp
  rl : Cls w r p.pr
  cl : Ats w c p.cf
  vl : Strs w v p.pv
  fl : Fls w f p.fs
theorem PkL.later {w w' : World} {p : Pk} {d r c v f : Value} (h : PkL w p d r c v f) (hb : Below w.heap.size w w') : PkL w' p d r c v f :=
  ⟨h.dl.later hb, h.rl.later hb, h.cl.later hb, h.vl.later hb, h.fl.later hb⟩
/-- PACKAGES AS THEY LIE. -/
def Pkl (w : World) (v : Value) (ps : List Pk) : Prop := ∃ a c, v = .slice a ps.length c ∧ (0 < ps.length → ∃ b o, a = some ⟨b, o, none⟩ ∧ b < w.heap.size ∧ ∀ (i : Nat) (p : Pk), ps[i]? = some p → ∃ cs d r c v f, w.rangeAt b (o + i * 43) cs ∧ PkC cs p d r c v f ∧ PkL w p d r c v f)
theorem Pkl.later {w w' : World} {v : Value} {ps : List Pk} (h : Pkl w v ps) (hb : Below w.heap.size w w') : Pkl w' v ps := by
  obtain ⟨a, c, h1, h2⟩ := h
  refine ⟨a, c, h1, fun h0 => ?_⟩
  obtain ⟨b, o, h3, h4, h5⟩ := h2 h0
  refine ⟨b, o, h3, Nat.lt_of_lt_of_le h4 hb.size, fun i p hp => ?_⟩
  obtain ⟨cs, d, r, c, v, f, k1, k2, k3⟩ := h5 i p hp
  exact ⟨cs, d, r, c, v, f, rangeAt_later k1 h4 hb, k2, k3.later hb⟩
/-- A LIST OF ONE CLAUSE. -/
theorem cls_one {w : World} {b : Nat} {x : Value} {al : List At} (h1 : w.cell? ⟨b, 0, none⟩ = some x) (hb : b < w.heap.size) (hx : Ats w x al) : Cls w (.slice (some ⟨b, 0, none⟩) 1 1) [al] := by
  refine ⟨_, _, rfl, fun _ => ⟨b, 0, rfl, hb, fun i bl hi => ?_⟩⟩
  obtain ⟨hk, rfl⟩ := List.getElem?_eq_some_iff.1 hi
  obtain rfl : i = 0 := by simpa using hk
  obtain ⟨xa, xc, rfl, q⟩ := hx
  exact ⟨xa, xc, h1, ⟨xa, xc, rfl, q⟩⟩

/-- A PACKAGE IN A BLOCK OF ITS OWN. -/
structure BkP (w : World) (g : Nat) (cs : List Value) : Prop where
  len : cs.length = 43
  one : ∀ x ∈ cs, x.oneCell' = true
  at_ : w.heap[g]? = some (.cells cs.toArray 38 (0, 0))
theorem BkP.lt {w : World} {g : Nat} {l : List Value} (h : BkP w g l) : g < w.heap.size := (Array.getElem?_eq_some_iff.1 h.at_).1
theorem BkP.of {w w2 : World} {g : Nat} {l : List Value} (h : BkP w g l) (e : w2.heap[g]? = w.heap[g]?) : BkP w2 g l := ⟨h.len, h.one, e.trans h.at_⟩
theorem BkP.later {w w2 : World} {g : Nat} {l : List Value} (h : BkP w g l) (hb : Below w.heap.size w w2) : BkP w2 g l := h.of (hb.block g h.lt)
theorem BkP.cell {w : World} {g : Nat} {l : List Value} (h : BkP w g l) {i : Nat} {v : Value} (hi : l[i]? = some v) : w.cell? ⟨g, i, none⟩ = some v := by
  rw [cell_of_row w g i _ 38 (0, 0) h.at_]; simpa using hi
theorem BkP.free {w : World} {g : Nat} {l : List Value} (h : BkP w g l) (i : Nat) : w.frozen? ⟨g, i, none⟩ = false := frozen_of_row w g i _ 38 h.at_
theorem BkP.set {w : World} {g : Nat} {l : List Value} (h : BkP w g l) (i : Nat) (v : Value) (hv : v.oneCell' = true) : BkP (w.setCell ⟨g, i, none⟩ v) g (l.set i v) := by
  refine ⟨by rw [List.length_set]; exact h.len, fun x hx => ?_, ?_⟩
  · rcases List.mem_or_eq_of_mem_set hx with hx | rfl
    · exact h.one x hx
    · exact hv
  · rw [heap_setCell_same w g i _ 38 v h.at_]
    simp
theorem infoP : ∃ zc : List Value, (Tryd.prog.info? 38).map (fun i => (i.zero, i.size)) = some (some (.agg zc.toArray), 43) ∧ zc.length = 43 ∧ zc.all (·.oneCell') = true :=
  ⟨((((Tryd.prog.info? 38).bind (·.zero)).map fun z => z.cells.toList).getD []), by kernel_rfl, by kernel_rfl, by kernel_rfl⟩
theorem sizeP : (Tryd.prog.info? 38).map (·.size) = some 43 := by kernel_rfl

theorem stL (w : World) (g i : Nat) (a : Option Addr) (n c : Nat) (old : Value) (hc : w.cell? ⟨g, i, none⟩ = some old) (hz : w.frozen? ⟨g, i, none⟩ = false) :
    (storeVar 26 ⟨g, i, none⟩ (.slice a n c)).run Tryd.prog w = .ok () (w.setCell ⟨g, i, none⟩ (.slice a n c)) := by
  simp [go_sem, hc, hz]
theorem stS (w : World) (g i : Nat) (a : Option Addr) (n c : Nat) (old : Value) (hc : w.cell? ⟨g, i, none⟩ = some old) (hz : w.frozen? ⟨g, i, none⟩ = false) :
    (storeVar 34 ⟨g, i, none⟩ (.slice a n c)).run Tryd.prog w = .ok () (w.setCell ⟨g, i, none⟩ (.slice a n c)) := by
  simp [go_sem, hc, hz]
theorem stG (w : World) (g i : Nat) (a : Option Addr) (n c : Nat) (old : Value) (hc : w.cell? ⟨g, i, none⟩ = some old) (hz : w.frozen? ⟨g, i, none⟩ = false) :
    (storeVar 35 ⟨g, i, none⟩ (.slice a n c)).run Tryd.prog w = .ok () (w.setCell ⟨g, i, none⟩ (.slice a n c)) := by
  simp [go_sem, hc, hz]
section
variable {ops : Array Oper} {rest : List Oper} {o : Oper} {a : Act} {w : World} {Q : Exit → Act → World → Prop}
theorem p_alloc (ho : o.op = .alloc 38) (hw : Region.wanted o (yielded ops a.tmps) = true)
    (h : ∀ w2 zc, BkP w2 w.heap.size zc → Below w.heap.size w w2 → w2.heap.size = w.heap.size + 1 → wpList Tryd.prog ops Q rest (a.put o.dst (.pointer (some ⟨w.heap.size, 0, none⟩))) w2) : wpList Tryd.prog ops Q (o :: rest) a w := by
  refine BigFrame.wpList_want hw fun K hK => ?_
  obtain ⟨zc, h1, h2, h3⟩ := infoP
  unfold Oper.wp execOp
  simp only [ho, Sem.run_bind, Instr.alloc, (zero_of_info h1).1, newVar, newRow, run_newObj_alloc, Sem.run_pure, Result.andThen_ok]
  exact hK _ _ (h _ zc ⟨h2, List.all_eq_true.1 h3, heap_alloc_new w _⟩ ((Below.refl _ _).alloc (Nat.le_refl _) _) (by simp))
theorem p_box (cs : List Value) (hl : cs.length = 43) (h1 : ∀ x ∈ cs, x.oneCell' = true) (x : Operand) (ho : o.op = .box 38 x) (hw : Region.wanted o (yielded ops a.tmps) = true) (hx : a.eval x = .agg cs.toArray)
    (h : ∀ w2, BkP w2 w.heap.size cs → Below w.heap.size w w2 → w2.heap.size = w.heap.size + 1 → wpList Tryd.prog ops Q rest (a.put o.dst (.pointer (some ⟨w.heap.size, 0, none⟩))) w2) : wpList Tryd.prog ops Q (o :: rest) a w := by
  refine BigFrame.wpList_want hw fun K hK => ?_
  unfold Oper.wp execOp
  simp only [ho, Sem.run_bind, Instr.box, hx, newVar, newRow, run_newObj_alloc, Sem.run_pure, Result.andThen_ok]
  exact hK _ _ (h _ ⟨hl, h1, heap_alloc_new w _⟩ ((Below.refl _ _).alloc (Nat.le_refl _) _) (by simp))
theorem p_load (x : Operand) (ho : o.op = .load 38 x) (hw : Region.wanted o (yielded ops a.tmps) = true) (g : Nat) (hx : a.eval x = .pointer (some ⟨g, 0, none⟩)) (l : List Value) (hb : BkP w g l)
    (h : wpList Tryd.prog ops Q rest (a.put o.dst (.agg l.toArray)) w) : wpList Tryd.prog ops Q (o :: rest) a w := by
  refine BigFrame.wpList_want hw fun K hK => ?_
  exact wp_load_row 38 x ho g hx 38 _ _ _ hb.at_ Tryd.underlying38 rfl (by rw [sizeP, List.size_toArray, hb.len]) (hK _ _ h)
theorem p_store (x y : Operand) (ho : o.op = .store 38 x y) (hw : Region.wanted o (yielded ops a.tmps) = true) (g : Nat) (hx : a.eval x = .pointer (some ⟨g, 0, none⟩)) (l : List Value) (hy : a.eval y = .agg l.toArray) (hl : l.length = 43) (h1 : ∀ x ∈ l, x.oneCell' = true) (l0 : List Value) (hb : BkP w g l0)
    (h : ∀ w2, BkP w2 g l → (∀ k, k ≠ g → w2.heap[k]? = w.heap[k]?) → (∀ B, B ≤ g → Below B w w2) → w2.heap.size = w.heap.size → wpList Tryd.prog ops Q rest (a.put o.dst undef) w2) : wpList Tryd.prog ops Q (o :: rest) a w := by
  refine BigFrame.wpList_want hw fun K hK => ?_
  refine wp_store_row 38 x y ho g _ hx hy 38 _ hb.at_ (by rw [sizeP, List.size_toArray, hl]) (by rw [List.size_toArray, List.size_toArray, hl, hb.len]) (by rw [List.all_toArray]; exact List.all_eq_true.2 h1) (hK _ _ ?_)
  exact h _ ⟨hl, h1, setRow_heap w g _ _ 38 (0, 0) hb.at_⟩ (fun k hk => setRow_other w g k _ hk) (fun B hB => ⟨rfl, rfl, rfl, by simp, fun k hk => setRow_other w g k _ (by omega)⟩) (by simp)
theorem p_set (ty : TypeId) (x y : Operand) (ho : o.op = .store ty x y) (hw : Region.wanted o (yielded ops a.tmps) = true) (g i : Nat) (hx : a.eval x = .pointer (some ⟨g, i, none⟩)) (v : Value) (hst : ∀ old, w.cell? ⟨g, i, none⟩ = some old → w.frozen? ⟨g, i, none⟩ = false → (storeVar ty ⟨g, i, none⟩ v).run Tryd.prog w = .ok () (w.setCell ⟨g, i, none⟩ v)) (hy : a.eval y = v) (hv : v.oneCell' = true) (l : List Value) (hb : BkP w g l) (hi2 : i < 43)
    (h : ∀ w2, BkP w2 g (l.set i v) → (∀ k, k ≠ g → w2.heap[k]? = w.heap[k]?) → (∀ B, B ≤ g → Below B w w2) → w2.heap.size = w.heap.size → wpList Tryd.prog ops Q rest (a.put o.dst undef) w2) : wpList Tryd.prog ops Q (o :: rest) a w := by
  refine BigFrame.wpList_want hw fun K hK => ?_
  have hl : i < l.length := by rw [hb.len]; exact hi2
  have hc := hb.cell (List.getElem?_eq_getElem hl)
  have hz := hb.free i
  unfold Oper.wp execOp
  simp only [ho, hx, hy, Instr.storeAt, Instr.sureAddr, Sem.run_bind, Sem.run_pure, Result.andThen_ok]
  rw [hst _ hc hz]
  exact hK _ _ (h _ (hb.set i v hv) (fun j hj => Below.heap_setCell w _ _ j hj) (fun B hB => (Below.refl _ _).setCell (p := ⟨g, i, none⟩) hB _) (by simp))
end
theorem ex_loadP {x : Operand} {ρ : Operand → Value} {o : Oper} {w : World} {g : Nat} {l : List Value} (ho : o.op = .load 38 x) (hx : ρ x = .pointer (some ⟨g, 0, none⟩)) (hb : BkP w g l) : (execOp ρ o).run Tryd.prog w = .ok (.value (.agg l.toArray)) w := by
  unfold execOp
  simp only [ho, hx, Instr.loadAt, Instr.sureAddr, Sem.run_bind, Sem.run_pure, Result.andThen_ok, run_loadVar_row w g 38 38 _ (0, 0) _ hb.at_ Tryd.underlying38 rfl (by rw [sizeP, List.size_toArray, hb.len])]

end Go.Proofs.YtmckmeoondlcpaaDoor
