import Derived.Test.YtdkpglmdncjnbaaGreatDoorZf16
import Derived.Deep.WholeRow
import Derived.BigFrame
import Derived.DeepKeys
namespace Go.Proofs.YtdkpglmdncjnbaaGreatDoor
section
open Go.RowKit
def isF (cs : List Value) : Prop := cs.length = 34 ∧ (∃ ls, Tryz.prog.keyLits 6 58 cs = some ls) ∧ ∀ v ∈ cs, v.oneCell' = true
def isU (cs : List Value) : Prop := cs.length = 32 ∧ (∃ ls, Tryz.prog.keyLits 6 44 cs = some ls) ∧ ∀ v ∈ cs, v.oneCell' = true
theorem keyF : Tryz.prog.keyTypeAt 5 58 = true := by kernel_rfl
theorem keyU : Tryz.prog.keyTypeAt 5 44 = true := by kernel_rfl
theorem cellsF : Tryz.prog.cellsOf 58 = 34 := by kernel_rfl
theorem cellsU : Tryz.prog.cellsOf 44 = 32 := by kernel_rfl
theorem infoF : (Tryz.prog.info? 58).map (·.size) = some 34 := by kernel_rfl
theorem infoU : (Tryz.prog.info? 44).map (·.size) = some 32 := by kernel_rfl
theorem formF {x : List Value} (hx : isF x) : (Value.agg x.toArray).formed Tryz.prog 58 = true := by
 unfold Value.formed
 rw [Tryz.underlying58, cellsF]
 simp [hx.1]
theorem formU {x : List Value} (hx : isU x) : (Value.agg x.toArray).formed Tryz.prog 44 = true := by
 unfold Value.formed
 rw [Tryz.underlying44, cellsU]
 simp [hx.1]
theorem neqF (x : List Value) (hx : isF x) (w : World) : (binOp .neq 58 (.agg x.toArray) (.agg x.toArray)).run Tryz.prog w = .ok (.bool false) w := by
 obtain ⟨ls, hls⟩ := hx.2.1
 obtain ⟨r, hr, hiff⟩ := run_equalIn_deep (P := Tryz.prog) (10000 - 5) 5 58 keyF w 6 6 (.agg x.toArray) (.agg x.toArray) ls ls (formF hx) (formF hx) (by simpa [Value.cells] using hls) (by simpa [Value.cells] using hls)
 rw [run_neq_struct, show (10000 : Nat) = 10000 - 5 + 5 from rfl, hr, hiff.2 rfl]
 rfl
theorem neqU (x : List Value) (hx : isU x) (w : World) : (binOp .neq 44 (.agg x.toArray) (.agg x.toArray)).run Tryz.prog w = .ok (.bool false) w := by
 obtain ⟨ls, hls⟩ := hx.2.1
 obtain ⟨r, hr, hiff⟩ := run_equalIn_deep (P := Tryz.prog) (10000 - 5) 5 44 keyU w 6 6 (.agg x.toArray) (.agg x.toArray) ls ls (formU hx) (formU hx) (by simpa [Value.cells] using hls) (by simpa [Value.cells] using hls)
 rw [run_neq_struct, show (10000 : Nat) = 10000 - 5 + 5 from rfl, hr, hiff.2 rfl]
 rfl
def Fls (w : World) (v : Value) (fl : List (List Value)) : Prop :=
 ∃ a c, v = .slice a fl.length c ∧ fl.length ≤ 9223372036854775807 ∧ ∀ i (h : i < fl.length), isF fl[i] ∧ ∃ b o, a = some ⟨b, o, none⟩ ∧ b < w.heap.size ∧ w.rangeAt b (o + i * 34) fl[i]
theorem rangeAt_later {w w' : World} {b o : Nat} {cs : List Value} (h : w.rangeAt b o cs) (hl : b < w.heap.size) (hb : Below w.heap.size w w') : w'.rangeAt b o cs := fun j v hv => (hb.cell (p := ⟨b, o + j, none⟩) hl).trans (h j v hv)
theorem Fls.later {w w' : World} {v : Value} {fl : List (List Value)} (h : Fls w v fl) (hb : Below w.heap.size w w') : Fls w' v fl := by
 obtain ⟨a, c, h1, h2, h3⟩ := h
 refine ⟨a, c, h1, h2, fun i hi => ?_⟩
 obtain ⟨hf, b, o, e1, e2, e3⟩ := h3 i hi
 exact ⟨hf, b, o, e1, Nat.lt_of_lt_of_le e2 hb.size, rangeAt_later e3 e2 hb⟩
theorem Fls.at {w : World} {va : Option Addr} {n vc : Nat} {fl : List (List Value)} (h : Fls w (.slice va n vc) fl) {k : Nat} {x : List Value} (hx : fl[k]? = some x) : isF x ∧ ∃ b o, va = some ⟨b, o, none⟩ ∧ b < w.heap.size ∧ w.rangeAt b (o + k * 34) x := by
 obtain ⟨hk, rfl⟩ := List.getElem?_eq_some_iff.1 hx
 obtain ⟨a, c, e, _, h3⟩ := h
 cases e
 exact h3 k hk
theorem Strs.at {w : World} {va : Option Addr} {n vc : Nat} {pl : List ByteArray} (h : Strs w (.slice va n vc) pl) {k : Nat} {x : ByteArray} (hx : pl[k]? = some x) : ∃ b o, va = some ⟨b, o, none⟩ ∧ b < w.heap.size ∧ w.cell? ⟨b, o + k, none⟩ = some (.string x) := by
 obtain ⟨hk, rfl⟩ := List.getElem?_eq_some_iff.1 hx
 obtain ⟨a, c, e, _, h3⟩ := h
 cases e
 exact h3 k hk
structure Pk where
 nm : ByteArray
 vr : ByteArray
 es : Bool
 dp : List (List At)
 pr : List (List At)
 cf : List At
 pv : List ByteArray
 fs : List (List Value)
 ar : ByteArray
 sz : Int
 sm : List Value
 sy : ByteArray
structure PkC (cs : List Value) (p : Pk) (d r c v f : Value) : Prop where
 len : cs.length = 43
 one : ∀ x ∈ cs, x.oneCell' = true
 c0 : cs[0]? = some (.string p.nm)
 c1 : cs[1]? = some (.string p.vr)
 c2 : cs[2]? = some (.bool p.es)
 c3 : cs[3]? = some d
 c4 : cs[4]? = some r
 c5 : cs[5]? = some c
 c6 : cs[6]? = some v
 c7 : cs[7]? = some f
 c8 : cs[8]? = some (.string p.ar)
 c9 : cs[9]? = some (.int .i64 p.sz)
 cs0 : ∀ j x, p.sm[j]? = some x → cs[10 + j]? = some x
 c42 : cs[42]? = some (.string p.sy)
structure PkZ (p : Pk) : Prop where
 dl : p.dp.length ≤ 3518437208883
 dls : ∀ al ∈ p.dp, al.length ≤ 3518437208883
 rl : p.pr.length ≤ 3518437208883
 rls : ∀ al ∈ p.pr, al.length ≤ 3518437208883
 cl : p.cf.length ≤ 3518437208883
 vl : p.pv.length ≤ 3518437208883
 fl : p.fs.length ≤ 100000000000
 sl : isU p.sm
structure PkL (w : World) (p : Pk) (d r c v f : Value) : Prop where
 dl : Cls w d p.dp
 rl : Cls w r p.pr
 cl : Ats w c p.cf
 vl : Strs w v p.pv
 fl : Fls w f p.fs
theorem PkL.later {w w' : World} {p : Pk} {d r c v f : Value} (h : PkL w p d r c v f) (hb : Below w.heap.size w w') : PkL w' p d r c v f :=
 ⟨h.dl.later hb, h.rl.later hb, h.cl.later hb, h.vl.later hb, h.fl.later hb⟩
def Pkl (w : World) (v : Value) (ps : List Pk) : Prop := ∃ a c, v = .slice a ps.length c ∧ (0 < ps.length → ∃ b o, a = some ⟨b, o, none⟩ ∧ b < w.heap.size ∧ ∀ (i : Nat) (p : Pk), ps[i]? = some p → ∃ cs d r c v f, w.rangeAt b (o + i * 43) cs ∧ PkC cs p d r c v f ∧ PkL w p d r c v f)
theorem Pkl.later {w w' : World} {v : Value} {ps : List Pk} (h : Pkl w v ps) (hb : Below w.heap.size w w') : Pkl w' v ps := by
 obtain ⟨a, c, h1, h2⟩ := h
 refine ⟨a, c, h1, fun h0 => ?_⟩
 obtain ⟨b, o, h3, h4, h5⟩ := h2 h0
 refine ⟨b, o, h3, Nat.lt_of_lt_of_le h4 hb.size, fun i p hp => ?_⟩
 obtain ⟨cs, d, r, c, v, f, k1, k2, k3⟩ := h5 i p hp
 exact ⟨cs, d, r, c, v, f, rangeAt_later k1 h4 hb, k2, k3.later hb⟩
theorem cls_one {w : World} {b : Nat} {x : Value} {al : List At} (h1 : w.cell? ⟨b, 0, none⟩ = some x) (hb : b < w.heap.size) (hx : Ats w x al) : Cls w (.slice (some ⟨b, 0, none⟩) 1 1) [al] := by
 refine ⟨_, _, rfl, fun _ => ⟨b, 0, rfl, hb, fun i bl hi => ?_⟩⟩
 obtain ⟨hk, rfl⟩ := List.getElem?_eq_some_iff.1 hi
 obtain rfl : i = 0 := by simpa using hk
 obtain ⟨xa, xc, rfl, q⟩ := hx
 exact ⟨xa, xc, h1, ⟨xa, xc, rfl, q⟩⟩
structure BkP (w : World) (g : Nat) (cs : List Value) : Prop where
 len : cs.length = 43
 one : ∀ x ∈ cs, x.oneCell' = true
 at_ : w.heap[g]? = some (.cells cs.toArray 46 (0, 0))
theorem BkP.lt {w : World} {g : Nat} {l : List Value} (h : BkP w g l) : g < w.heap.size := (Array.getElem?_eq_some_iff.1 h.at_).1
theorem BkP.of {w w2 : World} {g : Nat} {l : List Value} (h : BkP w g l) (e : w2.heap[g]? = w.heap[g]?) : BkP w2 g l := ⟨h.len, h.one, e.trans h.at_⟩
theorem BkP.later {w w2 : World} {g : Nat} {l : List Value} (h : BkP w g l) (hb : Below w.heap.size w w2) : BkP w2 g l := h.of (hb.block g h.lt)
theorem BkP.cell {w : World} {g : Nat} {l : List Value} (h : BkP w g l) {i : Nat} {v : Value} (hi : l[i]? = some v) : w.cell? ⟨g, i, none⟩ = some v := by
 rw [cell_of_row w g i _ 46 (0, 0) h.at_]; simpa using hi
theorem BkP.free {w : World} {g : Nat} {l : List Value} (h : BkP w g l) (i : Nat) : w.frozen? ⟨g, i, none⟩ = false := frozen_of_row w g i _ 46 h.at_
theorem BkP.set {w : World} {g : Nat} {l : List Value} (h : BkP w g l) (i : Nat) (v : Value) (hv : v.oneCell' = true) : BkP (w.setCell ⟨g, i, none⟩ v) g (l.set i v) := by
 refine ⟨by rw [List.length_set]; exact h.len, fun x hx => ?_, ?_⟩
 ·rcases List.mem_or_eq_of_mem_set hx with hx | rfl
  ·exact h.one x hx
  ·exact hv
 ·rw [heap_setCell_same w g i _ 46 v h.at_]
  simp
theorem infoP : ∃ zc : List Value, (Tryz.prog.info? 46).map (fun i => (i.zero, i.size)) = some (some (.agg zc.toArray), 43) ∧ zc.length = 43 ∧ zc.all (·.oneCell') = true :=
 ⟨((((Tryz.prog.info? 46).bind (·.zero)).map fun z => z.cells.toList).getD []), by kernel_rfl, by kernel_rfl, by kernel_rfl⟩
theorem sizeP : (Tryz.prog.info? 46).map (·.size) = some 43 := by kernel_rfl
theorem stL (w : World) (g i : Nat) (a : Option Addr) (n c : Nat) (old : Value) (hc : w.cell? ⟨g, i, none⟩ = some old) (hz : w.frozen? ⟨g, i, none⟩ = false) :
 (storeVar 40 ⟨g, i, none⟩ (.slice a n c)).run Tryz.prog w = .ok () (w.setCell ⟨g, i, none⟩ (.slice a n c)) := by
 simp [go_sem, hc, hz]
theorem stS (w : World) (g i : Nat) (a : Option Addr) (n c : Nat) (old : Value) (hc : w.cell? ⟨g, i, none⟩ = some old) (hz : w.frozen? ⟨g, i, none⟩ = false) :
 (storeVar 42 ⟨g, i, none⟩ (.slice a n c)).run Tryz.prog w = .ok () (w.setCell ⟨g, i, none⟩ (.slice a n c)) := by
 simp [go_sem, hc, hz]
theorem stG (w : World) (g i : Nat) (a : Option Addr) (n c : Nat) (old : Value) (hc : w.cell? ⟨g, i, none⟩ = some old) (hz : w.frozen? ⟨g, i, none⟩ = false) :
 (storeVar 43 ⟨g, i, none⟩ (.slice a n c)).run Tryz.prog w = .ok () (w.setCell ⟨g, i, none⟩ (.slice a n c)) := by
 simp [go_sem, hc, hz]
section
variable {ops : Array Oper} {rest : List Oper} {o : Oper} {a : Act} {w : World} {Q : Exit → Act → World → Prop}
theorem p_alloc (ho : o.op = .alloc 46) (hw : Region.wanted o (yielded ops a.tmps) = true)
 (h : ∀ w2 zc, BkP w2 w.heap.size zc → Below w.heap.size w w2 → w2.heap.size = w.heap.size + 1 → wpList Tryz.prog ops Q rest (a.put o.dst (.pointer (some ⟨w.heap.size, 0, none⟩))) w2) : wpList Tryz.prog ops Q (o :: rest) a w := by
 refine BigFrame.wpList_want hw fun K hK => ?_
 obtain ⟨zc, h1, h2, h3⟩ := infoP
 unfold Oper.wp execOp
 simp only [ho, Sem.run_bind, Instr.alloc, (zero_of_info h1).1, newVar, newRow, run_newObj_alloc, Sem.run_pure, Result.andThen_ok]
 exact hK _ _ (h _ zc ⟨h2, List.all_eq_true.1 h3, heap_alloc_new w _⟩ ((Below.refl _ _).alloc (Nat.le_refl _) _) (by simp))
theorem p_load (x : Operand) (ho : o.op = .load 46 x) (hw : Region.wanted o (yielded ops a.tmps) = true) (g : Nat) (hx : a.eval x = .pointer (some ⟨g, 0, none⟩)) (l : List Value) (hb : BkP w g l)
 (h : wpList Tryz.prog ops Q rest (a.put o.dst (.agg l.toArray)) w) : wpList Tryz.prog ops Q (o :: rest) a w := by
 refine BigFrame.wpList_want hw fun K hK => ?_
 exact wp_load_row 46 x ho g hx 46 _ _ _ hb.at_ Tryz.underlying46 rfl (by rw [sizeP, List.size_toArray, hb.len]) (hK _ _ h)
theorem p_store (x y : Operand) (ho : o.op = .store 46 x y) (hw : Region.wanted o (yielded ops a.tmps) = true) (g : Nat) (hx : a.eval x = .pointer (some ⟨g, 0, none⟩)) (l : List Value) (hy : a.eval y = .agg l.toArray) (hl : l.length = 43) (h1 : ∀ x ∈ l, x.oneCell' = true) (l0 : List Value) (hb : BkP w g l0)
 (h : ∀ w2, BkP w2 g l → (∀ k, k ≠ g → w2.heap[k]? = w.heap[k]?) → (∀ B, B ≤ g → Below B w w2) → w2.heap.size = w.heap.size → wpList Tryz.prog ops Q rest (a.put o.dst undef) w2) : wpList Tryz.prog ops Q (o :: rest) a w := by
 refine BigFrame.wpList_want hw fun K hK => ?_
 refine wp_store_row 46 x y ho g _ hx hy 46 _ hb.at_ (by rw [sizeP, List.size_toArray, hl]) (by rw [List.size_toArray, List.size_toArray, hl, hb.len]) (by rw [List.all_toArray]; exact List.all_eq_true.2 h1) (hK _ _ ?_)
 exact h _ ⟨hl, h1, setRow_heap w g _ _ 46 (0, 0) hb.at_⟩ (fun k hk => setRow_other w g k _ hk) (fun B hB => ⟨rfl, rfl, rfl, by simp, fun k hk => setRow_other w g k _ (by omega)⟩) (by simp)
theorem p_set (ty : TypeId) (x y : Operand) (ho : o.op = .store ty x y) (hw : Region.wanted o (yielded ops a.tmps) = true) (g i : Nat) (hx : a.eval x = .pointer (some ⟨g, i, none⟩)) (v : Value) (hst : ∀ old, w.cell? ⟨g, i, none⟩ = some old → w.frozen? ⟨g, i, none⟩ = false → (storeVar ty ⟨g, i, none⟩ v).run Tryz.prog w = .ok () (w.setCell ⟨g, i, none⟩ v)) (hy : a.eval y = v) (hv : v.oneCell' = true) (l : List Value) (hb : BkP w g l) (hi2 : i < 43)
 (h : ∀ w2, BkP w2 g (l.set i v) → (∀ k, k ≠ g → w2.heap[k]? = w.heap[k]?) → (∀ B, B ≤ g → Below B w w2) → w2.heap.size = w.heap.size → wpList Tryz.prog ops Q rest (a.put o.dst undef) w2) : wpList Tryz.prog ops Q (o :: rest) a w := by
 refine BigFrame.wpList_want hw fun K hK => ?_
 have hl : i < l.length := by rw [hb.len]; exact hi2
 have hc := hb.cell (List.getElem?_eq_getElem hl)
 have hz := hb.free i
 unfold Oper.wp execOp
 simp only [ho, hx, hy, Instr.storeAt, Instr.sureAddr, Sem.run_bind, Sem.run_pure, Result.andThen_ok]
 rw [hst _ hc hz]
 exact hK _ _ (h _ (hb.set i v hv) (fun j hj => Below.heap_setCell w _ _ j hj) (fun B hB => (Below.refl _ _).setCell (p := ⟨g, i, none⟩) hB _) (by simp))
end
end
section
open Go.RowKit Go.Maps
def Sim (xs : List Pd) (ps : List Pk) : Prop := xs.length = ps.length ∧ ∀ (i : Nat) (x : Pd) (p : Pk), xs[i]? = some x → ps[i]? = some p → x.nm = p.nm ∧ x.vr = p.vr ∧ x.pl = p.pv
theorem Sim.at {xs : List Pd} {ps : List Pk} (h : Sim xs ps) {i : Nat} {x : Pd} (hx : xs[i]? = some x) : ∃ p, ps[i]? = some p ∧ x.nm = p.nm ∧ x.vr = p.vr ∧ x.pl = p.pv := by
 have hl := (List.getElem?_eq_some_iff.1 hx).1
 rw [h.1] at hl
 exact ⟨_, List.getElem?_eq_getElem hl, h.2 i x _ hx (List.getElem?_eq_getElem hl)⟩
theorem Sim.back {xs : List Pd} {ps : List Pk} (h : Sim xs ps) {i : Nat} {p : Pk} (hp : ps[i]? = some p) : ∃ x, xs[i]? = some x ∧ x.nm = p.nm ∧ x.vr = p.vr ∧ x.pl = p.pv := by
 have hl := (List.getElem?_eq_some_iff.1 hp).1
 rw [← h.1] at hl
 exact ⟨_, List.getElem?_eq_getElem hl, h.2 i _ p (List.getElem?_eq_getElem hl) hp⟩
theorem sim_of {w : World} {v : Value} {ps : List Pk} (h : Pkl w v ps) (hv : ∀ p ∈ ps, p.vr.size ≤ maxLen) : ∃ xs : List Pd, Pks w v xs ∧ Sim xs ps := by
 obtain ⟨a, c, rfl, h2⟩ := h
 by_cases h0 : 0 < ps.length
 ·obtain ⟨b, o, rfl, hb, hc⟩ := h2 h0
  have step : ∀ n, n ≤ ps.length → ∃ xs : List Pd, xs.length = n ∧ ∀ (i : Nat) (x : Pd) (p : Pk), xs[i]? = some x → ps[i]? = some p → (w.rangeAt b (o + i * 43) x.cs ∧ PdOk w x) ∧ x.nm = p.nm ∧ x.vr = p.vr ∧ x.pl = p.pv := by
   intro n
   induction n with
   | zero => intro _; exact ⟨[], rfl, fun i x p hx => by simp at hx⟩
   | succ n ih =>
     intro hn
     obtain ⟨xs, hl, hx⟩ := ih (by omega)
     obtain ⟨p, hp⟩ : ∃ p, ps[n]? = some p := ⟨_, List.getElem?_eq_getElem (by omega)⟩
     obtain ⟨cs, d, r, c, v, f, k1, k2, k3⟩ := hc n p hp
     refine ⟨xs ++ [⟨cs, p.nm, p.vr, v, p.pv⟩], by simp [hl], fun i x q hi hq => ?_⟩
     by_cases e : i < n
     ·rw [List.getElem?_append_left (by omega)] at hi
      exact hx i x q hi hq
     ·have hi' := (List.getElem?_eq_some_iff.1 hi).1
      rw [List.length_append, hl, List.length_singleton] at hi'
      obtain rfl : i = n := by omega
      rw [List.getElem?_append_right (by omega), hl, Nat.sub_self] at hi
      simp at hi
      subst hi
      rw [hp] at hq; cases hq
      exact ⟨⟨k1, ⟨k2.len, k2.c0, k2.c1, k2.c6⟩, k3.vl, hv p (List.mem_of_getElem? hp)⟩, rfl, rfl, rfl⟩
  obtain ⟨xs, hl, hx⟩ := step ps.length (Nat.le_refl _)
  refine ⟨xs, ⟨_, c, by rw [hl], fun _ => ⟨b, o, rfl, hb, fun i x hi => ?_⟩⟩, hl, fun i x p hi hp => (hx i x p hi hp).2⟩
  obtain ⟨p, hp⟩ : ∃ p, ps[i]? = some p := ⟨_, List.getElem?_eq_getElem (by rw [← hl]; exact (List.getElem?_eq_some_iff.1 hi).1)⟩
  exact (hx i x p hi hp).1
 ·have e : ps = [] := by cases ps with
   | nil => rfl
   | cons p ps => simp at h0
  subst e
  exact ⟨[], ⟨a, c, rfl, fun h => absurd h (by simp)⟩, rfl, fun i x p hx => by simp at hx⟩
def mP (ps : List Pk) (a : At) (p : Nat) : Bool := match ps[p]? with | some q => meetsA a.n a.op a.v q.nm q.vr q.pv | none => false
theorem mP_lt {ps : List Pk} {a : At} {p : Nat} (h : mP ps a p = true) : p < ps.length := by
 unfold mP at h
 cases e : ps[p]? with
 | none => rw [e] at h; cases h
 | some q => exact (List.getElem?_eq_some_iff.1 e).1
theorem mt_mP {xs : List Pd} {ps : List Pk} (h : Sim xs ps) (a : At) (p : Nat) : mt xs a.n a.op a.v p = mP ps a p := by
 unfold mt mP
 cases e : xs[p]? with
 | none =>
   have : ps[p]? = none := by rw [List.getElem?_eq_none_iff] at e ⊢; rw [← h.1]; exact e
   rw [this]
 | some x =>
   obtain ⟨q, hq, h1, h2, h3⟩ := h.at e
   rw [hq]
   simp only
   rw [h1, h2, h3]
theorem satL_mem {xs : List Pd} {ps : List Pk} (h : Sim xs ps) (a : At) (p : Nat) : p ∈ satL xs a.n a.op a.v (nmP xs xs.length a.n) (pvP xs xs.length a.n) ↔ mP ps a p = true := by
 unfold satL
 rw [List.mem_filter, mt_mP h]
 refine ⟨fun h => h.2, fun hm => ⟨?_, hm⟩⟩
 rw [← mt_mP h] at hm
 unfold mt at hm
 cases e : xs[p]? with
 | none => rw [e] at hm; cases hm
 | some x =>
   rw [e] at hm
   simp only at hm
   have hp := (List.getElem?_eq_some_iff.1 e).1
   unfold meetsA at hm
   rw [Bool.or_eq_true, Bool.and_eq_true, Bool.and_eq_true] at hm
   rw [List.mem_append]
   rcases hm with ⟨h1, _⟩ | ⟨_, h2⟩
   ·exact .inl ((nmP_mem xs _ _ _).2 ⟨hp, x, e, toList_eq.1 h1⟩)
   ·exact .inr ((pvP_mem xs _ _ _).2 ⟨hp, x, e, (Lib.containsS_iff _ _).1 h2⟩)
def isN (ps : List Pk) (x : Nm) (i : Nat) : Bool := match ps[i]? with | some q => decide (q.nm = x) | none => false
theorem nmP_eq {xs : List Pd} {ps : List Pk} (h : Sim xs ps) (x : Nm) : ∀ n, nmP xs n x = (List.range n).filter (isN ps x)
 | 0 => rfl
 | n + 1 => by
   have ih := nmP_eq h x n
   rw [List.range_succ, List.filter_append, ← ih, show nmP xs (n + 1) = (match xs[n]? with | some q => upF (nmP xs n) q.nm (nmP xs n q.nm ++ [n]) | none => nmP xs n) from rfl, List.filter_cons, List.filter_nil]
   cases e : xs[n]? with
   | none =>
     have e2 : ps[n]? = none := by rw [List.getElem?_eq_none_iff] at e ⊢; rw [← h.1]; exact e
     have e3 : isN ps x n = false := by unfold isN; rw [e2]
     rw [e3]
     simp only [Bool.false_eq_true, if_false, List.append_nil]
   | some q =>
     obtain ⟨p, hp, h1, _⟩ := h.at e
     have e3 : isN ps x n = decide (p.nm = x) := by unfold isN; rw [hp]
     rw [e3]
     simp only
     rw [h1]
     by_cases q2 : p.nm = x
     ·rw [q2, upF_same, decide_eq_true rfl, if_pos rfl]
     ·rw [upF_other _ _ (fun e => q2 e.symm), decide_eq_false q2]
      simp
def hitP (inn : Nat → Bool) (but : Int) (p : Nat) : Bool := inn p && !(decide ((p : Int) = but))
def imP (ps : List Pk) (inn : Nat → Bool) (but : Int) (al : List At) : Bool := al.any fun a => (List.range ps.length).any fun p => mP ps a p && hitP inn but p
theorem imP_one {xs : List Pd} {ps : List Pk} (h : Sim xs ps) (inn : Nat → Bool) (but : Int) (a : At) : (satL xs a.n a.op a.v (nmP xs xs.length a.n) (pvP xs xs.length a.n)).any (hitP inn but) = (List.range ps.length).any fun p => mP ps a p && hitP inn but p := by
 rw [Bool.eq_iff_iff, List.any_eq_true, List.any_eq_true]
 constructor
 ·rintro ⟨p, hp, hh⟩
  have hm := (satL_mem h a p).1 hp
  exact ⟨p, List.mem_range.2 (mP_lt hm), by rw [hm, hh]; rfl⟩
 ·rintro ⟨p, hp, hh⟩
  rw [Bool.and_eq_true] at hh
  exact ⟨p, (satL_mem h a p).2 hh.1, hh.2⟩
structure SmP (ps : List Pk) : Prop where
 l : ps.length ≤ 262144
 t : (ps.map fun p => p.pv.length).sum ≤ 1048576
 sd : (ps.map fun p => p.dp.length).sum ≤ 1048576
 sr : (ps.map fun p => p.pr.length).sum ≤ 1048576
 sc : (ps.map fun p => p.cf.length).sum ≤ 1048576
 sf : (ps.map fun p => p.fs.length).sum ≤ 1048576
 z : ∀ p ∈ ps, p.nm.size ≤ maxLen ∧ p.vr.size ≤ maxLen ∧ ∀ n ∈ p.pv, n.size ≤ maxLen
 d : ∀ p ∈ ps, ∀ al ∈ p.dp, al.length ≤ 1048576 ∧ ∀ a ∈ al, a.n.size ≤ maxLen ∧ a.v.size ≤ maxLen
 r : ∀ p ∈ ps, ∀ al ∈ p.pr, al.length ≤ 1048576 ∧ ∀ a ∈ al, a.n.size ≤ maxLen ∧ a.v.size ≤ maxLen
 c : ∀ p ∈ ps, ∀ a ∈ p.cf, a.n.size ≤ maxLen ∧ a.v.size ≤ maxLen
 f : ∀ p ∈ ps, ∀ x ∈ p.fs, ∃ s : Nm, x[0]? = some (Value.string s) ∧ s.size ≤ maxLen
theorem le_sum {α : Type} (g : α → Nat) {l : List α} {x : α} (h : x ∈ l) : g x ≤ (l.map g).sum := by
 induction l with
 | nil => cases h
 | cons a l ih =>
   rw [List.map_cons, List.sum_cons]
   rcases List.mem_cons.1 h with rfl | h
   ·omega
   ·have := ih h; omega
theorem totX_le {xs : List Pd} {ps : List Pk} (h : Sim xs ps) : ∀ n, totP xs n ≤ ((ps.take n).map fun p => p.pv.length).sum
 | 0 => Nat.zero_le _
 | n + 1 => by
   have ih := totX_le h n
   rw [List.take_add_one, List.map_append, List.sum_append]
   unfold totP
   cases e : xs[n]? with
   | none => simp only; omega
   | some x =>
     obtain ⟨p, hp, _, _, h3⟩ := h.at e
     rw [hp]
     have e3 : ((some p).toList.map fun p => p.pv.length).sum = p.pv.length := by simp
     rw [e3]
     simp only
     rw [h3]
     omega
theorem SmP.tot {xs : List Pd} {ps : List Pk} (sm : SmP ps) (h : Sim xs ps) : totP xs xs.length ≤ 1048576 := by
 have := totX_le h xs.length
 rw [h.1, List.take_length] at this
 rw [h.1]
 exact Nat.le_trans this sm.t
theorem SmP.sz {xs : List Pd} {ps : List Pk} (sm : SmP ps) (h : Sim xs ps) : ∀ q ∈ xs, q.nm.size ≤ maxLen ∧ ∀ n ∈ q.pl, n.size ≤ maxLen := fun q hq => by
 obtain ⟨i, hi, e⟩ := List.getElem_of_mem hq
 obtain ⟨p, hp, h1, _, h3⟩ := h.at (show xs[i]? = some q by rw [List.getElem?_eq_getElem hi, e])
 have hz := sm.z p (List.mem_of_getElem? hp)
 rw [h1, h3]
 exact ⟨hz.1, hz.2.2⟩
end
section
open Go.RowKit Go.Maps Go.Shelf
attribute [local go_sem] Oper.semAt_some
attribute [local simp] wide_fn
attribute [local go_sem] wide_fn
def Bls (w : World) (v : Value) (f : Nat → Bool) (n : Nat) : Prop := ∃ a c, v = .slice a n c ∧ (0 < n → ∃ b, a = some ⟨b, 0, none⟩ ∧ b < w.heap.size ∧ ∀ i, i < n → w.cell? ⟨b, i, none⟩ = some (.bool (f i)))
theorem Bls.later {w w' : World} {v : Value} {f : Nat → Bool} {n : Nat} (h : Bls w v f n) (hb : RowKit.Below w.heap.size w w') : Bls w' v f n := by
 obtain ⟨a, c, h1, h2⟩ := h
 refine ⟨a, c, h1, fun h0 => ?_⟩
 obtain ⟨b, h3, h4, h5⟩ := h2 h0
 exact ⟨b, h3, Nat.lt_of_lt_of_le h4 hb.size, fun i hi => (hb.cell (p := ⟨b, i, none⟩) h4).trans (h5 i hi)⟩
structure Im (w wr : World) (s n : Array Value) (av : Value) (r : Bool) (Ds : List Nat) : Prop where
 b0 : wr.heap[w.heap.size]? = some (.cells s 62 (0, 0))
 b1 : wr.heap[w.heap.size + 1]? = some (.cells n 116 (0, 0))
 b2 : wr.heap[w.heap.size + 2]? = some (.cells #[av] 63 (0, 0))
 b3 : wr.heap[w.heap.size + 3]? = some (.cells #[.bool r] 4 (0, 0))
 mks : Mks wr (w.heap.size + 4) Ds
 bw : RowKit.Below w.heap.size w wr
theorem Im.turn {w X Y : World} {s n : Array Value} {av : Value} {r : Bool} {Ds : List Nat} {C : Nat} {row : Option Nat} (h : Im w X s n av r Ds) (hg : X.grownBy Y row) (hr : ∀ k, row = some k → C ≤ k) (hC : w.heap.size + 4 ≤ C) (hD : ∀ D ∈ Ds, D < C) : Im w Y s n av r Ds := by
 have ne : ∀ j, j < C → some j ≠ row := fun j hj e => by have := hr j e.symm; omega
 have k : ∀ j o, j < C → X.heap[j]? = some o → Y.heap[j]? = some o := fun j o hj e => (hg.block j (blk_lt e) (ne j hj)).trans e
 refine ⟨k _ _ (by omega) h.b0, k _ _ (by omega) h.b1, k _ _ (by omega) h.b2, k _ _ (by omega) h.b3, ⟨h.mks.1, fun D hd => ⟨(h.mks.2 D hd).1, k _ _ (hD D hd) (h.mks.2 D hd).2⟩⟩, hg.os.trans h.bw.os, hg.tape.trans h.bw.tape, hg.output.trans h.bw.output, Nat.le_trans h.bw.size hg.size, fun j hj => ?_⟩
 have := h.bw.size
 exact (hg.block j (by omega) (ne j (by omega))).trans (h.bw.block j hj)
theorem Im.lt {w wr : World} {s n : Array Value} {av : Value} {r : Bool} {Ds : List Nat} (h : Im w wr s n av r Ds) : w.heap.size + 4 ≤ wr.heap.size ∧ ∀ D ∈ Ds, D < wr.heap.size := ⟨blk_lt h.b3, fun D hd => blk_lt (h.mks.2 D hd).2⟩
theorem Im.later {w X Y : World} {s n : Array Value} {av : Value} {r : Bool} {Ds : List Nat} (h : Im w X s n av r Ds) (hb : RowKit.Below X.heap.size X Y) : Im w Y s n av r Ds := h.turn (C := X.heap.size) (grown_below hb) (fun k e => by cases e) h.lt.1 h.lt.2
theorem Im.mark {w X : World} {s n : Array Value} {av : Value} {r : Bool} {Ds : List Nat} (h : Im w X s n av r Ds) {D : Nat} (hD : X.heap[D]? = some (.deferred (some []))) (hlo : w.heap.size + 4 ≤ D) (hn : ∀ E ∈ Ds, E < D) : Im w X s n av r (D :: Ds) :=
 ⟨h.b0, h.b1, h.b2, h.b3, ⟨List.nodup_cons.2 ⟨fun e => absurd (hn D e) (Nat.lt_irrefl _), h.mks.1⟩, fun E he => by
  rcases List.mem_cons.1 he with rfl | he
  ·exact ⟨hlo, hD⟩
  ·exact h.mks.2 E he⟩, h.bw⟩
theorem Im.set {w X : World} {s n : Array Value} {av : Value} {r : Bool} {Ds : List Nat} (h : Im w X s n av r Ds) (q : Bool) : Im w (X.setCell ⟨w.heap.size + 3, 0, none⟩ (.bool q)) s n av q Ds := by
 have k : ∀ j o, j ≠ w.heap.size + 3 → X.heap[j]? = some o → (X.setCell ⟨w.heap.size + 3, 0, none⟩ (.bool q)).heap[j]? = some o := fun j o hj e => (set_other X _ 0 (.bool q) j hj).trans e
 refine ⟨k _ _ (by omega) h.b0, k _ _ (by omega) h.b1, k _ _ (by omega) h.b2, set_blk h.b3 0 (.bool q), ⟨h.mks.1, fun D hd => ⟨(h.mks.2 D hd).1, k _ _ (fun e => ?_) (h.mks.2 D hd).2⟩⟩, h.bw.setCell (p := ⟨w.heap.size + 3, 0, none⟩) (by show w.heap.size ≤ w.heap.size + 3; omega) _⟩
 have := (h.mks.2 D hd).1
 omega
theorem im_new (w : World) (s n : Array Value) (av : Value) : Im w ((((w.alloc (.cells s 62)).alloc (.cells n 116)).alloc (.cells #[av] 63)).alloc (.cells #[.bool false] 4)) s n av false [] := by
 obtain ⟨A, hA⟩ : ∃ x, x = w.alloc (.cells s 62) := ⟨_, rfl⟩
 obtain ⟨B, hB⟩ : ∃ x, x = A.alloc (.cells n 116) := ⟨_, rfl⟩
 obtain ⟨C, hC⟩ : ∃ x, x = B.alloc (.cells #[av] 63) := ⟨_, rfl⟩
 rw [← hA, ← hB, ← hC]
 have zA : A.heap.size = w.heap.size + 1 := by rw [hA]; exact World.size_alloc _ _
 have zB : B.heap.size = w.heap.size + 2 := by rw [hB, World.size_alloc]; omega
 have zC : C.heap.size = w.heap.size + 3 := by rw [hC, World.size_alloc]; omega
 have bA : RowKit.Below w.heap.size w A := by rw [hA]; exact (Below.refl _ w).alloc (Nat.le_refl _) _
 have bB : RowKit.Below A.heap.size A B := by rw [hB]; exact (Below.refl _ A).alloc (Nat.le_refl _) _
 have bC : RowKit.Below B.heap.size B C := by rw [hC]; exact (Below.refl _ B).alloc (Nat.le_refl _) _
 have bD : RowKit.Below C.heap.size C (C.alloc (.cells #[.bool false] 4)) := (Below.refl _ C).alloc (Nat.le_refl _) _
 have h0 : A.heap[w.heap.size]? = some (.cells s 62 (0, 0)) := by rw [hA]; exact heap_alloc_new _ _
 have h1 : B.heap[w.heap.size + 1]? = some (.cells n 116 (0, 0)) := by rw [← zA, hB]; exact heap_alloc_new _ _
 have h2 : C.heap[w.heap.size + 2]? = some (.cells #[av] 63 (0, 0)) := by rw [← zB, hC]; exact heap_alloc_new _ _
 have h3 : (C.alloc (.cells #[.bool false] 4)).heap[w.heap.size + 3]? = some (.cells #[.bool false] 4 (0, 0)) := by rw [← zC]; exact heap_alloc_new _ _
 exact ⟨(bD.block _ (by omega)).trans ((bC.block _ (by omega)).trans ((bB.block _ (by omega)).trans h0)), (bD.block _ (by omega)).trans ((bC.block _ (by omega)).trans h1), (bD.block _ (by omega)).trans h2, h3, ⟨List.nodup_nil, fun D h => by cases h⟩, bl_t (bl_t (bl_t bA bB) bC) bD⟩
end
end Go.Proofs.YtdkpglmdncjnbaaGreatDoor
