import Derived.Test.YtboajcpfoejfeaaTzP
import Derived.DeepKeys
import Derived.DeepKeys4
import Derived.BigFrame
namespace Go.Proofs.Ytboajcpfoejfeaa
open Go.RowKit Go.Maps

/-- A FILE'S CELLS. -/
def sC (s : List Int) : List Value := s.map (Value.int .u8)
def sL (s : List Int) : List Lit := s.map (Lit.int .u8)
def Fi.cs (f : Fi) : List Value := .string f.p :: .int .i64 f.z :: sC f.s
def cC (k : Ky) : List Value := .int .i64 k.1 :: sC k.2
structure Fi.ok (f : Fi) : Prop where
  sz : f.p.size ≤ 9223372036854775807
  zr : (Lit.int .i64 f.z).wf = true
  sl : f.s.length = 32
  sr : ∀ x ∈ f.s, (Lit.int .u8 x).wf = true
theorem sC_len (s : List Int) : (sC s).length = s.length := List.length_map _
theorem sC_at (s : List Int) (i : Nat) : (sC s)[i]? = (s[i]?).map (Value.int .u8) := List.getElem?_map
theorem sC_one (s : List Int) : ∀ u ∈ sC s, u.oneCell' = true := fun u hu => by
  obtain ⟨x, _, rfl⟩ := List.mem_map.1 hu
  rfl
theorem Fi.ok.len {f : Fi} (h : f.ok) : f.cs.length = 34 := by
  show (sC f.s).length + 1 + 1 = 34
  rw [sC_len, h.sl]
theorem Fi.one (f : Fi) : ∀ u ∈ f.cs, u.oneCell' = true := fun u hu => by
  rcases List.mem_cons.1 hu with rfl | hu
  · rfl
  · rcases List.mem_cons.1 hu with rfl | hu
    · rfl
    · exact sC_one _ u hu
theorem mapM_some {α β : Type} (f : α → Option β) (g : α → β) : ∀ l : List α, (∀ a ∈ l, f a = some (g a)) → l.mapM f = some (l.map g)
  | [], _ => rfl
  | x :: l, h => by
    rw [List.mapM_cons, h x List.mem_cons_self, mapM_some f g l fun a ha => h a (List.mem_cons_of_mem _ ha)]
    rfl
theorem cellsU : Try.prog.cellsOf 30 = 32 := by kernel_rfl
theorem cells5 : Try.prog.cellsOf 5 = 1 := by kernel_rfl
theorem cells9 : Try.prog.cellsOf 9 = 1 := by kernel_rfl
theorem cells3 : Try.prog.cellsOf 3 = 1 := by kernel_rfl
theorem cellsF : Try.prog.cellsOf 32 = 34 := by kernel_rfl
theorem cellsC : Try.prog.cellsOf 36 = 33 := by kernel_rfl
theorem litsU (d : Nat) {s : List Int} (hl : s.length = 32) (hs : ∀ x ∈ s, (Lit.int .u8 x).wf = true) : Try.prog.keyLits (d + 2) 30 (sC s) = some (sL s) := by
  unfold Program.keyLits
  rw [Try.underlying30]
  simp only [sC_len, hl, cellsU, cells5, if_true, Nat.mul_one]
  have h : ∀ i ∈ List.range 32, Try.prog.keyLits (d + 1) 5 (((sC s).drop i).take 1) = some ((fun i => [Lit.int .u8 (s.getD i 0)]) i) := fun i hi => by
    have hi' : i < 32 := List.mem_range.1 hi
    have e : ((sC s).drop i).take 1 = [Value.int .u8 (s.getD i 0)] := by
      rw [List.drop_eq_getElem_cons (by rw [sC_len]; omega)]
      simp [sC, List.getD_eq_getElem?_getD, List.getElem?_eq_getElem (show i < s.length by omega)]
    have hw : (Lit.int .u8 (s.getD i 0)).wf = true := hs _ (by
      rw [List.getD_eq_getElem?_getD, List.getElem?_eq_getElem (show i < s.length by omega)]
      exact List.getElem_mem _)
    rw [e]
    unfold Program.keyLits
    rw [Try.underlying5]
    simp only [hw, and_self, if_true]
  rw [mapM_some _ _ _ h]
  show some (((List.range 32).map fun i => [Lit.int .u8 (s.getD i 0)]).flatten) = _
  congr 1
  have e2 : ∀ l : List Nat, (l.map fun i => [Lit.int .u8 (s.getD i 0)]).flatten = l.map fun i => Lit.int .u8 (s.getD i 0) := fun l => by
    induction l with
    | nil => rfl
    | cons x l ih => rw [List.map_cons, List.flatten_cons, ih]; rfl
  rw [e2]
  refine List.ext_getElem? fun i => ?_
  unfold sL
  rw [List.getElem?_map, List.getElem?_map]
  by_cases hi : i < 32
  · rw [List.getElem?_range hi, List.getElem?_eq_getElem (show i < s.length by omega)]
    simp [List.getD_eq_getElem?_getD, List.getElem?_eq_getElem (show i < s.length by omega)]
  · rw [List.getElem?_eq_none (by rw [List.length_range]; omega), List.getElem?_eq_none (by omega)]
    rfl
theorem lits3 (d : Nat) {z : Int} (hz : (Lit.int .i64 z).wf = true) : Try.prog.keyLits (d + 1) 3 [.int .i64 z] = some [.int .i64 z] := by
  unfold Program.keyLits
  rw [Try.underlying3]
  simp only [hz, and_self, if_true]
theorem lits9 (d : Nat) {p : Nm} (hp : p.size ≤ maxLen) : Try.prog.keyLits (d + 1) 9 [.string p] = some [.string p.data.toList] := by
  unfold Program.keyLits
  rw [Try.underlying9]
  simp only [hp, if_true]
def fL (f : Fi) : List Lit := .string f.p.data.toList :: .int .i64 f.z :: sL f.s
def cL (k : Ky) : List Lit := .int .i64 k.1 :: sL k.2
theorem litsF (d : Nat) {f : Fi} (h : f.ok) : Try.prog.keyLits (d + 3) 32 f.cs = some (fL f) := by
  have hp : f.p.size ≤ maxLen := Nat.le_trans h.sz (by decide)
  have hl := h.len
  unfold Program.keyLits
  rw [Try.underlying32]
  have e1 : f.cs.take 1 = [.string f.p] := rfl
  have e2 : f.cs.tail.take 1 = [.int .i64 f.z] := rfl
  have e3 : (f.cs.drop 2).take 32 = sC f.s := by
    show (sC f.s).take 32 = _
    rw [List.take_of_length_le (by rw [sC_len, h.sl]; exact Nat.le_refl _)]
  simp [cellsF, cells9, cells3, cellsU, hl, e1, e2, e3, lits9 (d + 1) hp, lits3 (d + 1) h.zr, litsU d h.sl h.sr]
  rfl
theorem litsC (d : Nat) {z : Int} {s : List Int} (hz : (Lit.int .i64 z).wf = true) (hl : s.length = 32) (hs : ∀ x ∈ s, (Lit.int .u8 x).wf = true) : Try.prog.keyLits (d + 3) 36 (cC (z, s)) = some (cL (z, s)) := by
  have hc : (cC (z, s)).length = 33 := by show (sC s).length + 1 = 33; rw [sC_len, hl]
  unfold Program.keyLits
  rw [Try.underlying36]
  have e2 : (cC (z, s)).take 1 = [.int .i64 z] := rfl
  have e3 : (cC (z, s)).tail.take 32 = sC s := by
    show (sC s).take 32 = _
    rw [List.take_of_length_le (by rw [sC_len, hl]; exact Nat.le_refl _)]
  simp [cellsC, cells3, cellsU, hc, e2, e3, lits3 (d + 1) hz, litsU d hl hs]
  rfl
theorem sL_inj {s t : List Int} (h : sL s = sL t) : s = t := by
  unfold sL at h
  refine (List.map_inj_right fun x y e => ?_).1 h
  injection e
theorem formF {f : Fi} (h : f.ok) : (Value.agg f.cs.toArray).formed Try.prog 32 = true := by
  unfold Value.formed
  rw [Try.underlying32, cellsF]
  simp [h.len]
theorem formU {s : List Int} (h : s.length = 32) : (Value.agg (sC s).toArray).formed Try.prog 30 = true := by
  unfold Value.formed
  rw [Try.underlying30, cellsU]
  simp [sC_len, h]
theorem formC {z : Int} {s : List Int} (h : s.length = 32) : (Value.agg (cC (z, s)).toArray).formed Try.prog 36 = true := by
  have hc : (cC (z, s)).length = 33 := by show (sC s).length + 1 = 33; rw [sC_len, h]
  unfold Value.formed
  rw [Try.underlying36, cellsC]
  simp [hc]
theorem ktF : Try.prog.keyTypeAt 5 32 = true := by kernel_rfl
theorem ktU : Try.prog.keyTypeAt 5 30 = true := by kernel_rfl
theorem neqF {f : Fi} (h : f.ok) (w : World) : (binOp .neq 32 (.agg f.cs.toArray) (.agg f.cs.toArray)).run Try.prog w = .ok (.bool false) w := by
  obtain ⟨r, hr, hiff⟩ := run_equalIn_deep (P := Try.prog) (10000 - 5) 5 32 ktF w 6 6 (.agg f.cs.toArray) (.agg f.cs.toArray) _ _ (formF h) (formF h) (by simpa [Value.cells] using litsF 3 h) (by simpa [Value.cells] using litsF 3 h)
  rw [run_neq_struct, show (10000 : Nat) = 10000 - 5 + 5 from rfl, hr, hiff.2 rfl]
  rfl
theorem eqlU {s t : List Int} (hs : s.length = 32) (ht : t.length = 32) (ks : ∀ x ∈ s, (Lit.int .u8 x).wf = true) (kt : ∀ x ∈ t, (Lit.int .u8 x).wf = true) (w : World) : (binOp .eql 30 (.agg (sC s).toArray) (.agg (sC t).toArray)).run Try.prog w = .ok (.bool (decide (s = t))) w := by
  obtain ⟨r, hr, hiff⟩ := run_equalIn_deep (P := Try.prog) (10000 - 5) 5 30 ktU w 6 6 (.agg (sC s).toArray) (.agg (sC t).toArray) _ _ (formU hs) (formU ht) (by simpa [Value.cells] using litsU 4 hs ks) (by simpa [Value.cells] using litsU 4 ht kt)
  have er : r = decide (s = t) := by
    by_cases e : s = t
    · rw [hiff.2 (by rw [e]), decide_eq_true e]
    · rw [decide_eq_false e]
      cases r
      · rfl
      · exact absurd (sL_inj (hiff.1 rfl)) e
  rw [run_eql_struct, show (10000 : Nat) = 10000 - 5 + 5 from rfl, hr, er]
  rfl
theorem neqU {s t : List Int} (hs : s.length = 32) (ht : t.length = 32) (ks : ∀ x ∈ s, (Lit.int .u8 x).wf = true) (kt : ∀ x ∈ t, (Lit.int .u8 x).wf = true) (w : World) : (binOp .neq 30 (.agg (sC s).toArray) (.agg (sC t).toArray)).run Try.prog w = .ok (.bool (!decide (s = t))) w := by
  obtain ⟨r, hr, hiff⟩ := run_equalIn_deep (P := Try.prog) (10000 - 5) 5 30 ktU w 6 6 (.agg (sC s).toArray) (.agg (sC t).toArray) _ _ (formU hs) (formU ht) (by simpa [Value.cells] using litsU 4 hs ks) (by simpa [Value.cells] using litsU 4 ht kt)
  have er : r = decide (s = t) := by
    by_cases e : s = t
    · rw [hiff.2 (by rw [e]), decide_eq_true e]
    · rw [decide_eq_false e]
      cases r
      · rfl
      · exact absurd (sL_inj (hiff.1 rfl)) e
  rw [run_neq_struct, show (10000 : Nat) = 10000 - 5 + 5 from rfl, hr, er]
  rfl
/-- A CONTENT AS A KEY. -/
theorem laidB : laidOutB Try.prog = true := by kernel_rfl
theorem wideC : (match Try.prog.underlying 36 with | some (.array _ _) | some (.struct _) => true | _ => false) = true := by kernel_rfl
set_option maxRecDepth 100000 in
theorem lawC : Keyed Try.prog 36 := Keyed.of_law (deep_law_laid laidB (m := 3) (by omega) (of_decide_eq_true (by kernel_rfl)) (by kernel_rfl) wideC)
def klC (k : Ky) : Lit := .string (keyBytes (cL k))
structure Kok (k : Ky) : Prop where
  zr : (Lit.int .i64 k.1).wf = true
  sl : k.2.length = 32
  sr : ∀ x ∈ k.2, (Lit.int .u8 x).wf = true
theorem Fi.ok.kok {f : Fi} (h : f.ok) : Kok f.k := ⟨h.zr, h.sl, h.sr⟩
theorem keyC {k : Ky} (h : Kok k) : keyOf Try.prog 36 (.agg (cC k).toArray) = some (klC k) := by
  obtain ⟨z, s⟩ := k
  have hK : Try.prog.keyType 36 = true := by kernel_rfl
  obtain ⟨d, hd⟩ : ∃ d, Try.prog.types.size + 1 = d + 3 := ⟨Try.prog.types.size - 2, by have : 2 ≤ Try.prog.types.size := of_decide_eq_true (by kernel_rfl); omega⟩
  unfold keyOf
  rw [Try.underlying36]
  simp only [hK, formC h.sl, hd, Bool.and_self, if_true, Value.cells, litsC d h.zr h.sl h.sr]
  rfl
theorem cC_inj {k k2 : Ky} (e : cC k = cC k2) : k = k2 := by
  obtain ⟨z, s⟩ := k
  obtain ⟨z2, s2⟩ := k2
  have e' : Value.int .i64 z :: sC s = Value.int .i64 z2 :: sC s2 := e
  injection e' with e1 e2
  injection e1 with _ e1
  subst e1
  congr 1
  unfold sC at e2
  refine (List.map_inj_right fun x y e => ?_).1 e2
  injection e
theorem klC_inj {k k2 : Ky} (h : Kok k) (h2 : Kok k2) (e : klC k = klC k2) : k = k2 := by
  have q1 := keyC h
  have q2 := keyC h2
  rw [← e] at q2
  have := lawC.inj q1 q2
  injection this with this
  exact cC_inj (by simpa using this)
/-- FILES AS THEY LIE. -/
def Fis (w : World) (v : Value) (fs : List Fi) : Prop := ∃ a c, v = .slice a fs.length c ∧ (∀ f ∈ fs, f.ok) ∧ (0 < fs.length → ∃ b o, a = some ⟨b, o, none⟩ ∧ b < w.heap.size ∧ ∀ i f, fs[i]? = some f → w.rangeAt b (o + i * 34) f.cs)
theorem Fis.form {w : World} {v : Value} {fs : List Fi} (h : Fis w v fs) : ∃ a c, v = .slice a fs.length c := let ⟨a, c, e, _⟩ := h; ⟨a, c, e⟩
theorem Fis.ok {w : World} {v : Value} {fs : List Fi} (h : Fis w v fs) : ∀ f ∈ fs, f.ok := let ⟨_, _, _, o, _⟩ := h; o
theorem Fis.same {w w2 : World} {v : Value} {fs : List Fi} (h : Fis w v fs) (hs : w.heap.size ≤ w2.heap.size) (hb : ∀ g, v.ownBlock = some g → w2.heap[g]? = w.heap[g]?) : Fis w2 v fs := by
  obtain ⟨a, c, e, ho, hr⟩ := h
  refine ⟨a, c, e, ho, fun h0 => ?_⟩
  obtain ⟨b, o, ea, hl, hc⟩ := hr h0
  exact ⟨b, o, ea, Nat.lt_of_lt_of_le hl hs, fun i f hi j u hj => (World.cell?_of_block (a := ⟨b, _, none⟩) (hb b (by rw [e, ea]; rfl))).trans (hc i f hi j u hj)⟩
theorem Fis.later {w w2 : World} {v : Value} {fs : List Fi} (h : Fis w v fs) (hb : Below w.heap.size w w2) : Fis w2 v fs := by
  obtain ⟨a, c, e, ho, hr⟩ := h
  refine ⟨a, c, e, ho, fun h0 => ?_⟩
  obtain ⟨b, o, ea, hl, hc⟩ := hr h0
  exact ⟨b, o, ea, Nat.lt_of_lt_of_le hl hb.size, fun i f hi j u hj => (hb.cell (p := ⟨b, _, none⟩) hl).trans (hc i f hi j u hj)⟩
theorem Fis.at {w : World} {a : Option Addr} {n c : Nat} {fs : List Fi} (h : Fis w (.slice a n c) fs) {i : Nat} (hi : i < fs.length) : ∃ b o, a = some ⟨b, o, none⟩ ∧ b < w.heap.size ∧ (fs[i]).ok ∧ w.rangeAt b (o + i * 34) (fs[i]).cs := by
  obtain ⟨a2, c2, e, ho, hr⟩ := h
  cases e
  obtain ⟨b, o, ea, hl, hc⟩ := hr (by omega)
  exact ⟨b, o, ea, hl, ho _ (List.getElem_mem hi), hc i _ (List.getElem?_eq_getElem hi)⟩
theorem infoF : (Try.prog.info? 32).map (·.size) = some 34 := by kernel_rfl
theorem infoU : (Try.prog.info? 30).map (·.size) = some 32 := by kernel_rfl
theorem infoC : (Try.prog.info? 36).map (·.size) = some 33 := by kernel_rfl
end Go.Proofs.Ytboajcpfoejfeaa
