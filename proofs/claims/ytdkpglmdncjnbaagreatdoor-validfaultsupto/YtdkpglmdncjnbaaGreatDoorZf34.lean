import Derived.Test.YtdkpglmdncjnbaaGreatDoorZf33
namespace Go.Proofs.YtdkpglmdncjnbaaGreatDoor
section
open Go.RowKit
theorem Row.of {base : Nat} {W W' : World} {M n : Nat} {cl : List (List At)} (h : Row base W M cl n) (hc : ∀ D, M ≤ D → ∀ j, W'.cell? ⟨D, j, none⟩ = W.cell? ⟨D, j, none⟩) (hf : ∀ D, M ≤ D → ∀ j, W'.frozen? ⟨D, j, none⟩ = W.frozen? ⟨D, j, none⟩) (hl : W.heap.size ≤ W'.heap.size) : Row base W' M cl n := by
 refine ⟨fun i al hi ha => ?_, fun j hj => ?_, fun j => (hf M (Nat.le_refl _) j).trans (h.fr j), Nat.lt_of_lt_of_le h.lt hl, h.lo⟩
 ·obtain ⟨C, h1, h2, h3⟩ := h.row i al hi ha
  exact ⟨C, h1, (hc M (Nat.le_refl _) i).trans h2, h3.of (hc C (Nat.le_of_lt h1)) (hf C (Nat.le_of_lt h1)) hl⟩
 ·rw [hc M (Nat.le_refl _)]; exact h.spot j hj
theorem Lcl.of {base : Nat} {W W' : World} {M : Nat} {cl : List (List At)} (h : Lcl base W M cl) (hc : ∀ D, M ≤ D → ∀ j, W'.cell? ⟨D, j, none⟩ = W.cell? ⟨D, j, none⟩) (hf : ∀ D, M ≤ D → ∀ j, W'.frozen? ⟨D, j, none⟩ = W.frozen? ⟨D, j, none⟩) (hl : W.heap.size ≤ W'.heap.size) : Lcl base W' M cl := by
 obtain ⟨K, h1, h2, h3, h4, h5, h6⟩ := h.last
 have hK := hc K (Nat.le_of_lt h1)
 exact ⟨h.row.of hc hf hl, K, h1, Nat.lt_of_lt_of_le h2 hl, (hc M (Nat.le_refl _) _).trans h3, (hK _).trans h4, (hK _).trans h5, (hK _).trans h6⟩
structure LPk (W : World) (L : Nat) (p : Pk) (cs : List Value) (Md Mr C S F : Nat) : Prop where
 pc : PkC cs p (.slice (some ⟨Md, 0, none⟩) p.dp.length (p.dp.length + 1)) (.slice (some ⟨Mr, 0, none⟩) p.pr.length (p.pr.length + 1)) (.slice (some ⟨C, 0, none⟩) p.cf.length (p.cf.length + 1)) (.slice (some ⟨S, 0, none⟩) p.pv.length (p.pv.length + 1)) (.slice (some ⟨F, 0, none⟩) p.fs.length (p.fs.length + 1))
 dl : Lcl (L + 1) W Md p.dp
 rl : Lcl (L + 1) W Mr p.pr
 cl : Mk1 W C p.cf
 hC : L < C
 sl : Blk W S (p.pv.map .string ++ [.string ⟨#[77, 65, 82, 75]⟩]) (p.pv.length + 1)
 hS : L < S
 fl : Blk W F (p.fs.flatten ++ [.string ⟨#[77, 65, 82, 75]⟩]) ((p.fs.length + 1) * 34)
 hF : L < F
 ff : ∀ x ∈ p.fs, isF x
theorem LPk.of {W W' : World} {L : Nat} {p : Pk} {cs : List Value} {Md Mr C S F : Nat} (h : LPk W L p cs Md Mr C S F) (hc : ∀ D, L < D → D < W.heap.size → ∀ j, W'.cell? ⟨D, j, none⟩ = W.cell? ⟨D, j, none⟩) (hf : ∀ D, L < D → D < W.heap.size → ∀ j, W'.frozen? ⟨D, j, none⟩ = W.frozen? ⟨D, j, none⟩) (hl : W.heap.size ≤ W'.heap.size)
 (hc' : ∀ D, L < D → ∀ j, W'.cell? ⟨D, j, none⟩ = W.cell? ⟨D, j, none⟩) (hf' : ∀ D, L < D → ∀ j, W'.frozen? ⟨D, j, none⟩ = W.frozen? ⟨D, j, none⟩) : LPk W' L p cs Md Mr C S F :=
 have hd := h.dl.row.lo
 have hr := h.rl.row.lo
 ⟨h.pc, h.dl.of (fun D hD => hc' D (by omega)) (fun D hD => hf' D (by omega)) hl, h.rl.of (fun D hD => hc' D (by omega)) (fun D hD => hf' D (by omega)) hl,
  h.cl.of (hc C h.hC h.cl.lt) (hf C h.hC h.cl.lt) hl, h.hC, h.sl.of (hc S h.hS h.sl.lt) (hf S h.hS h.sl.lt) hl, h.hS, h.fl.of (hc F h.hF h.fl.lt) (hf F h.hF h.fl.lt) hl, h.hF, h.ff⟩
theorem LPk.later {W W' : World} {L : Nat} {p : Pk} {cs : List Value} {Md Mr C S F : Nat} (h : LPk W L p cs Md Mr C S F) (hb : Below W.heap.size W W') : LPk W' L p cs Md Mr C S F :=
 ⟨h.pc, h.dl.later hb, h.rl.later hb, h.cl.later hb, h.hC, h.sl.later hb, h.hS, h.fl.later hb, h.hF, h.ff⟩
theorem LPk.lists {W : World} {L : Nat} {p : Pk} {cs : List Value} {Md Mr C S F : Nat} (h : LPk W L p cs Md Mr C S F) (hz : PkZ p) : PkL W p (.slice (some ⟨Md, 0, none⟩) p.dp.length (p.dp.length + 1)) (.slice (some ⟨Mr, 0, none⟩) p.pr.length (p.pr.length + 1)) (.slice (some ⟨C, 0, none⟩) p.cf.length (p.cf.length + 1)) (.slice (some ⟨S, 0, none⟩) p.pv.length (p.pv.length + 1)) (.slice (some ⟨F, 0, none⟩) p.fs.length (p.fs.length + 1)) := by
 refine ⟨h.dl.cls (fun al ha => by have := hz.dls al ha; omega), h.rl.cls (fun al ha => by have := hz.rls al ha; omega), h.cl.ats (by have := hz.cl; omega), ⟨_, _, rfl, by have := hz.vl; omega, fun i hi => ⟨S, 0, rfl, h.sl.lt, ?_⟩⟩, ⟨_, _, rfl, by have := hz.fl; omega, fun i hi => ⟨h.ff _ (List.getElem_mem hi), F, 0, rfl, h.fl.lt, fun j v hv => ?_⟩⟩⟩
 ·rw [Nat.zero_add]
  refine h.sl.elem i _ ?_
  rw [List.getElem?_append_left (by simpa using hi), List.getElem?_map, List.getElem?_eq_getElem hi]
  rfl
 ·rw [Nat.zero_add]
  refine h.fl.elem _ _ ?_
  have hl := flat_lenm 34 p.fs (fun r hr => (h.ff r hr).1)
  have hj : j < 34 := by rw [← (h.ff _ (List.getElem_mem hi)).1]; exact (List.getElem?_eq_some_iff.1 hv).1
  rw [List.getElem?_append_left (by rw [hl]; omega), flat_get 34 (by omega) p.fs (fun r hr => (h.ff r hr).1), show (i * 34 + j) / 34 = i by omega, show (i * 34 + j) % 34 = j by omega, List.getElem?_eq_getElem hi]
  exact hv
structure PRow (base : Nat) (W : World) (L : Nat) (ps : List Pk) (n : Nat) : Prop where
 row : ∀ i p, i < n → ps[i]? = some p → ∃ cs Md Mr C S F, W.rangeAt L (i * 43) cs ∧ LPk W L p cs Md Mr C S F
 spot : ∀ j, j < (ps.length + 1) * 43 → (W.cell? ⟨L, j, none⟩).isSome = true
 fr : ∀ j, W.frozen? ⟨L, j, none⟩ = false
 lt : L < W.heap.size
 lo : base ≤ L
theorem PRow.later {base : Nat} {W W' : World} {L n : Nat} {ps : List Pk} (h : PRow base W L ps n) (hb : Below W.heap.size W W') : PRow base W' L ps n := by
 refine ⟨fun i p hi hp => ?_, fun j hj => ?_, fun j => (hb.frozen (p := ⟨L, j, none⟩) h.lt).trans (h.fr j), Nat.lt_of_lt_of_le h.lt hb.size, h.lo⟩
 ·obtain ⟨cs, Md, Mr, C, S, F, h1, h2⟩ := h.row i p hi hp
  exact ⟨cs, Md, Mr, C, S, F, rangeAt_later h1 h.lt hb, h2.later hb⟩
 ·rw [hb.cell (p := ⟨L, j, none⟩) h.lt]; exact h.spot j hj
theorem prow_of (w : World) (z : Array Value) (t : TypeId) (ps : List Pk) : PRow w.heap.size (w.alloc (.cells (madeCells z ((ps.length + 1) * 43)) t)) w.heap.size ps 0 := by
 refine ⟨fun i p hi _ => absurd hi (Nat.not_lt_zero _), fun j hj => ?_, fun j => ?_, ?_, Nat.le_refl _⟩
 ·rw [World.cell?_alloc_at _ _ _ _ rfl]; exact made_some _ _ _ hj
 ·rw [World.frozen?_alloc_at _ _ _ _ rfl]
 ·simp
theorem PRow.there {base : Nat} {W : World} {L n : Nat} {ps : List Pk} (h : PRow base W L ps n) (i : Nat) (hi : i ≤ ps.length) : W.there L (i * 43) 43 := fun j hj => ⟨h.spot _ (by omega), h.fr _⟩
theorem setCells_blk (L o : Nat) (vs : List Value) (W : World) (D : Nat) (hD : L < D) (j : Nat) : (W.setCells L o vs).cell? ⟨D, j, none⟩ = W.cell? ⟨D, j, none⟩ :=
 World.cell?_setCells_out _ _ _ _ _ (fun e _ => absurd e (by show D ≠ L; omega))
theorem LPk.set {W : World} {L : Nat} {p : Pk} {cs : List Value} {Md Mr C S F : Nat} (h : LPk W L p cs Md Mr C S F) (o : Nat) (vs : List Value) : LPk (W.setCells L o vs) L p cs Md Mr C S F :=
 h.of (fun D hD _ => setCells_blk L o vs W D hD) (fun D _ _ j => World.frozen?_setCells _ _ _ _ _) (by rw [size_setCells]; exact Nat.le_refl _) (fun D hD => setCells_blk L o vs W D hD) (fun D _ j => World.frozen?_setCells _ _ _ _ _)
theorem PRow.keep {base : Nat} {W : World} {L n : Nat} {ps : List Pk} (h : PRow base W L ps n) (_ : n ≤ ps.length) (o : Nat) (vs : List Value) (ho : n * 43 ≤ o) : PRow base (W.setCells L o vs) L ps n := by
 refine ⟨fun i p hi hp => ?_, fun j hj => World.isSome_setCells _ _ _ _ _ (h.spot j hj), fun j => ?_, by rw [size_setCells]; exact h.lt, h.lo⟩
 ·obtain ⟨cs, Md, Mr, C, S, F, h1, h2⟩ := h.row i p hi hp
  exact ⟨cs, Md, Mr, C, S, F, World.rangeAt_setCells_apart h1 _ _ _ (.inr (.inl (by rw [h2.pc.len]; omega))), h2.set o vs⟩
 ·rw [World.frozen?_setCells]; exact h.fr j
theorem PRow.put {base : Nat} {W : World} {L n : Nat} {ps : List Pk} {p : Pk} {cs : List Value} {Md Mr C S F : Nat} (h : PRow base W L ps n) (hp : ps[n]? = some p) (hk : LPk W L p cs Md Mr C S F) : PRow base (W.setCells L (n * 43) cs) L ps (n + 1) := by
 have hn : n < ps.length := (List.getElem?_eq_some_iff.1 hp).1
 have hk' := h.keep (Nat.le_of_lt hn) (n * 43) cs (Nat.le_refl _)
 refine ⟨fun i q hi hq => ?_, hk'.spot, hk'.fr, hk'.lt, h.lo⟩
 by_cases e : i = n
 ·subst e
  rw [hp] at hq; cases hq
  exact ⟨cs, Md, Mr, C, S, F, World.rangeAt_setCells_same _ _ _ _ (by rw [hk.pc.len]; exact h.there i (by omega)), hk.set _ _⟩
 ·exact hk'.row i q (by omega) hq
structure Lps (base : Nat) (W : World) (L : Nat) (ps : List Pk) : Prop where
 row : PRow base W L ps ps.length
 last : W.cell? ⟨L, ps.length * 43, none⟩ = some (.string ⟨#[77, 65, 82, 75]⟩)
theorem Lps.later {base : Nat} {W W' : World} {L : Nat} {ps : List Pk} (h : Lps base W L ps) (hb : Below W.heap.size W W') : Lps base W' L ps :=
 ⟨h.row.later hb, (hb.cell (p := ⟨L, _, none⟩) h.row.lt).trans h.last⟩
theorem PRow.done {base : Nat} {W : World} {L : Nat} {ps : List Pk} (h : PRow base W L ps ps.length) (ms : List Value) (hm : ms.length = 43) (h0 : ms[0]? = some (.string ⟨#[77, 65, 82, 75]⟩)) : Lps base (W.setCells L (ps.length * 43) ms) L ps :=
 ⟨h.keep (Nat.le_refl _) _ _ (Nat.le_refl _), World.rangeAt_setCells_same W L (ps.length * 43) ms (by rw [hm]; exact h.there _ (Nat.le_refl _)) 0 _ h0⟩
theorem Lps.pkl {base : Nat} {W : World} {L : Nat} {ps : List Pk} (h : Lps base W L ps) (hz : ∀ p ∈ ps, PkZ p) : Pkl W (.slice (some ⟨L, 0, none⟩) ps.length (ps.length + 1)) ps := by
 refine ⟨_, _, rfl, fun _ => ⟨L, 0, rfl, h.row.lt, fun i p hp => ?_⟩⟩
 obtain ⟨cs, Md, Mr, C, S, F, h1, h2⟩ := h.row.row i p (List.getElem?_eq_some_iff.1 hp).1 hp
 rw [Nat.zero_add]
 exact ⟨cs, _, _, _, _, _, h1, h2.pc, h2.lists (hz p (List.mem_of_getElem? hp))⟩
end
section
open Go.RowKit
theorem cell_heap {W W' : World} {D : Nat} (h : W'.heap[D]? = W.heap[D]?) (j : Nat) : W'.cell? ⟨D, j, none⟩ = W.cell? ⟨D, j, none⟩ := by
 unfold World.cell?
 simp [h]
theorem frozen_heap {W W' : World} {D : Nat} (h : W'.heap[D]? = W.heap[D]?) (j : Nat) : W'.frozen? ⟨D, j, none⟩ = W.frozen? ⟨D, j, none⟩ := by
 unfold World.frozen?
 simp [h]
theorem infoPz : ∃ zc : List Value, (Tryz.prog.info? 46).map (fun i => (i.zero, i.size, i.bytes)) = some (some (.agg zc.toArray), 43, 232) ∧ zc.length = 43 :=
 ⟨((((Tryz.prog.info? 46).bind (·.zero)).map fun z => z.cells.toList).getD []), by kernel_rfl, by kernel_rfl⟩
theorem makeQ : ∃ zc : Array Value, ∀ (n : Nat) (_ : n ≤ 100000000000) (u : World), (Instr.makeSlice 22 (.int .i64 ((n : Int) + 1)) (.int .i64 ((n : Int) + 1))).run Tryz.prog u =
 .ok (.slice (some ⟨u.heap.size, 0, none⟩) (n + 1) (n + 1)) (u.alloc (.cells (madeCells zc ((n + 1) * 43)) 46)) := by
 obtain ⟨zc, hzc, _⟩ := infoPz
 obtain ⟨i0, hi, hz0, hz1, hz2⟩ := info_parts hzc
 refine ⟨zc.toArray, fun n hn u => ?_⟩
 have h := run_make (P := Tryz.prog) u 22 46 i0 (.agg zc.toArray) Tryz.underlying22 hi hz0 .i64 .i64 ((n : Int) + 1) ((n : Int) + 1) (by omega) (Int.le_refl _) (by rw [hz2]; omega) (by omega)
 have e : ((n : Int) + 1).toNat = n + 1 := by omega
 rw [e] at h
 simpa [hz1, Value.cells] using h
section
variable {ops : Array Oper} {rest : List Oper} {o : Oper} {a : Act} {w : World} {Q : Exit → Act → World → Prop}
theorem p_storem (x y : Operand) (ho : o.op = .store 46 x y) (hw : Region.wanted o (yielded ops a.tmps) = true) (b off : Nat) (hx : a.eval x = .pointer (some ⟨b, off, none⟩)) (l : List Value) (hy : a.eval y = .agg l.toArray) (hl : l.length = 43) (h1 : ∀ x ∈ l, x.oneCell' = true) (ht : w.there b off 43)
 (h : wpList Tryz.prog ops Q rest (a.put o.dst undef) (w.setCells b off l)) : wpList Tryz.prog ops Q (o :: rest) a w := by
 refine BigFrame.wpList_want hw fun K hK => ?_
 exact wp_store_mid 46 x y ho b off l.toArray hx hy (by rw [List.size_toArray, hl]; exact ht) (by rw [sizeP, List.size_toArray, hl]) (all_oneCell_toArray h1) (hK _ _ h)
theorem p_storef (x y : Operand) (ho : o.op = .store 58 x y) (hw : Region.wanted o (yielded ops a.tmps) = true) (b off : Nat) (hx : a.eval x = .pointer (some ⟨b, off, none⟩)) (l : List Value) (hy : a.eval y = .agg l.toArray) (hl : l.length = 34) (h1 : ∀ x ∈ l, x.oneCell' = true) (ht : w.there b off 34)
 (h : wpList Tryz.prog ops Q rest (a.put o.dst undef) (w.setCells b off l)) : wpList Tryz.prog ops Q (o :: rest) a w := by
 refine BigFrame.wpList_want hw fun K hK => ?_
 exact wp_store_mid 58 x y ho b off l.toArray hx hy (by rw [List.size_toArray, hl]; exact ht) (by rw [infoF, List.size_toArray, hl]) (all_oneCell_toArray h1) (hK _ _ h)
end
theorem PkC.lists {cs : List Value} {p : Pk} {d r c v f d' r' c' v' f' : Value} (h : PkC cs p d r c v f) (od : d'.oneCell' = true) (or : r'.oneCell' = true) (oc : c'.oneCell' = true) (ov : v'.oneCell' = true) (of : f'.oneCell' = true) (hs : p.sm.length = 32) :
 PkC (((((cs.set 3 d').set 4 r').set 5 c').set 6 v').set 7 f') p d' r' c' v' f' := by
 have hl := h.len
 refine ⟨by simp [hl], fun x hx => ?_, ?_, ?_, ?_, ?_, ?_, ?_, ?_, ?_, ?_, ?_, fun j x hx => ?_, ?_⟩
 ·rcases List.mem_or_eq_of_mem_set hx with hx | rfl
  ·rcases List.mem_or_eq_of_mem_set hx with hx | rfl
   ·rcases List.mem_or_eq_of_mem_set hx with hx | rfl
    ·rcases List.mem_or_eq_of_mem_set hx with hx | rfl
     ·rcases List.mem_or_eq_of_mem_set hx with hx | rfl
      ·exact h.one x hx
      ·exact od
     ·exact or
    ·exact oc
   ·exact ov
  ·exact of
 ·simp [h.c0]
 ·simp [h.c1]
 ·simp [h.c2]
 ·simp [hl]
 ·simp [hl]
 ·simp [hl]
 ·simp [hl]
 ·simp [hl]
 ·simp [h.c8]
 ·simp [h.c9]
 ·have hj : j < 32 := by rw [← hs]; exact (List.getElem?_eq_some_iff.1 hx).1
  rw [List.getElem?_set_ne (by omega), List.getElem?_set_ne (by omega), List.getElem?_set_ne (by omega), List.getElem?_set_ne (by omega), List.getElem?_set_ne (by omega)]
  exact h.cs0 j x hx
 ·simp [h.c42]
theorem Blk.markS {W : World} {B : Nat} {pl : List ByteArray} (h : Blk W B (pl.map .string) (pl.length + 1)) : Blk (W.setCell ⟨B, pl.length, none⟩ (.string ⟨#[77, 65, 82, 75]⟩)) B (pl.map .string ++ [.string ⟨#[77, 65, 82, 75]⟩]) (pl.length + 1) := by
 obtain ⟨z, hz⟩ := Option.isSome_iff_exists.1 (h.spot pl.length (by omega))
 refine ⟨fun j v hv => ?_, fun j hj => ?_, fun j => ?_, by simpa using h.lt⟩
 ·by_cases e : j = pl.length
  ·subst e
   rw [List.getElem?_append_right (by simp)] at hv
   simp at hv
   subst hv
   exact World.cell?_setCell_same _ _ _ hz
  ·have hj := (List.getElem?_eq_some_iff.1 hv).1
   simp at hj
   rw [List.getElem?_append_left (by simp; omega)] at hv
   rw [World.cell?_setCell_other _ _ _ _ (off_ne (Ne.symm e))]
   exact h.elem j v hv
 ·by_cases e : j = pl.length
  ·subst e; rw [World.cell?_setCell_same _ _ _ hz]; rfl
  ·rw [World.cell?_setCell_other _ _ _ _ (off_ne (Ne.symm e))]; exact h.spot j hj
 ·rw [World.frozen?_setCell]; exact h.fr j
theorem Blk.markF {W : World} {B : Nat} {fs : List (List Value)} (hf : ∀ x ∈ fs, isF x) (h : Blk W B fs.flatten ((fs.length + 1) * 34)) (ms : List Value) (hm : ms.length = 34) (h0 : ms[0]? = some (.string ⟨#[77, 65, 82, 75]⟩)) : Blk (W.setCells B (fs.length * 34) ms) B (fs.flatten ++ [.string ⟨#[77, 65, 82, 75]⟩]) ((fs.length + 1) * 34) := by
 have hl := flat_lenm 34 fs (fun r hr => (hf r hr).1)
 have hp := h.put (fs.length * 34) ms (by omega)
 refine ⟨fun j v hv => ?_, hp.spot, hp.fr, hp.lt⟩
 by_cases e : j < fs.flatten.length
 ·rw [List.getElem?_append_left e] at hv
  exact hp.elem j v hv
 ·rw [List.getElem?_append_right (by omega)] at hv
  have hj := (List.getElem?_eq_some_iff.1 hv).1
  rw [List.length_singleton] at hj
  obtain rfl : j = fs.length * 34 := by omega
  rw [hl, Nat.sub_self] at hv
  have := World.rangeAt_setCells_same W B (fs.length * 34) ms (by rw [hm]; exact fun j hj => ⟨h.spot _ (by omega), h.fr _⟩) 0 _ h0
  rw [Nat.add_zero] at this
  rw [this]
  exact hv
end
section
open Go.RowKit
theorem stC (w : World) (g i : Nat) (a : Option Addr) (n c : Nat) (old : Value) (hc : w.cell? ⟨g, i, none⟩ = some old) (hz : w.frozen? ⟨g, i, none⟩ = false) :
 (storeVar 41 ⟨g, i, none⟩ (.slice a n c)).run Tryz.prog w = .ok () (w.setCell ⟨g, i, none⟩ (.slice a n c)) := by
 simp [go_sem, hc, hz]
theorem new_bkK {wr w2 w3 : World} {cs : List Value} (k2 : Below wr.heap.size wr w2) (b3 : BkP w3 wr.heap.size cs) (k3 : ∀ B, B ≤ wr.heap.size → Below B w2 w3) : Hid (Below wr.heap.size wr w3) ∧ Hid (BkP w3 wr.heap.size cs) :=
 ⟨hide (k2.trans (k3 _ (Nat.le_refl _))), hide b3⟩
theorem Lcl.put {base G : Nat} {W W' : World} {M : Nat} {cl : List (List At)} (h : Lcl base W M cl) (hG : G < M) (o : ∀ k, k ≠ G → W'.heap[k]? = W.heap[k]?) (z : W'.heap.size = W.heap.size) : Lcl base W' M cl :=
 h.of (fun D hD => cell_heap (o D (by omega))) (fun D hD => frozen_heap (o D (by omega))) (by omega)
theorem Mk1.put {G : Nat} {W W' : World} {C : Nat} {al : List At} (h : Mk1 W C al) (hG : G < C) (o : ∀ k, k ≠ G → W'.heap[k]? = W.heap[k]?) (z : W'.heap.size = W.heap.size) : Mk1 W' C al :=
 h.of (cell_heap (o C (by omega))) (frozen_heap (o C (by omega))) (by omega)
theorem Blk.set {G : Nat} {W W' : World} {B n : Nat} {cs : List Value} (h : Blk W B cs n) (hG : G < B) (o : ∀ k, k ≠ G → W'.heap[k]? = W.heap[k]?) (z : W'.heap.size = W.heap.size) : Blk W' B cs n :=
 h.of (cell_heap (o B (by omega))) (frozen_heap (o B (by omega))) (by omega)
theorem Lcl.base {b b' : Nat} {W : World} {M : Nat} {cl : List (List At)} (h : Lcl b W M cl) (hb : b' ≤ M) : Lcl b' W M cl := ⟨⟨h.row.row, h.row.spot, h.row.fr, h.row.lt, hb⟩, h.last⟩
theorem strs_step (pl : List ByteArray) (x : Value) (X : World) (h : Strs X x pl) : ∃ v' W, (Builtin.copy_ #[42, 42] 3 #[.slice (some ⟨X.heap.size, 0, none⟩) (pl.length + 1) (pl.length + 1), x]).run Tryz.prog (X.alloc (.cells (madeCells #[.string ⟨#[]⟩] (pl.length + 1)) 9)) = .ok v' W ∧ Hid (Blk W X.heap.size (pl.map .string) (pl.length + 1)) ∧ Hid (Below X.heap.size X W) ∧ (∃ z, W.cell? ⟨X.heap.size, pl.length, none⟩ = some z) ∧ W.frozen? ⟨X.heap.size, pl.length, none⟩ = false := by
 have hb := (Below.refl X.heap.size X).alloc (Nat.le_refl _) (.cells (madeCells #[.string ⟨#[]⟩] (pl.length + 1)) 9)
 obtain ⟨v', hv⟩ := copy_strs pl x 3 X.heap.size (pl.length + 1) (X.alloc (.cells (madeCells #[.string ⟨#[]⟩] (pl.length + 1)) 9)) (h.later hb) (fun j hj => by rw [World.cell?_alloc_at _ _ _ _ rfl]; exact made_some _ _ _ (by omega)) (fun j => by rw [World.frozen?_alloc_at _ _ _ _ rfl])
 have hk := blk_of X #[.string ⟨#[]⟩] (pl.length + 1) 9 (pl.map .string) (by simp)
 exact ⟨v', _, hv, hide hk, hide (below_setCells _ (Nat.le_refl _) _ _ _ hb), Option.isSome_iff_exists.1 (hk.spot _ (by omega)), hk.fr _⟩
theorem fls_step (zf : Array Value) (fs : List (List Value)) (x : Value) (X : World) (h : Fls X x fs) (hf : ∀ r ∈ fs, isF r) : ∃ v' W, (Builtin.copy_ #[43, 43] 3 #[.slice (some ⟨X.heap.size, 0, none⟩) (fs.length + 1) (fs.length + 1), x]).run Tryz.prog (X.alloc (.cells (madeCells zf ((fs.length + 1) * 34)) 58)) = .ok v' W ∧ Hid (Blk W X.heap.size fs.flatten ((fs.length + 1) * 34)) ∧ Hid (Below X.heap.size X W) ∧ Hid (W.there X.heap.size (fs.length * 34) 34) := by
 have hb := (Below.refl X.heap.size X).alloc (Nat.le_refl _) (.cells (madeCells zf ((fs.length + 1) * 34)) 58)
 obtain ⟨v', hv⟩ := copy_files fs x 3 X.heap.size (fs.length + 1) (X.alloc (.cells (madeCells zf ((fs.length + 1) * 34)) 58)) (h.later hb) (fun j hj => by rw [World.cell?_alloc_at _ _ _ _ rfl]; exact made_some _ _ _ (by omega)) (fun j => by rw [World.frozen?_alloc_at _ _ _ _ rfl])
 have hk := blk_of X zf ((fs.length + 1) * 34) 58 fs.flatten (by rw [flat_lenm 34 fs (fun r hr => (hf r hr).1)]; omega)
 exact ⟨v', _, hv, hide hk, hide (below_setCells _ (Nat.le_refl _) _ _ _ hb), hide (fun j hj => ⟨hk.spot _ (by omega), hk.fr _⟩)⟩
theorem strs_mark {wr X W : World} {pl : List ByteArray} {l : List Value} (K : Below wr.heap.size wr X) (B : BkP X wr.heap.size l) (hk : Blk W X.heap.size (pl.map .string) (pl.length + 1)) (hb : Below X.heap.size X W) :
 Hid (Below wr.heap.size wr W) ∧ Hid (Below wr.heap.size wr (W.setCell ⟨X.heap.size, pl.length, none⟩ (.string ⟨#[77, 65, 82, 75]⟩))) ∧ Hid (Below X.heap.size X (W.setCell ⟨X.heap.size, pl.length, none⟩ (.string ⟨#[77, 65, 82, 75]⟩))) ∧ Hid (BkP (W.setCell ⟨X.heap.size, pl.length, none⟩ (.string ⟨#[77, 65, 82, 75]⟩)) wr.heap.size l) ∧ Hid (Blk (W.setCell ⟨X.heap.size, pl.length, none⟩ (.string ⟨#[77, 65, 82, 75]⟩)) X.heap.size (pl.map .string ++ [.string ⟨#[77, 65, 82, 75]⟩]) (pl.length + 1)) := by
 have hb2 := hb.setCell (p := ⟨X.heap.size, pl.length, none⟩) (Nat.le_refl _) (.string ⟨#[77, 65, 82, 75]⟩)
 exact ⟨hide (bl_t K hb), hide (bl_t K hb2), hide hb2, hide (B.later hb2), hide hk.markS⟩
section
variable {ops : Array Oper} {rest : List Oper} {o : Oper} {a : Act} {w : World} {Q : Exit → Act → World → Prop}
theorem p_storef' (x y : Operand) (ho : o.op = .store 58 x y) (hw : Region.wanted o (yielded ops a.tmps) = true) (b off : Nat) (hx : a.eval x = .pointer (some ⟨b, off, none⟩)) (l : List Value) (hy : a.eval y = .agg l.toArray) (ht : w.there b off 34) (hl : l.length = 34) (h1 : l.all (fun x => x.oneCell') = true) (h0 : l[0]? = some (.string ⟨#[77, 65, 82, 75]⟩))
 (h : ∀ w2, (∃ ms : List Value, w2 = w.setCells b off ms ∧ ms.length = 34 ∧ ms[0]? = some (.string ⟨#[77, 65, 82, 75]⟩)) → wpList Tryz.prog ops Q rest (a.put o.dst undef) w2) : wpList Tryz.prog ops Q (o :: rest) a w :=
 p_storef x y ho hw b off hx l hy hl (List.all_eq_true.1 h1) ht (h _ ⟨l, rfl, hl, h0⟩)
theorem p_storem' (x y : Operand) (ho : o.op = .store 46 x y) (hw : Region.wanted o (yielded ops a.tmps) = true) (b off : Nat) (hx : a.eval x = .pointer (some ⟨b, off, none⟩)) (l : List Value) (hy : a.eval y = .agg l.toArray) (ht : w.there b off 43) (hl : l.length = 43) (h1 : l.all (fun x => x.oneCell') = true) (h0 : l[0]? = some (.string ⟨#[77, 65, 82, 75]⟩))
 (h : ∀ w2, (∃ ms : List Value, w2 = w.setCells b off ms ∧ ms.length = 43 ∧ ms[0]? = some (.string ⟨#[77, 65, 82, 75]⟩)) → wpList Tryz.prog ops Q rest (a.put o.dst undef) w2) : wpList Tryz.prog ops Q (o :: rest) a w :=
 p_storem x y ho hw b off hx l hy hl (List.all_eq_true.1 h1) ht (h _ ⟨l, rfl, hl, h0⟩)
end
theorem fls_mark {wr X W w2 : World} {fs : List (List Value)} {l : List Value} (hf : ∀ r ∈ fs, isF r) (K : Below wr.heap.size wr X) (B : BkP X wr.heap.size l) (hk : Blk W X.heap.size fs.flatten ((fs.length + 1) * 34)) (hb : Below X.heap.size X W) (hw : ∃ ms : List Value, w2 = W.setCells X.heap.size (fs.length * 34) ms ∧ ms.length = 34 ∧ ms[0]? = some (.string ⟨#[77, 65, 82, 75]⟩)) :
 Hid (Below wr.heap.size wr w2) ∧ Hid (Below X.heap.size X w2) ∧ Hid (BkP w2 wr.heap.size l) ∧ Hid (Blk w2 X.heap.size (fs.flatten ++ [.string ⟨#[77, 65, 82, 75]⟩]) ((fs.length + 1) * 34)) := by
 obtain ⟨ms, rfl, h1, h2⟩ := hw
 have hb2 := below_setCells X.heap.size (Nat.le_refl _) ms (fs.length * 34) W hb
 exact ⟨hide (bl_t K hb2), hide hb2, hide (B.later hb2), hide (hk.markF hf ms h1 h2)⟩
end
end Go.Proofs.YtdkpglmdncjnbaaGreatDoor
