import Derived.Test.YtmckmeoondlcpaaDoorVmH
namespace Go.Proofs.YtmckmeoondlcpaaDoor
open Go.RowKit

theorem Row.of {base : Nat} {W W' : World} {M n : Nat} {cl : List (List At)} (h : Row base W M cl n) (hc : ∀ D, M ≤ D → ∀ j, W'.cell? ⟨D, j, none⟩ = W.cell? ⟨D, j, none⟩) (hf : ∀ D, M ≤ D → ∀ j, W'.frozen? ⟨D, j, none⟩ = W.frozen? ⟨D, j, none⟩) (hl : W.heap.size ≤ W'.heap.size) : Row base W' M cl n := by
  refine ⟨fun i al hi ha => ?_, fun j hj => ?_, fun j => (hf M (Nat.le_refl _) j).trans (h.fr j), Nat.lt_of_lt_of_le h.lt hl, h.lo⟩
  · obtain ⟨C, h1, h2, h3⟩ := h.row i al hi ha
    exact ⟨C, h1, (hc M (Nat.le_refl _) i).trans h2, h3.of (hc C (Nat.le_of_lt h1)) (hf C (Nat.le_of_lt h1)) hl⟩
  · rw [hc M (Nat.le_refl _)]; exact h.spot j hj
theorem Lcl.of {base : Nat} {W W' : World} {M : Nat} {cl : List (List At)} (h : Lcl base W M cl) (hc : ∀ D, M ≤ D → ∀ j, W'.cell? ⟨D, j, none⟩ = W.cell? ⟨D, j, none⟩) (hf : ∀ D, M ≤ D → ∀ j, W'.frozen? ⟨D, j, none⟩ = W.frozen? ⟨D, j, none⟩) (hl : W.heap.size ≤ W'.heap.size) : Lcl base W' M cl := by
  obtain ⟨K, h1, h2, h3, h4, h5, h6⟩ := h.last
  have hK := hc K (Nat.le_of_lt h1)
  exact ⟨h.row.of hc hf hl, K, h1, Nat.lt_of_lt_of_le h2 hl, (hc M (Nat.le_refl _) _).trans h3, (hK _).trans h4, (hK _).trans h5, (hK _).trans h6⟩

/-- A PACKAGE THAT IS LENT: its cells, its lists in blocks behind L, marks behind them. -/
structure LPk (W : World) (L : Nat) (p : Pk) (cs : List Value) (Md Mr C S F : Nat) : Prop where
  pc : PkC cs p (.slice (some ⟨Md, 0, none⟩) p.dp.length (p.dp.length + 1)) (.slice (some ⟨Mr, 0, none⟩) p.pr.length (p.pr.length + 1)) (.slice (some ⟨C, 0, none⟩) p.cf.length (p.cf.length + 1)) (.slice (some ⟨S, 0, none⟩) p.pv.length (p.pv.length + 1)) (.slice (some ⟨F, 0, none⟩) p.fs.length (p.fs.length + 1))
  dl : Lcl (L + 1) W Md p.dp
  rl : Lcl (L + 1) W Mr p.pr
  cl : Mk1 W C p.cf
  hC : L < C
  sl : Blk W S (p.pv.map .string ++ [.string ⟨#[77, 65, 82, 75]⟩]) (p.pv.length + 1)
  hS : L < S
  fl : Blk W F (p.fs.flatten ++ [.string ⟨#[77, 65, 82, 75]⟩]) ((p.fs.length + 1) * 34)
  hF : L < F
  ff : ∀ x ∈ p.fs, isF x
theorem LPk.of {W W' : World} {L : Nat} {p : Pk} {cs : List Value} {Md Mr C S F : Nat} (h : LPk W L p cs Md Mr C S F) (hc : ∀ D, L < D → D < W.heap.size → ∀ j, W'.cell? ⟨D, j, none⟩ = W.cell? ⟨D, j, none⟩) (hf : ∀ D, L < D → D < W.heap.size → ∀ j, W'.frozen? ⟨D, j, none⟩ = W.frozen? ⟨D, j, none⟩) (hl : W.heap.size ≤ W'.heap.size)
    (hc' : ∀ D, L < D → ∀ j, W'.cell? ⟨D, j, none⟩ = W.cell? ⟨D, j, none⟩) (hf' : ∀ D, L < D → ∀ j, W'.frozen? ⟨D, j, none⟩ = W.frozen? ⟨D, j, none⟩) : LPk W' L p cs Md Mr C S F :=
  have hd := h.dl.row.lo
  have hr := h.rl.row.lo
  ⟨h.pc, h.dl.of (fun D hD => hc' D (by omega)) (fun D hD => hf' D (by omega)) hl, h.rl.of (fun D hD => hc' D (by omega)) (fun D hD => hf' D (by omega)) hl,
    h.cl.of (hc C h.hC h.cl.lt) (hf C h.hC h.cl.lt) hl, h.hC, h.sl.of (hc S h.hS h.sl.lt) (hf S h.hS h.sl.lt) hl, h.hS, h.fl.of (hc F h.hF h.fl.lt) (hf F h.hF h.fl.lt) hl, h.hF, h.ff⟩
theorem LPk.later {W W' : World} {L : Nat} {p : Pk} {cs : List Value} {Md Mr C S F : Nat} (h : LPk W L p cs Md Mr C S F) (hb : Below W.heap.size W W') : LPk W' L p cs Md Mr C S F :=
  ⟨h.pc, h.dl.later hb, h.rl.later hb, h.cl.later hb, h.hC, h.sl.later hb, h.hS, h.fl.later hb, h.hF, h.ff⟩
/-- .. IT READS AS IT WAS. -/
theorem LPk.lists {W : World} {L : Nat} {p : Pk} {cs : List Value} {Md Mr C S F : Nat} (h : LPk W L p cs Md Mr C S F) (hz : PkZ p) : PkL W p (.slice (some ⟨Md, 0, none⟩) p.dp.length (p.dp.length + 1)) (.slice (some ⟨Mr, 0, none⟩) p.pr.length (p.pr.length + 1)) (.slice (some ⟨C, 0, none⟩) p.cf.length (p.cf.length + 1)) (.slice (some ⟨S, 0, none⟩) p.pv.length (p.pv.length + 1)) (.slice (some ⟨F, 0, none⟩) p.fs.length (p.fs.length + 1)) := by
  refine ⟨h.dl.cls (fun al ha => by have := hz.dls al ha; omega), h.rl.cls (fun al ha => by have := hz.rls al ha; omega), h.cl.ats (by have := hz.cl; omega), ⟨_, _, rfl, by have := hz.vl; omega, fun i hi => ⟨S, 0, rfl, h.sl.lt, ?_⟩⟩, ⟨_, _, rfl, by have := hz.fl; omega, fun i hi => ⟨h.ff _ (List.getElem_mem hi), F, 0, rfl, h.fl.lt, fun j v hv => ?_⟩⟩⟩
  · rw [Nat.zero_add]
    refine h.sl.elem i _ ?_
    rw [List.getElem?_append_left (by simpa using hi), List.getElem?_map, List.getElem?_eq_getElem hi]
    rfl
  · rw [Nat.zero_add]
    refine h.fl.elem _ _ ?_
    have hl := flat_lenm 34 p.fs (fun r hr => (h.ff r hr).1)
    have hj : j < 34 := by rw [← (h.ff _ (List.getElem_mem hi)).1]; exact (List.getElem?_eq_some_iff.1 hv).1
    rw [List.getElem?_append_left (by rw [hl]; omega), flat_get 34 (by omega) p.fs (fun r hr => (h.ff r hr).1), show (i * 34 + j) / 34 = i by omega, show (i * 34 + j) % 34 = j by omega, List.getElem?_eq_getElem hi]
    exact hv
/-- THE ROW OF THE PACKAGES, THE FIRST n OF THEM PUT. -/
structure PRow (base : Nat) (W : World) (L : Nat) (ps : List Pk) (n : Nat) : Prop where
  row : ∀ i p, i < n → ps[i]? = some p → ∃ cs Md Mr C S F, W.rangeAt L (i * 43) cs ∧ LPk W L p cs Md Mr C S F
  spot : ∀ j, j < (ps.length + 1) * 43 → (W.cell? ⟨L, j, none⟩).isSome = true
  fr : ∀ j, W.frozen? ⟨L, j, none⟩ = false
  lt : L < W.heap.size
  lo : base ≤ L
theorem PRow.later {base : Nat} {W W' : World} {L n : Nat} {ps : List Pk} (h : PRow base W L ps n) (hb : Below W.heap.size W W') : PRow base W' L ps n := by
  refine ⟨fun i p hi hp => ?_, fun j hj => ?_, fun j => (hb.frozen (p := ⟨L, j, none⟩) h.lt).trans (h.fr j), Nat.lt_of_lt_of_le h.lt hb.size, h.lo⟩
  · obtain ⟨cs, Md, Mr, C, S, F, h1, h2⟩ := h.row i p hi hp
    exact ⟨cs, Md, Mr, C, S, F, rangeAt_later h1 h.lt hb, h2.later hb⟩
  · rw [hb.cell (p := ⟨L, j, none⟩) h.lt]; exact h.spot j hj
theorem prow_of (w : World) (z : Array Value) (t : TypeId) (ps : List Pk) : PRow w.heap.size (w.alloc (.cells (madeCells z ((ps.length + 1) * 43)) t)) w.heap.size ps 0 := by
  refine ⟨fun i p hi _ => absurd hi (Nat.not_lt_zero _), fun j hj => ?_, fun j => ?_, ?_, Nat.le_refl _⟩
  · rw [World.cell?_alloc_at _ _ _ _ rfl]; exact made_some _ _ _ hj
  · rw [World.frozen?_alloc_at _ _ _ _ rfl]
  · simp
theorem PRow.there {base : Nat} {W : World} {L n : Nat} {ps : List Pk} (h : PRow base W L ps n) (i : Nat) (hi : i ≤ ps.length) : W.there L (i * 43) 43 := fun j hj => ⟨h.spot _ (by omega), h.fr _⟩
theorem setCells_blk (L o : Nat) (vs : List Value) (W : World) (D : Nat) (hD : L < D) (j : Nat) : (W.setCells L o vs).cell? ⟨D, j, none⟩ = W.cell? ⟨D, j, none⟩ :=
  World.cell?_setCells_out _ _ _ _ _ (fun e _ => absurd e (by show D ≠ L; omega))
theorem LPk.set {W : World} {L : Nat} {p : Pk} {cs : List Value} {Md Mr C S F : Nat} (h : LPk W L p cs Md Mr C S F) (o : Nat) (vs : List Value) : LPk (W.setCells L o vs) L p cs Md Mr C S F :=
  h.of (fun D hD _ => setCells_blk L o vs W D hD) (fun D _ _ j => World.frozen?_setCells _ _ _ _ _) (by rw [size_setCells]; exact Nat.le_refl _) (fun D hD => setCells_blk L o vs W D hD) (fun D _ j => World.frozen?_setCells _ _ _ _ _)
theorem PRow.keep {base : Nat} {W : World} {L n : Nat} {ps : List Pk} (h : PRow base W L ps n) (_ : n ≤ ps.length) (o : Nat) (vs : List Value) (ho : n * 43 ≤ o) : PRow base (W.setCells L o vs) L ps n := by
  refine ⟨fun i p hi hp => ?_, fun j hj => World.isSome_setCells _ _ _ _ _ (h.spot j hj), fun j => ?_, by rw [size_setCells]; exact h.lt, h.lo⟩
  · obtain ⟨cs, Md, Mr, C, S, F, h1, h2⟩ := h.row i p hi hp
    exact ⟨cs, Md, Mr, C, S, F, World.rangeAt_setCells_apart h1 _ _ _ (.inr (.inl (by rw [h2.pc.len]; omega))), h2.set o vs⟩
  · rw [World.frozen?_setCells]; exact h.fr j
theorem PRow.put {base : Nat} {W : World} {L n : Nat} {ps : List Pk} {p : Pk} {cs : List Value} {Md Mr C S F : Nat} (h : PRow base W L ps n) (hp : ps[n]? = some p) (hk : LPk W L p cs Md Mr C S F) : PRow base (W.setCells L (n * 43) cs) L ps (n + 1) := by
  have hn : n < ps.length := (List.getElem?_eq_some_iff.1 hp).1
  have hk' := h.keep (Nat.le_of_lt hn) (n * 43) cs (Nat.le_refl _)
  refine ⟨fun i q hi hq => ?_, hk'.spot, hk'.fr, hk'.lt, h.lo⟩
  by_cases e : i = n
  · subst e
    rw [hp] at hq; cases hq
    exact ⟨cs, Md, Mr, C, S, F, World.rangeAt_setCells_same _ _ _ _ (by rw [hk.pc.len]; exact h.there i (by omega)), hk.set _ _⟩
  · exact hk'.row i q (by omega) hq
/-- WHAT lent HANDS OUT. -/
structure Lps (base : Nat) (W : World) (L : Nat) (ps : List Pk) : Prop where
  row : PRow base W L ps ps.length
  last : W.cell? ⟨L, ps.length * 43, none⟩ = some (.string ⟨#[77, 65, 82, 75]⟩)
theorem Lps.later {base : Nat} {W W' : World} {L : Nat} {ps : List Pk} (h : Lps base W L ps) (hb : Below W.heap.size W W') : Lps base W' L ps :=
  ⟨h.row.later hb, (hb.cell (p := ⟨L, _, none⟩) h.row.lt).trans h.last⟩
theorem PRow.done {base : Nat} {W : World} {L : Nat} {ps : List Pk} (h : PRow base W L ps ps.length) (ms : List Value) (hm : ms.length = 43) (h0 : ms[0]? = some (.string ⟨#[77, 65, 82, 75]⟩)) : Lps base (W.setCells L (ps.length * 43) ms) L ps :=
  ⟨h.keep (Nat.le_refl _) _ _ (Nat.le_refl _), World.rangeAt_setCells_same W L (ps.length * 43) ms (by rw [hm]; exact h.there _ (Nat.le_refl _)) 0 _ h0⟩
/-- .. READS AS WHAT WAS LENT. -/
theorem Lps.pkl {base : Nat} {W : World} {L : Nat} {ps : List Pk} (h : Lps base W L ps) (hz : ∀ p ∈ ps, PkZ p) : Pkl W (.slice (some ⟨L, 0, none⟩) ps.length (ps.length + 1)) ps := by
  refine ⟨_, _, rfl, fun _ => ⟨L, 0, rfl, h.row.lt, fun i p hp => ?_⟩⟩
  obtain ⟨cs, Md, Mr, C, S, F, h1, h2⟩ := h.row.row i p (List.getElem?_eq_some_iff.1 hp).1 hp
  rw [Nat.zero_add]
  exact ⟨cs, _, _, _, _, _, h1, h2.pc, h2.lists (hz p (List.mem_of_getElem? hp))⟩
end Go.Proofs.YtmckmeoondlcpaaDoor
