import Derived.Test.YtmckmeoondlcpaaDoorVmM
namespace Go.Proofs.YtmckmeoondlcpaaDoor
open Go.RowKit

/-- THE ATOM zz. -/
def zzA : At := ⟨⟨#[122, 122]⟩, 0, ⟨#[]⟩⟩
/-- AN ATOM WRITTEN OVER. -/
theorem Mk1.write {W : World} {C : Nat} {al : List At} (h : Mk1 W C al) (i : Nat) (hi : i < al.length) :
    Mk1 (((W.setCell ⟨C, i * 3, none⟩ (.string ⟨#[122, 122]⟩)).setCell ⟨C, i * 3 + 1, none⟩ (.int .i64 0)).setCell ⟨C, i * 3 + 2, none⟩ (.string ⟨#[]⟩)) C (al.set i zzA) := by
  have hz := h.elem i hi
  have hel : ∀ j, j ≠ i * 3 → j ≠ i * 3 + 1 → j ≠ i * 3 + 2 → (((W.setCell ⟨C, i * 3, none⟩ (.string ⟨#[122, 122]⟩)).setCell ⟨C, i * 3 + 1, none⟩ (.int .i64 0)).setCell ⟨C, i * 3 + 2, none⟩ (.string ⟨#[]⟩)).cell? ⟨C, j, none⟩ = W.cell? ⟨C, j, none⟩ := fun j h0 h1 h2 => by
    rw [World.cell?_setCell_other _ _ _ _ (off_ne (Ne.symm h2)), World.cell?_setCell_other _ _ _ _ (off_ne (Ne.symm h1)), World.cell?_setCell_other _ _ _ _ (off_ne (Ne.symm h0))]
  refine ⟨fun k hk => ?_, ?_, ?_, ?_, fun j => ?_, ?_⟩
  · rw [List.length_set] at hk
    by_cases e : i = k
    · subst e
      rw [List.getElem_set_self]
      refine ⟨?_, ?_, ?_⟩
      · rw [World.cell?_setCell_other _ _ _ _ (off_ne (by omega)), World.cell?_setCell_other _ _ _ _ (off_ne (by omega))]
        exact World.cell?_setCell_same _ _ _ hz.1
      · rw [World.cell?_setCell_other _ _ _ _ (off_ne (by omega))]
        exact World.cell?_setCell_same _ _ _ (by rw [World.cell?_setCell_other _ _ _ _ (off_ne (by omega))]; exact hz.2.1)
      · exact World.cell?_setCell_same _ _ _ (by rw [World.cell?_setCell_other _ _ _ _ (off_ne (by omega)), World.cell?_setCell_other _ _ _ _ (off_ne (by omega))]; exact hz.2.2)
    · rw [List.getElem_set_ne e, hel _ (by omega) (by omega) (by omega), hel _ (by omega) (by omega) (by omega), hel _ (by omega) (by omega) (by omega)]
      exact h.elem k hk
  · rw [List.length_set, hel _ (by omega) (by omega) (by omega)]; exact h.l0
  · rw [List.length_set, hel _ (by omega) (by omega) (by omega)]; exact h.l1
  · rw [List.length_set, hel _ (by omega) (by omega) (by omega)]; exact h.l2
  · rw [World.frozen?_setCell, World.frozen?_setCell, World.frozen?_setCell]; exact h.fr j
  · simpa using h.lt
/-- A NAME WRITTEN OVER. -/
def zzP (p : Pk) : Pk := { p with nm := ⟨#[122, 122]⟩ }
theorem PkC.name {cs : List Value} {p : Pk} {d r c v f : Value} (h : PkC cs p d r c v f) : PkC (cs.set 0 (.string ⟨#[122, 122]⟩)) (zzP p) d r c v f := by
  have hl := h.len
  refine ⟨by simp [hl], fun x hx => ?_, ?_, ?_, ?_, ?_, ?_, ?_, ?_, ?_, ?_, ?_, fun j x hx => ?_, ?_⟩
  · rcases List.mem_or_eq_of_mem_set hx with hx | rfl
    · exact h.one x hx
    · rfl
  · simp [hl, zzP]
  · simp [h.c1, zzP]
  · simp [h.c2, zzP]
  · simp [h.c3]
  · simp [h.c4]
  · simp [h.c5]
  · simp [h.c6]
  · simp [h.c7]
  · simp [h.c8, zzP]
  · simp [h.c9, zzP]
  · rw [List.getElem?_set_ne (by omega)]
    exact h.cs0 j x hx
  · simp [h.c42, zzP]
theorem zzP_ok {p : Pk} (h : PkZ p) : PkZ (zzP p) := ⟨h.dl, h.dls, h.rl, h.rls, h.cl, h.vl, h.fl, h.sl⟩
theorem setCell_blk (L o : Nat) (v : Value) (W : World) (D : Nat) (hD : L < D) (j : Nat) : (W.setCell ⟨L, o, none⟩ v).cell? ⟨D, j, none⟩ = W.cell? ⟨D, j, none⟩ :=
  World.cell?_setCell_other _ _ _ _ (blk_ne (by omega))
theorem PRow.name {base : Nat} {W : World} {L n i : Nat} {ps : List Pk} {p : Pk} (h : PRow base W L ps n) (hi : i < n) (hn : n ≤ ps.length) (hp : ps[i]? = some p) : PRow base (W.setCell ⟨L, i * 43, none⟩ (.string ⟨#[122, 122]⟩)) L (ps.set i (zzP p)) n := by
  have keep : ∀ q cs Md Mr C S F, LPk W L q cs Md Mr C S F → LPk (W.setCell ⟨L, i * 43, none⟩ (.string ⟨#[122, 122]⟩)) L q cs Md Mr C S F := fun q cs Md Mr C S F hk =>
    hk.of (fun D hD _ => setCell_blk L _ _ W D hD) (fun D _ _ j => World.frozen?_setCell _ _ _ _) (by simp) (fun D hD => setCell_blk L _ _ W D hD) (fun D _ j => World.frozen?_setCell _ _ _ _)
  obtain ⟨z, hz⟩ := Option.isSome_iff_exists.1 (h.spot (i * 43) (by omega))
  refine ⟨fun k q hk hq => ?_, fun j hj => ?_, fun j => ?_, by simpa using h.lt, h.lo⟩
  · by_cases e : i = k
    · subst e
      rw [List.getElem?_set_self (by omega)] at hq
      cases hq
      obtain ⟨cs, Md, Mr, C, S, F, h1, h2⟩ := h.row i p hk hp
      have h3 := keep p cs Md Mr C S F h2
      refine ⟨cs.set 0 (.string ⟨#[122, 122]⟩), Md, Mr, C, S, F, fun j v hv => ?_, ⟨h3.pc.name, h3.dl, h3.rl, h3.cl, h3.hC, h3.sl, h3.hS, h3.fl, h3.hF, h3.ff⟩⟩
      by_cases ej : j = 0
      · subst ej
        rw [List.getElem?_set_self (by rw [h2.pc.len]; omega)] at hv
        cases hv
        exact World.cell?_setCell_same _ _ _ hz
      · rw [List.getElem?_set_ne (Ne.symm ej)] at hv
        rw [World.cell?_setCell_other _ _ _ _ (off_ne (by omega))]
        exact h1 j v hv
    · rw [List.getElem?_set_ne e] at hq
      obtain ⟨cs, Md, Mr, C, S, F, h1, h2⟩ := h.row k q hk hq
      refine ⟨cs, Md, Mr, C, S, F, fun j v hv => ?_, keep q cs Md Mr C S F h2⟩
      have hj := (List.getElem?_eq_some_iff.1 hv).1
      rw [h2.pc.len] at hj
      rw [World.cell?_setCell_other _ _ _ _ (off_ne (by omega))]
      exact h1 j v hv
  · rw [List.length_set] at hj
    by_cases e : j = i * 43
    · subst e; rw [World.cell?_setCell_same _ _ _ hz]; rfl
    · rw [World.cell?_setCell_other _ _ _ _ (off_ne (Ne.symm e))]; exact h.spot j hj
  · rw [World.frozen?_setCell]; exact h.fr j
/-- THE ROW READS AS PACKAGES, WHATEVER STANDS BEHIND IT. -/
theorem PRow.pkl {base : Nat} {W : World} {L : Nat} {ps : List Pk} (h : PRow base W L ps ps.length) (hz : ∀ p ∈ ps, PkZ p) : Pkl W (.slice (some ⟨L, 0, none⟩) ps.length (ps.length + 1)) ps := by
  refine ⟨_, _, rfl, fun _ => ⟨L, 0, rfl, h.lt, fun i p hp => ?_⟩⟩
  obtain ⟨cs, Md, Mr, C, S, F, h1, h2⟩ := h.row i p (List.getElem?_eq_some_iff.1 hp).1 hp
  rw [Nat.zero_add]
  exact ⟨cs, _, _, _, _, _, h1, h2.pc, h2.lists (hz p (List.mem_of_getElem? hp))⟩
/-- THE TWO ANSWERS, OF THE SAME PACKAGES. -/
theorem met_two {w : World} {v : Value} {ps : List Pk} (who : Int) (pre : Bool) (al : List At) (u : Value) (h : Pkl w v ps) (hv : ∀ p ∈ ps, p.vr.size ≤ maxLen) (hl : ps.length ≤ 4611686018427387904) (hsz : ∀ i (h : i < al.length), al[i].v.size ≤ maxLen) (ha : Ats w u al) :
    ∃ xs : List Pd, xs.length = ps.length ∧ (∀ (i : Nat) (x : Pd) (p : Pk), xs[i]? = some x → ps[i]? = some p → x.nm = p.nm ∧ x.vr = p.vr ∧ x.pl = p.pv) ∧
      (∀ X, Below w.heap.size w X → Calls Tryd.prog 6 #[v, .int .i64 who, u, .bool pre] X fun e w' => e = .returned (.bool (metA xs who pre al)) ∧ Below X.heap.size X w') ∧
      (∀ X, Below w.heap.size w X → Calls Tryd.prog 7 #[v, .int .i64 who, u, .bool pre] X fun e w' => e = .returned (.bool (metA xs who pre al)) ∧ Below X.heap.size X w') := by
  obtain ⟨xs, hx, hlen, hs⟩ := pks_of h hv
  have later : ∀ X, Below w.heap.size w X → Pks X v xs := fun X hb => by
    obtain ⟨a, c, e, h2⟩ := hx
    refine ⟨a, c, e, fun h0 => ?_⟩
    obtain ⟨b, o, h3, h4, h5⟩ := h2 h0
    exact ⟨b, o, h3, Nat.lt_of_lt_of_le h4 hb.size, fun i x hi => ⟨rangeAt_later (h5 i x hi).1 h4 hb, (h5 i x hi).2.later hb⟩⟩
  exact ⟨xs, hlen, hs, fun X hb => Met_any xs who pre al v u X (by omega) hsz (later X hb) (ha.later hb), fun X hb => rMet_any xs who pre al v u X (by omega) hsz (later X hb) (ha.later hb)⟩
end Go.Proofs.YtmckmeoondlcpaaDoor
