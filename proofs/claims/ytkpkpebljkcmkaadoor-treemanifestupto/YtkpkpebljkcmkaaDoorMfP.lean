import Derived.Test.YtkpkpebljkcmkaaDoorMfO
import Derived.Deep.RegionWith
import Derived.OwnWalk
import Derived.Laws.IdiomCopy
import Derived.Laws.MakeOwn
namespace Go.Proofs.YtkpkpebljkcmkaaDoor
open Go.RowKit

theorem run_copy_many {P : Program} (w : World) (dT sT ty elem : TypeId) (k b o dLen dCap : Nat) (a : Addr) (sLen sCap : Nat) (cs : List Value)
    (hu : P.underlying dT = some (.slice elem)) (hs : (P.info? elem).map (·.size) = some k) (hn : cs.length = Nat.min sLen dLen * k)
    (hsrc : ∀ j v, cs[j]? = some v → w.cell? (a.add j) = some v) (hc : ∀ j, j < cs.length → (w.cell? ⟨b, o + j, none⟩).isSome = true) (hf : ∀ j, j < cs.length → w.frozen? ⟨b, o + j, none⟩ = false) (h1 : ∀ v ∈ cs, v.oneCell' = true) :
    (Builtin.copy_ #[dT, sT] ty #[.slice (some ⟨b, o, none⟩) dLen dCap, .slice (some a) sLen sCap]).run P w = .ok (goInt (Nat.min sLen dLen)) (w.setCells b o cs) := by
  have hl := run_loadCells_list (P := P) w a cs hsrc
  have hst := run_storeCells_cells (P := P) b o cs 0 w (by simpa using hc) (by simpa using hf) h1
  cases hq : P.info? elem with
  | none => simp [hq] at hs
  | some i =>
    have hi : i.size = k := by simpa [hq] using hs
    simp [Builtin.copy_, run_underlying hu, Builtin.lenOf, Builtin.firstCells, sizeOf, typeInfo, hq, hi, ← hn, hl, hst]

theorem run_copy_nothing {P : Program} (w : World) (dT sT ty elem : TypeId) (d a : Option Addr) (k dLen dCap sCap : Nat) (hu : P.underlying dT = some (.slice elem)) (hs : (P.info? elem).map (·.size) = some k) :
    (Builtin.copy_ #[dT, sT] ty #[.slice d dLen dCap, .slice a 0 sCap]).run P w = .ok (goInt 0) w := by
  cases hq : P.info? elem with
  | none => simp [hq] at hs
  | some i =>
    have hl : ∀ (x : Addr), (loadCells x 0).run P w = .ok #[] w := fun x => by simpa using run_loadCells_list (P := P) w x [] (by simp)
    cases d <;> cases a <;> simp [Builtin.copy_, run_underlying hu, Builtin.lenOf, Builtin.firstCells, sizeOf, typeInfo, hq, storeCells, hl]
theorem made_some (z : Array Value) (n j : Nat) (h : j < n) : ((madeCells z n)[j]?).isSome = true := by
  rw [Array.getElem?_eq_getElem (by rw [size_madeCells]; exact h)]; rfl

/-- A NEW BLOCK OF n CELLS, THE FIRST OF THEM WRITTEN. -/
structure Blk (W : World) (B : Nat) (cs : List Value) (n : Nat) : Prop where
  elem : ∀ j v, cs[j]? = some v → W.cell? ⟨B, j, none⟩ = some v
  spot : ∀ j, j < n → (W.cell? ⟨B, j, none⟩).isSome = true
  fr : ∀ j, W.frozen? ⟨B, j, none⟩ = false
  lt : B < W.heap.size
theorem Blk.of {W W' : World} {B n : Nat} {cs : List Value} (h : Blk W B cs n) (hc : ∀ j, W'.cell? ⟨B, j, none⟩ = W.cell? ⟨B, j, none⟩) (hf : ∀ j, W'.frozen? ⟨B, j, none⟩ = W.frozen? ⟨B, j, none⟩) (hl : W.heap.size ≤ W'.heap.size) : Blk W' B cs n :=
  ⟨fun j v hv => (hc j).trans (h.elem j v hv), fun j hj => by rw [hc]; exact h.spot j hj, fun j => (hf j).trans (h.fr j), Nat.lt_of_lt_of_le h.lt hl⟩
theorem Blk.later {W W' : World} {B n : Nat} {cs : List Value} (h : Blk W B cs n) (hb : Below W.heap.size W W') : Blk W' B cs n :=
  h.of (fun j => hb.cell (p := ⟨B, j, none⟩) h.lt) (fun j => hb.frozen (p := ⟨B, j, none⟩) h.lt) hb.size
theorem blk_of (w : World) (z : Array Value) (n : Nat) (t : TypeId) (cs : List Value) (hn : cs.length ≤ n) : Blk ((w.alloc (.cells (madeCells z n) t)).setCells w.heap.size 0 cs) w.heap.size cs n := by
  have hc : ∀ j, j < n → ((w.alloc (.cells (madeCells z n) t)).cell? ⟨w.heap.size, j, none⟩).isSome = true := fun j hj => by
    rw [World.cell?_alloc_at _ _ _ _ rfl]
    exact made_some _ _ _ hj
  refine ⟨fun j v hv => ?_, fun j hj => ?_, fun j => ?_, ?_⟩
  · have hj := (List.getElem?_eq_some_iff.1 hv).1
    have hin := World.cell?_setCells_in w.heap.size cs 0 _ (fun j hj => by rw [Nat.zero_add]; exact hc j (by omega)) j hj
    rw [Nat.zero_add] at hin
    rw [hin]
    exact (List.getElem?_eq_some_iff.1 hv).2 ▸ rfl
  · exact World.isSome_setCells _ _ _ _ _ (hc j hj)
  · rw [World.frozen?_setCells, World.frozen?_alloc_at _ _ _ _ rfl]
  · rw [size_setCells]; simp
/-- CELLS WRITTEN BEHIND. -/
theorem Blk.put {W : World} {B n : Nat} {cs : List Value} (h : Blk W B cs n) (o : Nat) (vs : List Value) (ho : cs.length ≤ o) : Blk (W.setCells B o vs) B cs n := by
  refine ⟨fun j v hv => ?_, fun j hj => World.isSome_setCells _ _ _ _ _ (h.spot j hj), fun j => ?_, by rw [size_setCells]; exact h.lt⟩
  · have hj := (List.getElem?_eq_some_iff.1 hv).1
    rw [World.cell?_setCells_out _ _ _ _ _ (fun _ _ => Or.inl (by show j < o; omega))]
    exact h.elem j v hv
  · rw [World.frozen?_setCells]; exact h.fr j

def mark : Nm := ⟨#[77, 65, 82, 75]⟩
theorem infoFz : ∃ zc : List Value, (Tryd.prog.info? 40).map (fun i => (i.zero, i.size, i.bytes)) = some (some (.agg zc.toArray), 34, 56) ∧ zc.length = 34 ∧ zc.all (·.oneCell') = true :=
  ⟨((((Tryd.prog.info? 40).bind (·.zero)).map fun z => z.cells.toList).getD []), by kernel_rfl, by kernel_rfl, by kernel_rfl⟩
theorem infoKz : ∃ (zc : List Value) (b : Nat), (Tryd.prog.info? 49).map (fun i => (i.zero, i.size, i.bytes)) = some (some (.agg zc.toArray), 43, b) ∧ zc.length = 43 ∧ zc.all (·.oneCell') = true ∧ b ≤ 1000 :=
  ⟨((((Tryd.prog.info? 49).bind (·.zero)).map fun z => z.cells.toList).getD []), Tryd.prog.bytesOf 49, by kernel_rfl, by kernel_rfl, by kernel_rfl, by decide +kernel⟩
theorem make_any {t e k by_ : Nat} {zc : List Value} (hu : Tryd.prog.underlying t = some (.slice e)) (hz : (Tryd.prog.info? e).map (fun i => (i.zero, i.size, i.bytes)) = some (some (.agg zc.toArray), k, by_)) (hb : by_ ≤ 1000) {n : Nat} (hn : n ≤ 1048576) (u : World) : (Instr.makeSlice t (.int .i64 ((n : Int) + 1)) (.int .i64 ((n : Int) + 1))).run Tryd.prog u =
    .ok (.slice (some ⟨u.heap.size, 0, none⟩) (n + 1) (n + 1)) (u.alloc (.cells (madeCells zc.toArray ((n + 1) * k)) e)) := by
  obtain ⟨i0, hi, hz0, hz1, hz2⟩ := info_parts2 hz
  have hm : (n + 1) * by_ ≤ 1048577 * 1000 := Nat.mul_le_mul (by omega) hb
  have e1 : ((n : Int) + 1).toNat = n + 1 := by omega
  have e2 : (((n + 1) * by_ : Nat) : Int) = (by_ : Int) * ((n : Int) + 1) := by rw [Nat.mul_comm, Int.natCast_mul]; rfl
  have h := run_make (P := Tryd.prog) u t e i0 (.agg zc.toArray) hu hi hz0 .i64 .i64 ((n : Int) + 1) ((n : Int) + 1) (by omega) (Int.le_refl _) (by rw [hz2]; omega) (by omega)
  rw [e1] at h
  simpa [hz1, Value.cells] using h
theorem copy_rows {t e k : Nat} (hu : Tryd.prog.underlying t = some (.slice e)) (hi : (Tryd.prog.info? e).map (·.size) = some k) (fs : List (List Value)) (x : Value) (ty : TypeId) (C c : Nat) (u : World) (h : Rws e k u x fs) (hs : ∀ j, j < fs.length * k → (u.cell? ⟨C, j, none⟩).isSome = true) (hf : ∀ j, u.frozen? ⟨C, j, none⟩ = false) :
    ∃ v', (Builtin.copy_ #[t, t] ty #[.slice (some ⟨C, 0, none⟩) (fs.length + 1) c, x]).run Tryd.prog u = .ok v' (u.setCells C 0 fs.flatten) := by
  obtain ⟨a, xc, rfl⟩ := h.form
  have hlen := flat_len h.ok
  rcases h.src with h0 | ⟨b, o, rfl, hbl, hc⟩
  · have e0 : fs = [] := List.length_eq_zero_iff.1 h0
    subst e0
    exact ⟨goInt 0, run_copy_nothing (P := Tryd.prog) u t t ty e (some ⟨C, 0, none⟩) a k _ c xc hu hi⟩
  · refine ⟨_, run_copy_many (P := Tryd.prog) u t t ty e k C 0 _ c ⟨b, o, none⟩ _ xc fs.flatten hu hi ?_ ?_ ?_ ?_ (flat_one h.ok)⟩
    · have e0 : Nat.min fs.length (fs.length + 1) = fs.length := Nat.min_eq_left (Nat.le_succ _)
      rw [hlen, e0]
    · intro j v hj
      rw [Addr.add_mid]
      exact hc j v hj
    · intro j hj
      rw [Nat.zero_add]
      exact hs j (by rw [hlen] at hj; exact hj)
    · intro j _
      exact hf _
/-- FILES IN A BLOCK OF THEIR OWN, THE MARK BEHIND THEM. -/
structure Fb (W : World) (B : Nat) (fs : List (List Value)) : Prop where
  ok : ∀ r ∈ fs, isT 40 34 r
  blk : Blk W B (fs.flatten ++ [.string mark]) ((fs.length + 1) * 34)
theorem Fb.later {W W2 : World} {B : Nat} {fs : List (List Value)} (h : Fb W B fs) (hb : Below W.heap.size W W2) : Fb W2 B fs := ⟨h.ok, h.blk.later hb⟩
theorem Fb.rws {W : World} {B : Nat} {fs : List (List Value)} (h : Fb W B fs) (c : Nat) : Rws 40 34 W (.slice (some ⟨B, 0, none⟩) fs.length c) fs :=
  ⟨_, c, rfl, h.ok, fun _ => ⟨B, 0, rfl, h.blk.lt, fun i r hi j u hj => by
    rw [Nat.zero_add]
    refine h.blk.elem _ _ ?_
    have hq := flat_at (fun r hr => (h.ok r hr).1) hi hj
    rw [List.getElem?_append_left (List.getElem?_eq_some_iff.1 hq).1]
    exact hq⟩⟩
theorem Fb.mark {W : World} {B : Nat} {fs : List (List Value)} (h : Fb W B fs) : W.cell? ⟨B, fs.length * 34, none⟩ = some (.string mark) := by
  refine h.blk.elem _ _ ?_
  rw [List.getElem?_append_right (by rw [flat_len h.ok]; exact Nat.le_refl _), flat_len h.ok, Nat.sub_self]
  rfl
theorem Fb.made {W : World} {B : Nat} {fs : List (List Value)} (ok : ∀ r ∈ fs, isT 40 34 r) (h : Blk W B fs.flatten ((fs.length + 1) * 34)) : Fb (W.setCells B (fs.length * 34) (mkF Go.Proofs.YtkpkpebljkcmkaaDoor.mark)) B fs := by
  have hl := flat_len ok
  have hp := h.put (fs.length * 34) (mkF Go.Proofs.YtkpkpebljkcmkaaDoor.mark) (by omega)
  refine ⟨ok, ⟨fun j v hv => ?_, hp.spot, hp.fr, hp.lt⟩⟩
  by_cases e : j < fs.flatten.length
  · rw [List.getElem?_append_left e] at hv
    exact hp.elem j v hv
  · rw [List.getElem?_append_right (by omega)] at hv
    have hj := (List.getElem?_eq_some_iff.1 hv).1
    rw [List.length_singleton] at hj
    obtain rfl : j = fs.length * 34 := by omega
    rw [hl, Nat.sub_self] at hv
    have := World.rangeAt_setCells_same W B (fs.length * 34) (mkF Go.Proofs.YtkpkpebljkcmkaaDoor.mark) (by rw [mkF_len]; exact fun j hj => ⟨h.spot _ (by omega), h.fr _⟩) 0 _ rfl
    rw [Nat.add_zero] at this
    rw [this]
    exact hv
set_option maxRecDepth 100000 in
set_option maxHeartbeats 4000000 in
theorem lentFiles_any {w : World} {v : Value} {fs : List (List Value)} (hl : fs.length ≤ 1048576) (h : Rws 40 34 w v fs) :
    Calls Tryd.prog 14 #[v] w fun e w' => e = .returned (.slice (some ⟨w.heap.size, 0, none⟩) fs.length (fs.length + 1)) ∧ Fb w' w.heap.size fs ∧ Below w.heap.size w w' := by
  obtain ⟨a, c, rfl⟩ := h.form
  obtain ⟨zc, hz, hzl, _⟩ := infoFz
  have mk := make_any Tryd.underlying24 hz (by decide) hl w
  have hb := (Below.refl w.heap.size w).alloc (Nat.le_refl _) (.cells (madeCells zc.toArray ((fs.length + 1) * 34)) 40)
  obtain ⟨v', hcp⟩ := copy_rows Tryd.underlying24 infoF fs (.slice a fs.length c) 3 w.heap.size (fs.length + 1) (w.alloc (.cells (madeCells zc.toArray ((fs.length + 1) * 34)) 40)) (h.later hb) (fun j hj => by rw [World.cell?_alloc_at _ _ _ _ rfl]; exact made_some _ _ _ (by omega)) (fun j => by rw [World.frozen?_alloc_at _ _ _ _ rfl])
  have hk := blk_of w zc.toArray ((fs.length + 1) * 34) 40 fs.flatten (by rw [flat_len h.ok]; omega)
  have hb2 := below_setCells w.heap.size (Nat.le_refl _) fs.flatten 0 _ hb
  have HT := hide (show World.there ((w.alloc (.cells (madeCells zc.toArray ((fs.length + 1) * 34)) 40)).setCells w.heap.size 0 fs.flatten) w.heap.size (fs.length * 34) 34 from fun j hj => ⟨hk.spot _ (by omega), hk.fr _⟩)
  have HM := hide (And.intro (Fb.made h.ok hk) (below_setCells w.heap.size (Nat.le_refl _) (mkF mark) (fs.length * 34) _ hb2))
  have HBF := hide (builtF mark)
  have hone := hide (isT_mk (p := mark) (by decide)).2.2
  clear hk hb2 hb h
  obtain ⟨W3, hW3⟩ : ∃ W3, W3 = (w.alloc (.cells (madeCells zc.toArray ((fs.length + 1) * 34)) 40)).setCells w.heap.size 0 fs.flatten := ⟨_, rfl⟩
  rw [← hW3] at hcp HT HM
  clear hW3
  obtain ⟨N, hN⟩ : ∃ N, fs.length = N := ⟨_, rfl⟩
  rw [hN] at mk hcp hl HT HM ⊢
  clear hN
  go_enter Tryd.func14, Tryd.ntmps14
  go_wp2_with (first
    | ((with_reducible refine g_build _ rfl rfl (mkF mark) ?hb ?_); (case hb => exact unhide HBF))
    | ((with_reducible refine m_store (t := 40) (k := 34) infoF _ _ rfl rfl w.heap.size (N * 34) rfl _ rfl ?se ?sf (unhide HT) ?_); (case se => rfl); (case sf => exact List.all_eq_true.1 rfl)))
  go_ret
  exact ⟨rfl, (unhide HM).1, (unhide HM).2⟩
end Go.Proofs.YtkpkpebljkcmkaaDoor
