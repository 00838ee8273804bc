import Derived.Test.YtdkpglmdncjnbaaGreatDoorZf15
import Derived.Laws.IdiomCopy
import Derived.Laws.MakeOwn
import Derived.Lib.SlBuf
namespace Go.Proofs.YtdkpglmdncjnbaaGreatDoor
section
open Go.RowKit
theorem info34 : (Tryz.prog.info? 48).map (fun i => (i.zero, i.size, i.bytes)) = some (some (.agg #[.string ⟨#[]⟩, .int .i64 0, .string ⟨#[]⟩]), 3, 40) := by kernel_rfl
theorem info52 : (Tryz.prog.info? 49).map (fun i => (i.zero, i.size, i.bytes)) = some (some (.slice none 0 0), 1, 24) := by kernel_rfl
theorem run_copy_many {P : Program} (w : World) (dT sT ty elem : TypeId) (k b o dLen dCap : Nat) (a : Addr) (sLen sCap : Nat) (cs : List Value)
 (hu : P.underlying dT = some (.slice elem)) (hs : (P.info? elem).map (·.size) = some k) (hn : cs.length = Nat.min sLen dLen * k)
 (hsrc : ∀ j v, cs[j]? = some v → w.cell? (a.add j) = some v) (hc : ∀ j, j < cs.length → (w.cell? ⟨b, o + j, none⟩).isSome = true) (hf : ∀ j, j < cs.length → w.frozen? ⟨b, o + j, none⟩ = false) (h1 : ∀ v ∈ cs, v.oneCell' = true) :
 (Builtin.copy_ #[dT, sT] ty #[.slice (some ⟨b, o, none⟩) dLen dCap, .slice (some a) sLen sCap]).run P w = .ok (goInt (Nat.min sLen dLen)) (w.setCells b o cs) := by
 have hl := run_loadCells_list (P := P) w a cs hsrc
 have hst := run_storeCells_cells (P := P) b o cs 0 w (by simpa using hc) (by simpa using hf) h1
 cases hq : P.info? elem with
 | none => simp [hq] at hs
 | some i =>
   have hi : i.size = k := by simpa [hq] using hs
   simp [Builtin.copy_, run_underlying hu, Builtin.lenOf, Builtin.firstCells, sizeOf, typeInfo, hq, hi, ← hn, hl, hst]
def flat : List At → List Value
 | [] => []
 | a :: l => .string a.n :: .int .i64 a.op :: .string a.v :: flat l
theorem flat_len : ∀ l : List At, (flat l).length = l.length * 3
 | [] => rfl
 | a :: l => by simp only [flat, List.length_cons, flat_len l]; omega
theorem flat_at : ∀ (l : List At) (i : Nat) (h : i < l.length), (flat l)[i * 3]? = some (.string l[i].n) ∧ (flat l)[i * 3 + 1]? = some (.int .i64 l[i].op) ∧ (flat l)[i * 3 + 2]? = some (.string l[i].v)
 | a :: l, 0, _ => ⟨rfl, rfl, rfl⟩
 | a :: l, i + 1, h => by
   have := flat_at l i (by simpa using h)
   rw [show (i + 1) * 3 = i * 3 + 3 by omega]
   simpa [flat] using this
theorem flat_one : ∀ (l : List At), ∀ v ∈ flat l, v.oneCell' = true
 | [], v, h => by cases h
 | a :: l, v, h => by
   simp only [flat, List.mem_cons] at h
   rcases h with rfl | rfl | rfl | h
   ·rfl
   ·rfl
   ·rfl
   ·exact flat_one l v h
theorem flat_of (l : List At) (f : Nat → Option Value) (h : ∀ i (h : i < l.length), f (i * 3) = some (.string l[i].n) ∧ f (i * 3 + 1) = some (.int .i64 l[i].op) ∧ f (i * 3 + 2) = some (.string l[i].v)) :
 ∀ (j : Nat) (v : Value), (flat l)[j]? = some v → f j = some v := by
 intro j v hj
 have hl : j < l.length * 3 := by rw [← flat_len]; exact (List.getElem?_eq_some_iff.1 hj).1
 have hi : j / 3 < l.length := by omega
 obtain ⟨h0, h1, h2⟩ := h (j / 3) hi
 obtain ⟨e0, e1, e2⟩ := flat_at l (j / 3) hi
 have : j = j / 3 * 3 ∨ j = j / 3 * 3 + 1 ∨ j = j / 3 * 3 + 2 := by omega
 rcases this with e | e | e
 ·rw [e] at hj ⊢; rw [e0] at hj; rw [h0]; exact hj
 ·rw [e] at hj ⊢; rw [e1] at hj; rw [h1]; exact hj
 ·rw [e] at hj ⊢; rw [e2] at hj; rw [h2]; exact hj
theorem make52 (n : Nat) (hn : n ≤ 3518437208883) (u : World) : (Instr.makeSlice 49 (.int .i64 ((n : Int) + 1)) (.int .i64 ((n : Int) + 1))).run Tryz.prog u =
 .ok (.slice (some ⟨u.heap.size, 0, none⟩) (n + 1) (n + 1)) (u.alloc (.cells (madeCells #[.string ⟨#[]⟩, .int .i64 0, .string ⟨#[]⟩] ((n + 1) * 3)) 48)) := by
 obtain ⟨i0, hi, hz0, hz1, hz2⟩ := info_parts info34
 have h := run_make (P := Tryz.prog) u 49 48 i0 (.agg #[.string ⟨#[]⟩, .int .i64 0, .string ⟨#[]⟩]) Tryz.underlying49 hi hz0 .i64 .i64 ((n : Int) + 1) ((n : Int) + 1) (by omega) (Int.le_refl _) (by rw [hz2]; omega) (by omega)
 have e : ((n : Int) + 1).toNat = n + 1 := by omega
 rw [e] at h
 simpa [hz1, Value.cells] using h
theorem makeRow (n : Nat) (hn : n ≤ 3518437208883) (u : World) : (Instr.makeSlice 40 (.int .i64 ((n : Int) + 1)) (.int .i64 ((n : Int) + 1))).run Tryz.prog u =
 .ok (.slice (some ⟨u.heap.size, 0, none⟩) (n + 1) (n + 1)) (u.alloc (.cells (madeCells #[.slice none 0 0] (n + 1)) 49)) := by
 obtain ⟨i0, hi, hz0, hz1, hz2⟩ := info_parts info52
 have h := run_make (P := Tryz.prog) u 40 49 i0 (.slice none 0 0) Tryz.underlying40 hi hz0 .i64 .i64 ((n : Int) + 1) ((n : Int) + 1) (by omega) (Int.le_refl _) (by rw [hz2]; omega) (by omega)
 have e : ((n : Int) + 1).toNat = n + 1 := by omega
 rw [e] at h
 simpa [hz1, Value.cells] using h
theorem run_copy_nothing {P : Program} (w : World) (dT sT ty elem : TypeId) (d a : Option Addr) (k dLen dCap sCap : Nat) (hu : P.underlying dT = some (.slice elem)) (hs : (P.info? elem).map (·.size) = some k) :
 (Builtin.copy_ #[dT, sT] ty #[.slice d dLen dCap, .slice a 0 sCap]).run P w = .ok (goInt 0) w := by
 cases hq : P.info? elem with
 | none => simp [hq] at hs
 | some i =>
   have hl : ∀ (x : Addr), (loadCells x 0).run P w = .ok #[] w := fun x => by simpa using run_loadCells_list (P := P) w x [] (by simp)
   cases d <;> cases a <;> simp [Builtin.copy_, run_underlying hu, Builtin.lenOf, Builtin.firstCells, sizeOf, typeInfo, hq, storeCells, hl]
theorem copy_clause (al : List At) (x : Value) (ty : TypeId) (C c : Nat) (u : World) (h : Ats u x al) (hs : ∀ j, j < al.length * 3 → (u.cell? ⟨C, j, none⟩).isSome = true) (hf : ∀ j, u.frozen? ⟨C, j, none⟩ = false) :
 ∃ v', (Builtin.copy_ #[49, 49] ty #[.slice (some ⟨C, 0, none⟩) (al.length + 1) c, x]).run Tryz.prog u = .ok v' (u.setCells C 0 (flat al)) := by
 obtain ⟨a, xc, rfl, hb, hc⟩ := h
 have hsz : (Tryz.prog.info? 48).map (·.size) = some 3 := by kernel_rfl
 cases al with
 | nil =>
   refine ⟨goInt 0, ?_⟩
   exact run_copy_nothing (P := Tryz.prog) u 49 49 ty 48 (some ⟨C, 0, none⟩) a 3 _ c xc Tryz.underlying49 hsz
 | cons y l =>
   obtain ⟨b, o, rfl, -, -⟩ := hc 0 (by simp)
   refine ⟨_, run_copy_many (P := Tryz.prog) u 49 49 ty 48 3 C 0 _ c ⟨b, o, none⟩ _ xc (flat (y :: l)) Tryz.underlying49 hsz ?_ ?_ ?_ ?_ (flat_one _)⟩
   ·have e : Nat.min (y :: l).length ((y :: l).length + 1) = (y :: l).length := Nat.min_eq_left (Nat.le_succ _)
    rw [flat_len, e]
   ·intro j v hj
    rw [Addr.add_mid]
    refine flat_of (y :: l) (fun j => u.cell? ⟨b, o + j, none⟩) (fun i hi => ?_) j v hj
    obtain ⟨b', o', e, -, e0, e1, e2⟩ := hc i hi
    cases e
    exact ⟨e0, by rw [← Nat.add_assoc]; exact e1, by rw [← Nat.add_assoc]; exact e2⟩
   ·intro j hj
    rw [Nat.zero_add]
    exact hs j (by rw [flat_len] at hj; exact hj)
   ·intro j _
    exact hf _
theorem size_setCells (b : Nat) : ∀ (vs : List Value) (o : Nat) (u : World), (u.setCells b o vs).heap.size = u.heap.size
 | [], _, _ => rfl
 | v :: r, o, u => by rw [World.setCells, size_setCells b r]; simp
theorem below_setCells {w : World} {base : Nat} (b : Nat) (hb : base ≤ b) : ∀ (vs : List Value) (o : Nat) (u : World), Below base w u → Below base w (u.setCells b o vs)
 | [], _, _, h => h
 | v :: r, o, u, h => by
   rw [World.setCells]
   exact below_setCells b hb r (o + 1) _ (h.setCell (p := ⟨b, o, none⟩) hb v)
theorem made_some (z : Array Value) (n j : Nat) (h : j < n) : ((madeCells z n)[j]?).isSome = true := by
 rw [Array.getElem?_eq_getElem (by rw [size_madeCells]; exact h)]; rfl
theorem off_ne {b i j : Nat} (h : i ≠ j) : (⟨b, i, none⟩ : Addr) ≠ ⟨b, j, none⟩ := fun e => h (by injection e)
theorem blk_ne {b c i j : Nat} (h : b ≠ c) : (⟨b, i, none⟩ : Addr) ≠ ⟨c, j, none⟩ := fun e => h (by injection e)
theorem mark_any (w : World) :
 Calls Tryz.prog 31 #[] w fun e w' => e = .returned (.agg #[.string ⟨#[77, 65, 82, 75]⟩, .int .i64 99, .string ⟨#[]⟩]) ∧ Below w.heap.size w w' := by
 go_enter Tryz.func31, Tryz.ntmps31
 go_wp2
 exact bodyPost_ret (v := .agg #[.string ⟨#[77, 65, 82, 75]⟩, .int .i64 99, .string ⟨#[]⟩]) (by simp [results, Tryz.results31, go_sem]) rfl ⟨rfl, (Below.refl _ _).alloc (Nat.le_refl _) _⟩
structure Mk0 (W : World) (C : Nat) (al : List At) : Prop where
 elem : ∀ i (h : i < al.length), W.cell? ⟨C, i * 3, none⟩ = some (.string al[i].n) ∧ W.cell? ⟨C, i * 3 + 1, none⟩ = some (.int .i64 al[i].op) ∧ W.cell? ⟨C, i * 3 + 2, none⟩ = some (.string al[i].v)
 last : ∀ j, j < 3 → (W.cell? ⟨C, al.length * 3 + j, none⟩).isSome = true
 fr : ∀ j, W.frozen? ⟨C, j, none⟩ = false
 lt : C < W.heap.size
structure Mk1 (W : World) (C : Nat) (al : List At) : Prop where
 elem : ∀ i (h : i < al.length), W.cell? ⟨C, i * 3, none⟩ = some (.string al[i].n) ∧ W.cell? ⟨C, i * 3 + 1, none⟩ = some (.int .i64 al[i].op) ∧ W.cell? ⟨C, i * 3 + 2, none⟩ = some (.string al[i].v)
 l0 : W.cell? ⟨C, al.length * 3, none⟩ = some (.string ⟨#[77, 65, 82, 75]⟩)
 l1 : W.cell? ⟨C, al.length * 3 + 1, none⟩ = some (.int .i64 99)
 l2 : W.cell? ⟨C, al.length * 3 + 2, none⟩ = some (.string ⟨#[]⟩)
 fr : ∀ j, W.frozen? ⟨C, j, none⟩ = false
 lt : C < W.heap.size
theorem Mk0.of {W W' : World} {C : Nat} {al : List At} (h : Mk0 W C al) (hc : ∀ j, W'.cell? ⟨C, j, none⟩ = W.cell? ⟨C, j, none⟩) (hf : ∀ j, W'.frozen? ⟨C, j, none⟩ = W.frozen? ⟨C, j, none⟩) (hl : W.heap.size ≤ W'.heap.size) : Mk0 W' C al :=
 ⟨fun i hi => ⟨(hc _).trans (h.elem i hi).1, (hc _).trans (h.elem i hi).2.1, (hc _).trans (h.elem i hi).2.2⟩, fun j hj => by rw [hc]; exact h.last j hj, fun j => (hf j).trans (h.fr j), Nat.lt_of_lt_of_le h.lt hl⟩
theorem Mk1.of {W W' : World} {C : Nat} {al : List At} (h : Mk1 W C al) (hc : ∀ j, W'.cell? ⟨C, j, none⟩ = W.cell? ⟨C, j, none⟩) (hf : ∀ j, W'.frozen? ⟨C, j, none⟩ = W.frozen? ⟨C, j, none⟩) (hl : W.heap.size ≤ W'.heap.size) : Mk1 W' C al :=
 ⟨fun i hi => ⟨(hc _).trans (h.elem i hi).1, (hc _).trans (h.elem i hi).2.1, (hc _).trans (h.elem i hi).2.2⟩, (hc _).trans h.l0, (hc _).trans h.l1, (hc _).trans h.l2, fun j => (hf j).trans (h.fr j), Nat.lt_of_lt_of_le h.lt hl⟩
theorem Mk0.later {W W' : World} {C : Nat} {al : List At} (h : Mk0 W C al) (hb : Below W.heap.size W W') : Mk0 W' C al :=
 h.of (fun j => hb.cell (p := ⟨C, j, none⟩) h.lt) (fun j => hb.frozen (p := ⟨C, j, none⟩) h.lt) hb.size
theorem Mk1.later {W W' : World} {C : Nat} {al : List At} (h : Mk1 W C al) (hb : Below W.heap.size W W') : Mk1 W' C al :=
 h.of (fun j => hb.cell (p := ⟨C, j, none⟩) h.lt) (fun j => hb.frozen (p := ⟨C, j, none⟩) h.lt) hb.size
theorem mk0_of (w : World) (al : List At) :
 Mk0 ((w.alloc (.cells (madeCells #[.string ⟨#[]⟩, .int .i64 0, .string ⟨#[]⟩] ((al.length + 1) * 3)) 48)).setCells w.heap.size 0 (flat al)) w.heap.size al := by
 have hc : ∀ j, j < (al.length + 1) * 3 → ((w.alloc (.cells (madeCells #[.string ⟨#[]⟩, .int .i64 0, .string ⟨#[]⟩] ((al.length + 1) * 3)) 48)).cell? ⟨w.heap.size, j, none⟩).isSome = true := fun j hj => by
  rw [World.cell?_alloc_at _ _ _ _ rfl]
  exact made_some _ _ _ hj
 refine ⟨fun i hi => ?_, fun j hj => ?_, fun j => ?_, ?_⟩
 ·have hin := World.cell?_setCells_in w.heap.size (flat al) 0 _ (fun j hj => by rw [Nat.zero_add]; exact hc j (by rw [flat_len] at hj; omega))
  obtain ⟨e0, e1, e2⟩ := flat_at al i hi
  have k0 := hin (i * 3) (by rw [flat_len]; omega)
  have k1 := hin (i * 3 + 1) (by rw [flat_len]; omega)
  have k2 := hin (i * 3 + 2) (by rw [flat_len]; omega)
  rw [Nat.zero_add] at k0 k1 k2
  rw [List.getElem?_eq_getElem (by rw [flat_len]; omega)] at e0 e1 e2
  exact ⟨k0.trans e0, k1.trans e1, k2.trans e2⟩
 ·rw [World.cell?_setCells_out _ _ _ _ _ (fun _ _ => Or.inr (by rw [flat_len]; simp))]
  exact hc _ (by omega)
 ·rw [World.frozen?_setCells, World.frozen?_alloc_at _ _ _ _ rfl]
 ·rw [size_setCells]; simp
theorem Mk0.mark {W : World} {C : Nat} {al : List At} (h : Mk0 W C al) :
 Mk1 (((W.setCell ⟨C, al.length * 3, none⟩ (.string ⟨#[77, 65, 82, 75]⟩)).setCell ⟨C, al.length * 3 + 1, none⟩ (.int .i64 99)).setCell ⟨C, al.length * 3 + 2, none⟩ (.string ⟨#[]⟩)) C al := by
 obtain ⟨z0, hz0⟩ := Option.isSome_iff_exists.1 (h.last 0 (by omega))
 obtain ⟨z1, hz1⟩ := Option.isSome_iff_exists.1 (h.last 1 (by omega))
 obtain ⟨z2, hz2⟩ := Option.isSome_iff_exists.1 (h.last 2 (by omega))
 rw [Nat.add_zero] at hz0
 have hel : ∀ j, j ≠ al.length * 3 → j ≠ al.length * 3 + 1 → j ≠ al.length * 3 + 2 → (((W.setCell ⟨C, al.length * 3, none⟩ (.string ⟨#[77, 65, 82, 75]⟩)).setCell ⟨C, al.length * 3 + 1, none⟩ (.int .i64 99)).setCell ⟨C, al.length * 3 + 2, none⟩ (.string ⟨#[]⟩)).cell? ⟨C, j, none⟩ = W.cell? ⟨C, j, none⟩ := fun j h0 h1 h2 => by
  rw [World.cell?_setCell_other _ _ _ _ (off_ne (Ne.symm h2)), World.cell?_setCell_other _ _ _ _ (off_ne (Ne.symm h1)), World.cell?_setCell_other _ _ _ _ (off_ne (Ne.symm h0))]
 refine ⟨fun i hi => ?_, ?_, ?_, ?_, fun j => ?_, ?_⟩
 ·rw [hel _ (by omega) (by omega) (by omega), hel _ (by omega) (by omega) (by omega), hel _ (by omega) (by omega) (by omega)]
  exact h.elem i hi
 ·rw [World.cell?_setCell_other _ _ _ _ (off_ne (by omega)), World.cell?_setCell_other _ _ _ _ (off_ne (by omega))]
  exact World.cell?_setCell_same _ _ _ hz0
 ·rw [World.cell?_setCell_other _ _ _ _ (off_ne (by omega))]
  exact World.cell?_setCell_same _ _ _ (by rw [World.cell?_setCell_other _ _ _ _ (off_ne (by omega))]; exact hz1)
 ·exact World.cell?_setCell_same _ _ _ (by rw [World.cell?_setCell_other _ _ _ _ (off_ne (by omega)), World.cell?_setCell_other _ _ _ _ (off_ne (by omega))]; exact hz2)
 ·rw [World.frozen?_setCell, World.frozen?_setCell, World.frozen?_setCell]; exact h.fr j
 ·simpa using h.lt
structure Row (base : Nat) (W : World) (M : Nat) (cl : List (List At)) (n : Nat) : Prop where
 row : ∀ i al, i < n → cl[i]? = some al → ∃ C, M < C ∧ W.cell? ⟨M, i, none⟩ = some (.slice (some ⟨C, 0, none⟩) al.length (al.length + 1)) ∧ Mk1 W C al
 spot : ∀ j, j ≤ cl.length → (W.cell? ⟨M, j, none⟩).isSome = true
 fr : ∀ j, W.frozen? ⟨M, j, none⟩ = false
 lt : M < W.heap.size
 lo : base ≤ M
theorem Row.later {base : Nat} {W W' : World} {M n : Nat} {cl : List (List At)} (h : Row base W M cl n) (hb : Below W.heap.size W W') : Row base W' M cl n := by
 refine ⟨fun i al hi ha => ?_, fun j hj => ?_, fun j => (hb.frozen (p := ⟨M, j, none⟩) h.lt).trans (h.fr j), Nat.lt_of_lt_of_le h.lt hb.size, h.lo⟩
 ·obtain ⟨C, h1, h2, h3⟩ := h.row i al hi ha
  exact ⟨C, h1, cell_later h2 hb, h3.later hb⟩
 ·rw [hb.cell (p := ⟨M, j, none⟩) h.lt]; exact h.spot j hj
theorem row_of (w : World) (cl : List (List At)) : Row w.heap.size (w.alloc (.cells (madeCells #[.slice none 0 0] (cl.length + 1)) 49)) w.heap.size cl 0 := by
 refine ⟨fun i al hi _ => absurd hi (Nat.not_lt_zero _), fun j hj => ?_, fun j => ?_, ?_, Nat.le_refl _⟩
 ·rw [World.cell?_alloc_at _ _ _ _ rfl]; exact made_some _ _ _ (by omega)
 ·rw [World.frozen?_alloc_at _ _ _ _ rfl]
 ·simp
theorem Row.put {base : Nat} {W : World} {M n C : Nat} {cl : List (List At)} {al : List At} (h : Row base W M cl n) (ha : cl[n]? = some al) (hC : M < C) (hm : Mk1 W C al) :
 Row base (W.setCell ⟨M, n, none⟩ (.slice (some ⟨C, 0, none⟩) al.length (al.length + 1))) M cl (n + 1) := by
 have hn : n < cl.length := (List.getElem?_eq_some_iff.1 ha).1
 obtain ⟨z, hz⟩ := Option.isSome_iff_exists.1 (h.spot n (by omega))
 have oth : ∀ D, M < D → ∀ j, (W.setCell ⟨M, n, none⟩ (.slice (some ⟨C, 0, none⟩) al.length (al.length + 1))).cell? ⟨D, j, none⟩ = W.cell? ⟨D, j, none⟩ := fun D hD j => World.cell?_setCell_other _ _ _ _ (blk_ne (by omega))
 have keep : ∀ D bl, M < D → Mk1 W D bl → Mk1 (W.setCell ⟨M, n, none⟩ (.slice (some ⟨C, 0, none⟩) al.length (al.length + 1))) D bl := fun D bl hD hb => hb.of (oth D hD) (fun j => World.frozen?_setCell _ _ _ _) (by simp)
 refine ⟨fun i bl hi hb => ?_, fun j hj => ?_, fun j => ?_, ?_, h.lo⟩
 ·by_cases e : i = n
  ·subst e
   rw [ha] at hb; cases hb
   exact ⟨C, hC, World.cell?_setCell_same _ _ _ hz, keep C al hC hm⟩
  ·obtain ⟨D, h1, h2, h3⟩ := h.row i bl (by omega) hb
   refine ⟨D, h1, ?_, keep D bl h1 h3⟩
   rw [World.cell?_setCell_other _ _ _ _ (off_ne (Ne.symm e))]; exact h2
 ·by_cases e : j = n
  ·subst e; rw [World.cell?_setCell_same _ _ _ hz]; rfl
  ·rw [World.cell?_setCell_other _ _ _ _ (off_ne (Ne.symm e))]; exact h.spot j hj
 ·rw [World.frozen?_setCell]; exact h.fr j
 ·simpa using h.lt
structure Lcl (base : Nat) (W : World) (M : Nat) (cl : List (List At)) : Prop where
 row : Row base W M cl cl.length
 last : ∃ K, M < K ∧ K < W.heap.size ∧ W.cell? ⟨M, cl.length, none⟩ = some (.slice (some ⟨K, 0, none⟩) 1 1) ∧ W.cell? ⟨K, 0, none⟩ = some (.string ⟨#[77, 65, 82, 75]⟩) ∧ W.cell? ⟨K, 1, none⟩ = some (.int .i64 99) ∧ W.cell? ⟨K, 2, none⟩ = some (.string ⟨#[]⟩)
theorem Lcl.later {base : Nat} {W W' : World} {M : Nat} {cl : List (List At)} (h : Lcl base W M cl) (hb : Below W.heap.size W W') : Lcl base W' M cl := by
 obtain ⟨K, h1, h2, h3, h4, h5, h6⟩ := h.last
 exact ⟨h.row.later hb, K, h1, Nat.lt_of_lt_of_le h2 hb.size, cell_later h3 hb, cell_later h4 hb, cell_later h5 hb, cell_later h6 hb⟩
theorem Row.done {base : Nat} {W : World} {M : Nat} {cl : List (List At)} (h : Row base W M cl cl.length) :
 Lcl base ((W.alloc (.cells #[.string ⟨#[77, 65, 82, 75]⟩, .int .i64 99, .string ⟨#[]⟩] 48)).setCell ⟨M, cl.length, none⟩ (.slice (some ⟨W.heap.size, 0, none⟩) 1 1)) M cl := by
 obtain ⟨W1, hW1, k0, k1, k2, q, B⟩ := atomNew W (.string ⟨#[77, 65, 82, 75]⟩) (.int .i64 99) (.string ⟨#[]⟩) 48
 rw [hW1]
 have h1 := h.later B
 have hlt := h.lt
 obtain ⟨z, hz⟩ := Option.isSome_iff_exists.1 (h1.spot cl.length (Nat.le_refl _))
 generalize W.heap.size = K at *
 have oth : ∀ D, M < D → ∀ j, (W1.setCell ⟨M, cl.length, none⟩ (.slice (some ⟨K, 0, none⟩) 1 1)).cell? ⟨D, j, none⟩ = W1.cell? ⟨D, j, none⟩ := fun D hD j => World.cell?_setCell_other _ _ _ _ (blk_ne (by omega))
 refine ⟨⟨fun i al hi ha => ?_, fun j hj => ?_, fun j => ?_, ?_, h.lo⟩, K, hlt, by simpa using q, World.cell?_setCell_same _ _ _ hz, (oth K hlt _).trans k0, (oth K hlt _).trans k1, (oth K hlt _).trans k2⟩
 ·obtain ⟨D, g1, g2, g3⟩ := h1.row i al hi ha
  refine ⟨D, g1, ?_, g3.of (oth D g1) (fun j => World.frozen?_setCell _ _ _ _) (by simp)⟩
  rw [World.cell?_setCell_other _ _ _ _ (off_ne (by omega))]; exact g2
 ·by_cases e : j = cl.length
  ·subst e; rw [World.cell?_setCell_same _ _ _ hz]; rfl
  ·rw [World.cell?_setCell_other _ _ _ _ (off_ne (Ne.symm e))]; exact h1.spot j hj
 ·rw [World.frozen?_setCell]; exact h1.fr j
 ·simpa using h1.lt
theorem Mk1.ats {W : World} {C : Nat} {al : List At} (h : Mk1 W C al) (hal : al.length ≤ 3074457345618258602) : Ats W (.slice (some ⟨C, 0, none⟩) al.length (al.length + 1)) al :=
 ⟨_, _, rfl, hal, fun i hi => ⟨C, 0, rfl, h.lt, by rw [Nat.zero_add]; exact (h.elem i hi).1, by rw [Nat.zero_add]; exact (h.elem i hi).2.1, by rw [Nat.zero_add]; exact (h.elem i hi).2.2⟩⟩
theorem Lcl.cls {base : Nat} {W : World} {M : Nat} {cl : List (List At)} (h : Lcl base W M cl) (hls : ∀ al ∈ cl, al.length ≤ 3074457345618258602) : Cls W (.slice (some ⟨M, 0, none⟩) cl.length (cl.length + 1)) cl := by
 refine ⟨_, _, rfl, fun _ => ⟨M, 0, rfl, h.row.lt, fun i al ha => ?_⟩⟩
 obtain ⟨C, _, h2, h3⟩ := h.row.row i al (List.getElem?_eq_some_iff.1 ha).1 ha
 rw [Nat.zero_add]
 exact ⟨_, _, h2, h3.ats (hls al (List.mem_of_getElem? ha))⟩
end
section
open Go.RowKit
theorem keepS {w w' : World} {b o : Nat} {x : Value} (g : b < w.heap.size) (k : w.cell? ⟨b, o, none⟩ = some x) (B : Below w.heap.size w w') : w'.cell? ⟨b, o, none⟩ = some x ∧ Below w.heap.size w w' :=
 ⟨(B.cell (p := ⟨b, o, none⟩) g).trans k, B⟩
set_option maxRecDepth 100000 in
set_option maxHeartbeats 4000000 in
theorem lentClauses_any (cl : List (List At)) (v : Value) (w : World) (hl : cl.length ≤ 3518437208883) (hls : ∀ al ∈ cl, al.length ≤ 3518437208883) (h1 : Cls w v cl) :
 Calls Tryz.prog 25 #[v] w fun e w' => e = .returned (.slice (some ⟨w.heap.size, 0, none⟩) cl.length (cl.length + 1)) ∧ Below w.heap.size w w' ∧ Lcl w.heap.size w' w.heap.size cl := by
 obtain ⟨va, vc, rfl, hv⟩ := h1
 have HV := hide hv
 have HLS := hide hls
 have mkR := makeRow cl.length hl
 have HR := hide (row_of w cl)
 have HB := hide ((Below.refl w.heap.size w).alloc (Nat.le_refl _) (.cells (madeCells #[.slice none 0 0] (cl.length + 1)) 49))
 clear hv hls
 obtain ⟨N, hN⟩ : ∃ N, cl.length = N := ⟨_, rfl⟩
 rw [hN] at hl mkR HR HB ⊢
 have HN := hide hN
 clear hN
 go_enter Tryz.func25, Tryz.ntmps25
 go_wp2_with fail
 obtain ⟨M, hM⟩ : ∃ M, w.heap.size = M := ⟨_, rfl⟩
 rw [hM] at HR ⊢
 generalize w.alloc (.cells (madeCells #[.slice none 0 0] (N + 1)) 49) = W0 at *
 clear mkR
 have HM := hide hM
 clear hM
 go_loopg [4, 5] N (fun gq vi _ wr => ∃ i : Nat, vi = .int .i64 i ∧ i ≤ N ∧ N - i ≤ gq ∧ Hid (Below w.heap.size w wr) ∧ Hid (Row M wr M cl i))
 case atStart => exact ⟨0, by go_num, by omega, by omega, HB, HR⟩
 case round =>
  clear HB HR
  obtain ⟨i, rfl, hi, hg, HB, HR⟩ := hrel
  by_cases hlt : i < N
  ·have hiz : (i : Int) < (N : Int) := by omega
   obtain ⟨b1, o1, rfl, g0, hc1⟩ := unhide HV (by have := unhide HN; omega)
   obtain ⟨al, hal⟩ : ∃ al, cl[i]? = some al := ⟨_, List.getElem?_eq_getElem (by have := unhide HN; omega)⟩
   obtain ⟨xa, xc, k1, A1⟩ := hc1 i al hal
   have hla := unhide HLS al (List.mem_of_getElem? hal)
   have c1 := cell_later k1 (unhide HB)
   have g1 : b1 < wr.heap.size := Nat.lt_of_lt_of_le g0 (unhide HB).size
   have HAL := hide hal
   have i0 : (0 : Int) ≤ (i : Int) := by omega
   have mk52 := make52 al.length hla
   have HBC := hide ((Below.refl wr.heap.size wr).alloc (Nat.le_refl _) (.cells (madeCells #[.string ⟨#[]⟩, .int .i64 0, .string ⟨#[]⟩] ((al.length + 1) * 3)) 48))
   have HA1 := hide (A1.later (unhide HB))
   clear hc1 k1 A1 hal g0
   have hcp0 : ∃ v', (Builtin.copy_ #[49, 49] 3 #[.slice (some ⟨wr.heap.size, 0, none⟩) (al.length + 1) (al.length + 1), .slice xa al.length xc]).run Tryz.prog (wr.alloc (.cells (madeCells #[.string ⟨#[]⟩, .int .i64 0, .string ⟨#[]⟩] ((al.length + 1) * 3)) 48)) = .ok v' ((wr.alloc (.cells (madeCells #[.string ⟨#[]⟩, .int .i64 0, .string ⟨#[]⟩] ((al.length + 1) * 3)) 48)).setCells wr.heap.size 0 (flat al)) := by
    refine copy_clause al _ 3 _ _ _ ((unhide HA1).later (unhide HBC)) (fun j hj => ?_) (fun j => ?_)
    ·rw [World.cell?_alloc_at _ _ _ _ rfl]
     exact made_some _ _ _ (by omega)
    ·rw [World.frozen?_alloc_at _ _ _ _ rfl]
   obtain ⟨v', hcp⟩ := hcp0
   obtain ⟨W3, hW3, HL, HB3⟩ : ∃ W3, ((wr.alloc (.cells (madeCells #[.string ⟨#[]⟩, .int .i64 0, .string ⟨#[]⟩] ((al.length + 1) * 3)) 48)).setCells wr.heap.size 0 (flat al)) = W3 ∧ Hid (Mk0 W3 wr.heap.size al) ∧ Hid (Below wr.heap.size wr W3) := ⟨_, rfl, hide (mk0_of wr al), hide (below_setCells _ (Nat.le_refl _) _ _ _ (unhide HBC))⟩
   rw [hW3] at hcp
   obtain ⟨k3, -⟩ := keepS g1 c1 (unhide HB3)
   clear hW3 HBC HA1
   go_wp2_with fail
   clear hcp mk52
   have hC := Nat.le_refl wr.heap.size
   have j1 : (0 : Int) ≤ (al.length : Int) := by omega
   have j2 : (al.length : Int) < (al.length : Int) + 1 := by omega
   go_region_held3 (fun w' => w'.cell? ⟨b1, o1 + i, none⟩ = some (.slice xa al.length xc) ∧ Below wr.heap.size wr w') (first | exact keepS g1 c1 (unhide HB3).drew | exact keepS g1 c1 (unhide HB5) | exact keepS g1 c1 ((((unhide HB5).setCell (p := ⟨wr.heap.size, _, none⟩) hC _).setCell (p := ⟨wr.heap.size, _, none⟩) hC _).setCell (p := ⟨wr.heap.size, _, none⟩) hC _))
    (first | (go_at_call 31; refine (mark_any _).mono ?_; rintro x w5 ⟨rfl, hb5⟩; have HL5 := hide ((unhide HL).later ((Below.refl _ _).drew.trans hb5)); have HB5 := hide ((unhide HB3).trans (((Below.refl _ _).drew.trans hb5).mono (unhide HB3).size)); obtain ⟨z0, hz0⟩ := Option.isSome_iff_exists.1 ((unhide HL5).last 0 (by omega)); obtain ⟨z1, hz1⟩ := Option.isSome_iff_exists.1 ((unhide HL5).last 1 (by omega)); obtain ⟨z2, hz2⟩ := Option.isSome_iff_exists.1 ((unhide HL5).last 2 (by omega)); rw [Nat.add_zero] at hz0; have hf0 := (unhide HL5).fr (al.length * 3); have hf1 := (unhide HL5).fr (al.length * 3 + 1); have hf2 := (unhide HL5).fr (al.length * 3 + 2); clear hb5))
   have HQ := hide (unhide HL5).mark
   have HB7 := hide ((((unhide HB5).setCell (p := ⟨wr.heap.size, al.length * 3, none⟩) hC (.string ⟨#[77, 65, 82, 75]⟩)).setCell (p := ⟨wr.heap.size, al.length * 3 + 1, none⟩) hC (.int .i64 99)).setCell (p := ⟨wr.heap.size, al.length * 3 + 2, none⟩) hC (.string ⟨#[]⟩))
   obtain ⟨k7, -⟩ := keepS g1 c1 (unhide HB7)
   have HR7 := hide ((unhide HR).later (unhide HB7))
   have hMC := (unhide HR).lt
   obtain ⟨y0, hy0⟩ := Option.isSome_iff_exists.1 ((unhide HR7).spot i (by have := unhide HN; omega))
   have fy := (unhide HR7).fr i
   have HB8 := hide ((unhide HB).trans ((unhide HB7).mono (unhide HB).size))
   clear HL HB3 HL5 HB5 hz0 hz1 hz2 hf0 hf1 hf2 k3
   generalize (((w5.setCell ⟨wr.heap.size, al.length * 3, none⟩ (.string ⟨#[77, 65, 82, 75]⟩)).setCell ⟨wr.heap.size, al.length * 3 + 1, none⟩ (.int .i64 99)).setCell ⟨wr.heap.size, al.length * 3 + 2, none⟩ (.string ⟨#[]⟩)) = V7 at *
   have j3 : (al.length : Int) ≤ (al.length : Int) + 1 := by omega
   have j4 : (i : Int) < (N : Int) + 1 := by omega
   go_wp2_with fail
   have hMw : w.heap.size ≤ M := Nat.le_of_eq (unhide HM)
   go_roundg (N - (i + 1))
   case measure => omega
   case rel => exact ⟨i + 1, by go_num, by omega, by omega, hide ((unhide HB8).setCell (p := ⟨M, i, none⟩) hMw _), hide ((unhide HR7).put (unhide HAL) hMC (unhide HQ))⟩
  ·obtain rfl : i = N := by omega
   go_wp2_with fail
   refine (mark_any _).mono ?_
   rintro x w5 ⟨rfl, hb5⟩
   have HR5 := hide ((unhide HR).later hb5)
   have HB5 := hide ((unhide HB).trans (hb5.mono (unhide HB).size))
   obtain ⟨y1, hy1⟩ := Option.isSome_iff_exists.1 ((unhide HR5).spot i (by have := unhide HN; omega))
   have fM := (unhide HR5).fr i
   have ltM := (unhide HR5).lt
   have i0 : (0 : Int) ≤ (i : Int) := by omega
   have j4 : (i : Int) < (i : Int) + 1 := by omega
   have j3 : (i : Int) ≤ (i : Int) + 1 := by omega
   clear hb5
   go_wp2_with fail
   go_ret
   have hMw : w.heap.size ≤ M := Nat.le_of_eq (unhide HM)
   have hN := unhide HN
   have hD := (unhide HR5)
   rw [← hN] at hD
   have hD := hD.done
   have hB9 := ((unhide HB5).alloc (unhide HB5).size (.cells #[.string ⟨#[77, 65, 82, 75]⟩, .int .i64 99, .string ⟨#[]⟩] 48)).setCell (p := ⟨M, i, none⟩) hMw (.slice (some ⟨w5.heap.size, 0, none⟩) 1 1)
   rw [World.setCell_alloc_past _ _ _ _ ltM] at hD hB9
   rw [hN] at hD
   exact ⟨by rw [unhide HM]; rfl, hB9, by rw [unhide HM]; exact hD⟩
end
section
open Go.RowKit
set_option maxRecDepth 100000 in
set_option maxHeartbeats 4000000 in
theorem stillClauses_any (cl : List (List At)) (base M : Nat) (W : World) (hl : cl.length ≤ 3518437208883) (hls : ∀ al ∈ cl, al.length ≤ 3518437208883) (h : Lcl base W M cl) :
 Calls Tryz.prog 30 #[.slice (some ⟨M, 0, none⟩) cl.length (cl.length + 1)] W fun e w' => e = .returned (.bool true) ∧ Below W.heap.size W w' := by
 obtain ⟨K, hMK, hK, m1, k0, k1, k2⟩ := h.last
 have HLR := hide (fun (w' : World) (B : Below W.heap.size W w') => h.row.later B)
 have HLS := hide hls
 have F2 := hide (fun (w' : World) (B : Below W.heap.size W w') => And.intro (cell_later m1 B) (And.intro (cell_later k0 B) (And.intro (cell_later k1 B) (And.intro (cell_later k2 B) B))))
 have B0 := hide ((Below.refl W.heap.size W).drew)
 clear h hls m1 k0 k1 k2 hMK hK
 obtain ⟨N, hN⟩ : ∃ N, cl.length = N := ⟨_, rfl⟩
 rw [hN] at hl F2 HLR ⊢
 have HN := hide hN
 clear hN
 have j1 : (0 : Int) ≤ (N : Int) + 1 := by omega
 have j2 : (N : Int) + 1 ≤ (N : Int) + 1 := Int.le_refl _
 have j3 : (N : Int) < (N : Int) + 1 := by omega
 have j5 : (0 : Int) ≤ (N : Int) := by omega
 go_enter Tryz.func30, Tryz.ntmps30
 go_wp2_with fail
 go_region_held3 (fun w' => w'.cell? ⟨M, N, none⟩ = some (.slice (some ⟨K, 0, none⟩) 1 1) ∧ w'.cell? ⟨K, 0, none⟩ = some (.string ⟨#[77, 65, 82, 75]⟩) ∧ w'.cell? ⟨K, 1, none⟩ = some (.int .i64 99) ∧ w'.cell? ⟨K, 2, none⟩ = some (.string ⟨#[]⟩) ∧ Below W.heap.size W w') (first | exact unhide F2 _ (unhide B0) | exact unhide F2 _ (unhide B6))
  (first | (go_at_call 31; refine (mark_any _).mono ?_; rintro x w6 ⟨rfl, hb6⟩; have B6 := hide ((unhide B0).trans (hb6.mono (unhide B0).size)); clear hb6))
 clear F2
 go_wp2_with fail
 go_loopg [4, 5] N (fun gq vi _ wr => ∃ i : Nat, vi = .int .i64 i ∧ i ≤ N ∧ N - i ≤ gq ∧ Hid (Below W.heap.size W wr))
 case atStart => exact ⟨0, by go_num, by omega, by omega, B6⟩
 case round =>
  clear B0 B6
  obtain ⟨i, rfl, hi, hg, HB⟩ := hrel
  by_cases hlt : i < N
  ·have hiz : (i : Int) < (N : Int) := by omega
   have i0 : (0 : Int) ≤ (i : Int) := by omega
   obtain ⟨al, hal⟩ : ∃ al, cl[i]? = some al := ⟨_, List.getElem?_eq_getElem (by have := unhide HN; omega)⟩
   have hla := unhide HLS al (List.mem_of_getElem? hal)
   obtain ⟨C, hMC, c1, A1⟩ := (unhide HLR wr (unhide HB)).row i al hlt hal
   have d0 := A1.l0
   have d1 := A1.l1
   have d2 := A1.l2
   have HF := hide (fun (w' : World) (B : Below wr.heap.size wr w') => And.intro (cell_later c1 B) (And.intro (cell_later d0 B) (And.intro (cell_later d1 B) (And.intro (cell_later d2 B) B))))
   have D0 := hide ((Below.refl wr.heap.size wr))
   clear hal A1 hMC
   generalize al.length = L at *
   have q1 : (0 : Int) ≤ (L : Int) + 1 := by omega
   have q2 : (L : Int) + 1 ≤ (L : Int) + 1 := Int.le_refl _
   have q3 : (L : Int) < (L : Int) + 1 := by omega
   have q5 : (0 : Int) ≤ (L : Int) := by omega
   have q4 : IntKind.i64.wrap ((L : Int) + 1) = (L : Int) + 1 := by rw [IntKind.wrap_i64]; omega
   go_wp2_with fail
   go_quiet (fail)
   have D1 := hide (bl_t (unhide D0) (bl_drewN wr nq))
   have D2 := hide (unhide D1).drew
   clear c1 d0 d1 d2
   generalize wr.drewN nq = W1 at *
   go_wp2_with fail
   go_region_held3 (fun w' => w'.cell? ⟨M, i, none⟩ = some (.slice (some ⟨C, 0, none⟩) L (L + 1)) ∧ w'.cell? ⟨C, L * 3, none⟩ = some (.string ⟨#[77, 65, 82, 75]⟩) ∧ w'.cell? ⟨C, L * 3 + 1, none⟩ = some (.int .i64 99) ∧ w'.cell? ⟨C, L * 3 + 2, none⟩ = some (.string ⟨#[]⟩) ∧ Below wr.heap.size wr w') (first | exact unhide HF _ (unhide D2) | exact unhide HF _ (unhide D3))
    (first | (go_at_call 31; refine (mark_any _).mono ?_; rintro x w6 ⟨rfl, hb6⟩; have D3 := hide ((unhide D2).trans (hb6.mono (unhide D2).size)); clear hb6))
   go_wp2_with fail
   go_roundg (N - (i + 1))
   case measure => omega
   case rel => exact ⟨i + 1, by go_num, by omega, by omega, hide ((unhide HB).trans ((unhide D3).mono (unhide HB).size))⟩
  ·go_wp2_with fail
   go_ret
   exact ⟨rfl, unhide HB⟩
end
end Go.Proofs.YtdkpglmdncjnbaaGreatDoor
