import Derived.Test.YtmckmeoondlcpaaDoorVmB
import Derived.Laws.IdiomCopy
import Derived.OwnWalk
import Derived.Laws.MakeOwn
import Derived.Lib.SlBuf
namespace Go.Proofs.YtmckmeoondlcpaaDoor
open Go.RowKit

theorem info34 : (Tryd.prog.info? 33).map (fun i => (i.zero, i.size, i.bytes)) = some (some (.agg #[.string ⟨#[]⟩, .int .i64 0, .string ⟨#[]⟩]), 3, 40) := by kernel_rfl
theorem info52 : (Tryd.prog.info? 24).map (fun i => (i.zero, i.size, i.bytes)) = some (some (.slice none 0 0), 1, 24) := by kernel_rfl
theorem run_copy_many {P : Program} (w : World) (dT sT ty elem : TypeId) (k b o dLen dCap : Nat) (a : Addr) (sLen sCap : Nat) (cs : List Value)
    (hu : P.underlying dT = some (.slice elem)) (hs : (P.info? elem).map (·.size) = some k) (hn : cs.length = Nat.min sLen dLen * k)
    (hsrc : ∀ j v, cs[j]? = some v → w.cell? (a.add j) = some v) (hc : ∀ j, j < cs.length → (w.cell? ⟨b, o + j, none⟩).isSome = true) (hf : ∀ j, j < cs.length → w.frozen? ⟨b, o + j, none⟩ = false) (h1 : ∀ v ∈ cs, v.oneCell' = true) :
    (Builtin.copy_ #[dT, sT] ty #[.slice (some ⟨b, o, none⟩) dLen dCap, .slice (some a) sLen sCap]).run P w = .ok (goInt (Nat.min sLen dLen)) (w.setCells b o cs) := by
  have hl := run_loadCells_list (P := P) w a cs hsrc
  have hst := run_storeCells_cells (P := P) b o cs 0 w (by simpa using hc) (by simpa using hf) h1
  cases hq : P.info? elem with
  | none => simp [hq] at hs
  | some i =>
    have hi : i.size = k := by simpa [hq] using hs
    simp [Builtin.copy_, run_underlying hu, Builtin.lenOf, Builtin.firstCells, sizeOf, typeInfo, hq, hi, ← hn, hl, hst]

def flat : List At → List Value
  | [] => []
  | a :: l => .string a.n :: .int .i64 a.op :: .string a.v :: flat l
theorem flat_len : ∀ l : List At, (flat l).length = l.length * 3
  | [] => rfl
  | a :: l => by simp only [flat, List.length_cons, flat_len l]; omega
theorem flat_at : ∀ (l : List At) (i : Nat) (h : i < l.length), (flat l)[i * 3]? = some (.string l[i].n) ∧ (flat l)[i * 3 + 1]? = some (.int .i64 l[i].op) ∧ (flat l)[i * 3 + 2]? = some (.string l[i].v)
  | a :: l, 0, _ => ⟨rfl, rfl, rfl⟩
  | a :: l, i + 1, h => by
    have := flat_at l i (by simpa using h)
    rw [show (i + 1) * 3 = i * 3 + 3 by omega]
    simpa [flat] using this
theorem flat_one : ∀ (l : List At), ∀ v ∈ flat l, v.oneCell' = true
  | [], v, h => by cases h
  | a :: l, v, h => by
    simp only [flat, List.mem_cons] at h
    rcases h with rfl | rfl | rfl | h
    · rfl
    · rfl
    · rfl
    · exact flat_one l v h
theorem flat_of (l : List At) (f : Nat → Option Value) (h : ∀ i (h : i < l.length), f (i * 3) = some (.string l[i].n) ∧ f (i * 3 + 1) = some (.int .i64 l[i].op) ∧ f (i * 3 + 2) = some (.string l[i].v)) :
    ∀ (j : Nat) (v : Value), (flat l)[j]? = some v → f j = some v := by
  intro j v hj
  have hl : j < l.length * 3 := by rw [← flat_len]; exact (List.getElem?_eq_some_iff.1 hj).1
  have hi : j / 3 < l.length := by omega
  obtain ⟨h0, h1, h2⟩ := h (j / 3) hi
  obtain ⟨e0, e1, e2⟩ := flat_at l (j / 3) hi
  have : j = j / 3 * 3 ∨ j = j / 3 * 3 + 1 ∨ j = j / 3 * 3 + 2 := by omega
  rcases this with e | e | e
  · rw [e] at hj ⊢; rw [e0] at hj; rw [h0]; exact hj
  · rw [e] at hj ⊢; rw [e1] at hj; rw [h1]; exact hj
  · rw [e] at hj ⊢; rw [e2] at hj; rw [h2]; exact hj

theorem make52 (n : Nat) (hn : n ≤ 3518437208883) (u : World) : (Instr.makeSlice 24 (.int .i64 ((n : Int) + 1)) (.int .i64 ((n : Int) + 1))).run Tryd.prog u =
    .ok (.slice (some ⟨u.heap.size, 0, none⟩) (n + 1) (n + 1)) (u.alloc (.cells (madeCells #[.string ⟨#[]⟩, .int .i64 0, .string ⟨#[]⟩] ((n + 1) * 3)) 33)) := by
  obtain ⟨i0, hi, hz0, hz1, hz2⟩ := info_parts info34
  have h := run_make (P := Tryd.prog) u 24 33 i0 (.agg #[.string ⟨#[]⟩, .int .i64 0, .string ⟨#[]⟩]) Tryd.underlying24 hi hz0 .i64 .i64 ((n : Int) + 1) ((n : Int) + 1) (by omega) (Int.le_refl _) (by rw [hz2]; omega) (by omega)
  have e : ((n : Int) + 1).toNat = n + 1 := by omega
  rw [e] at h
  simpa [hz1, Value.cells] using h

theorem makeRow (n : Nat) (hn : n ≤ 5864062014634) (u : World) : (Instr.makeSlice 26 (.int .i64 ((n : Int) + 1)) (.int .i64 ((n : Int) + 1))).run Tryd.prog u =
    .ok (.slice (some ⟨u.heap.size, 0, none⟩) (n + 1) (n + 1)) (u.alloc (.cells (madeCells #[.slice none 0 0] (n + 1)) 24)) := by
  obtain ⟨i0, hi, hz0, hz1, hz2⟩ := info_parts info52
  have h := run_make (P := Tryd.prog) u 26 24 i0 (.slice none 0 0) Tryd.underlying26 hi hz0 .i64 .i64 ((n : Int) + 1) ((n : Int) + 1) (by omega) (Int.le_refl _) (by rw [hz2]; omega) (by omega)
  have e : ((n : Int) + 1).toNat = n + 1 := by omega
  rw [e] at h
  simpa [hz1, Value.cells] using h
theorem run_copy_nothing {P : Program} (w : World) (dT sT ty elem : TypeId) (d a : Option Addr) (k dLen dCap sCap : Nat) (hu : P.underlying dT = some (.slice elem)) (hs : (P.info? elem).map (·.size) = some k) :
    (Builtin.copy_ #[dT, sT] ty #[.slice d dLen dCap, .slice a 0 sCap]).run P w = .ok (goInt 0) w := by
  cases hq : P.info? elem with
  | none => simp [hq] at hs
  | some i =>
    have hl : ∀ (x : Addr), (loadCells x 0).run P w = .ok #[] w := fun x => by simpa using run_loadCells_list (P := P) w x [] (by simp)
    cases d <;> cases a <;> simp [Builtin.copy_, run_underlying hu, Builtin.lenOf, Builtin.firstCells, sizeOf, typeInfo, hq, storeCells, hl]

theorem copy_clause (al : List At) (x : Value) (ty : TypeId) (C c : Nat) (u : World) (h : Ats u x al) (hs : ∀ j, j < al.length * 3 → (u.cell? ⟨C, j, none⟩).isSome = true) (hf : ∀ j, u.frozen? ⟨C, j, none⟩ = false) :
    ∃ v', (Builtin.copy_ #[24, 24] ty #[.slice (some ⟨C, 0, none⟩) (al.length + 1) c, x]).run Tryd.prog u = .ok v' (u.setCells C 0 (flat al)) := by
  obtain ⟨a, xc, rfl, hb, hc⟩ := h
  have hsz : (Tryd.prog.info? 33).map (·.size) = some 3 := by kernel_rfl
  cases al with
  | nil =>
    refine ⟨goInt 0, ?_⟩
    exact run_copy_nothing (P := Tryd.prog) u 24 24 ty 33 (some ⟨C, 0, none⟩) a 3 _ c xc Tryd.underlying24 hsz
  | cons y l =>
    obtain ⟨b, o, rfl, -, -⟩ := hc 0 (by simp)
    refine ⟨_, run_copy_many (P := Tryd.prog) u 24 24 ty 33 3 C 0 _ c ⟨b, o, none⟩ _ xc (flat (y :: l)) Tryd.underlying24 hsz ?_ ?_ ?_ ?_ (flat_one _)⟩
    · have e : Nat.min (y :: l).length ((y :: l).length + 1) = (y :: l).length := Nat.min_eq_left (Nat.le_succ _)
      rw [flat_len, e]
    · intro j v hj
      rw [Addr.add_mid]
      refine flat_of (y :: l) (fun j => u.cell? ⟨b, o + j, none⟩) (fun i hi => ?_) j v hj
      obtain ⟨b', o', e, -, e0, e1, e2⟩ := hc i hi
      cases e
      exact ⟨e0, by rw [← Nat.add_assoc]; exact e1, by rw [← Nat.add_assoc]; exact e2⟩
    · intro j hj
      rw [Nat.zero_add]
      exact hs j (by rw [flat_len] at hj; exact hj)
    · intro j _
      exact hf _

theorem size_setCells (b : Nat) : ∀ (vs : List Value) (o : Nat) (u : World), (u.setCells b o vs).heap.size = u.heap.size
  | [], _, _ => rfl
  | v :: r, o, u => by rw [World.setCells, size_setCells b r]; simp
theorem below_setCells {w : World} {base : Nat} (b : Nat) (hb : base ≤ b) : ∀ (vs : List Value) (o : Nat) (u : World), Below base w u → Below base w (u.setCells b o vs)
  | [], _, _, h => h
  | v :: r, o, u, h => by
    rw [World.setCells]
    exact below_setCells b hb r (o + 1) _ (h.setCell (p := ⟨b, o, none⟩) hb v)

theorem made_some (z : Array Value) (n j : Nat) (h : j < n) : ((madeCells z n)[j]?).isSome = true := by
  rw [Array.getElem?_eq_getElem (by rw [size_madeCells]; exact h)]; rfl

theorem off_ne {b i j : Nat} (h : i ≠ j) : (⟨b, i, none⟩ : Addr) ≠ ⟨b, j, none⟩ := fun e => h (by injection e)
theorem blk_ne {b c i j : Nat} (h : b ≠ c) : (⟨b, i, none⟩ : Addr) ≠ ⟨c, j, none⟩ := fun e => h (by injection e)

theorem mark_any (w : World) :
    Calls Tryd.prog 11 #[] w fun e w' => e = .returned (.agg #[.string ⟨#[77, 65, 82, 75]⟩, .int .i64 99, .string ⟨#[]⟩]) ∧ Below w.heap.size w w' := by
  go_enter Tryd.func11, Tryd.ntmps11
  go_wp2
  exact bodyPost_ret (v := .agg #[.string ⟨#[77, 65, 82, 75]⟩, .int .i64 99, .string ⟨#[]⟩]) (by simp [results, Tryd.results11, go_sem]) rfl ⟨rfl, (Below.refl _ _).alloc (Nat.le_refl _) _⟩

/-- THE ATOMS OF ONE CLAUSE IN ITS NEW BLOCK, ROOM FOR THE MARK. -/
structure Mk0 (W : World) (C : Nat) (al : List At) : Prop where
  elem : ∀ i (h : i < al.length), W.cell? ⟨C, i * 3, none⟩ = some (.string al[i].n) ∧ W.cell? ⟨C, i * 3 + 1, none⟩ = some (.int .i64 al[i].op) ∧ W.cell? ⟨C, i * 3 + 2, none⟩ = some (.string al[i].v)
  last : ∀ j, j < 3 → (W.cell? ⟨C, al.length * 3 + j, none⟩).isSome = true
  fr : ∀ j, W.frozen? ⟨C, j, none⟩ = false
  lt : C < W.heap.size
/-- .. AND THE MARK. -/
structure Mk1 (W : World) (C : Nat) (al : List At) : Prop where
  elem : ∀ i (h : i < al.length), W.cell? ⟨C, i * 3, none⟩ = some (.string al[i].n) ∧ W.cell? ⟨C, i * 3 + 1, none⟩ = some (.int .i64 al[i].op) ∧ W.cell? ⟨C, i * 3 + 2, none⟩ = some (.string al[i].v)
  l0 : W.cell? ⟨C, al.length * 3, none⟩ = some (.string ⟨#[77, 65, 82, 75]⟩)
  l1 : W.cell? ⟨C, al.length * 3 + 1, none⟩ = some (.int .i64 99)
  l2 : W.cell? ⟨C, al.length * 3 + 2, none⟩ = some (.string ⟨#[]⟩)
  fr : ∀ j, W.frozen? ⟨C, j, none⟩ = false
  lt : C < W.heap.size
theorem Mk0.of {W W' : World} {C : Nat} {al : List At} (h : Mk0 W C al) (hc : ∀ j, W'.cell? ⟨C, j, none⟩ = W.cell? ⟨C, j, none⟩) (hf : ∀ j, W'.frozen? ⟨C, j, none⟩ = W.frozen? ⟨C, j, none⟩) (hl : W.heap.size ≤ W'.heap.size) : Mk0 W' C al :=
  ⟨fun i hi => ⟨(hc _).trans (h.elem i hi).1, (hc _).trans (h.elem i hi).2.1, (hc _).trans (h.elem i hi).2.2⟩, fun j hj => by rw [hc]; exact h.last j hj, fun j => (hf j).trans (h.fr j), Nat.lt_of_lt_of_le h.lt hl⟩
theorem Mk1.of {W W' : World} {C : Nat} {al : List At} (h : Mk1 W C al) (hc : ∀ j, W'.cell? ⟨C, j, none⟩ = W.cell? ⟨C, j, none⟩) (hf : ∀ j, W'.frozen? ⟨C, j, none⟩ = W.frozen? ⟨C, j, none⟩) (hl : W.heap.size ≤ W'.heap.size) : Mk1 W' C al :=
  ⟨fun i hi => ⟨(hc _).trans (h.elem i hi).1, (hc _).trans (h.elem i hi).2.1, (hc _).trans (h.elem i hi).2.2⟩, (hc _).trans h.l0, (hc _).trans h.l1, (hc _).trans h.l2, fun j => (hf j).trans (h.fr j), Nat.lt_of_lt_of_le h.lt hl⟩
theorem Mk0.later {W W' : World} {C : Nat} {al : List At} (h : Mk0 W C al) (hb : Below W.heap.size W W') : Mk0 W' C al :=
  h.of (fun j => hb.cell (p := ⟨C, j, none⟩) h.lt) (fun j => hb.frozen (p := ⟨C, j, none⟩) h.lt) hb.size
theorem Mk1.later {W W' : World} {C : Nat} {al : List At} (h : Mk1 W C al) (hb : Below W.heap.size W W') : Mk1 W' C al :=
  h.of (fun j => hb.cell (p := ⟨C, j, none⟩) h.lt) (fun j => hb.frozen (p := ⟨C, j, none⟩) h.lt) hb.size

theorem mk0_of (w : World) (al : List At) :
    Mk0 ((w.alloc (.cells (madeCells #[.string ⟨#[]⟩, .int .i64 0, .string ⟨#[]⟩] ((al.length + 1) * 3)) 33)).setCells w.heap.size 0 (flat al)) w.heap.size al := by
  have hc : ∀ j, j < (al.length + 1) * 3 → ((w.alloc (.cells (madeCells #[.string ⟨#[]⟩, .int .i64 0, .string ⟨#[]⟩] ((al.length + 1) * 3)) 33)).cell? ⟨w.heap.size, j, none⟩).isSome = true := fun j hj => by
    rw [World.cell?_alloc_at _ _ _ _ rfl]
    exact made_some _ _ _ hj
  refine ⟨fun i hi => ?_, fun j hj => ?_, fun j => ?_, ?_⟩
  · have hin := World.cell?_setCells_in w.heap.size (flat al) 0 _ (fun j hj => by rw [Nat.zero_add]; exact hc j (by rw [flat_len] at hj; omega))
    obtain ⟨e0, e1, e2⟩ := flat_at al i hi
    have k0 := hin (i * 3) (by rw [flat_len]; omega)
    have k1 := hin (i * 3 + 1) (by rw [flat_len]; omega)
    have k2 := hin (i * 3 + 2) (by rw [flat_len]; omega)
    rw [Nat.zero_add] at k0 k1 k2
    rw [List.getElem?_eq_getElem (by rw [flat_len]; omega)] at e0 e1 e2
    exact ⟨k0.trans e0, k1.trans e1, k2.trans e2⟩
  · rw [World.cell?_setCells_out _ _ _ _ _ (fun _ _ => Or.inr (by rw [flat_len]; simp))]
    exact hc _ (by omega)
  · rw [World.frozen?_setCells, World.frozen?_alloc_at _ _ _ _ rfl]
  · rw [size_setCells]; simp

theorem Mk0.mark {W : World} {C : Nat} {al : List At} (h : Mk0 W C al) :
    Mk1 (((W.setCell ⟨C, al.length * 3, none⟩ (.string ⟨#[77, 65, 82, 75]⟩)).setCell ⟨C, al.length * 3 + 1, none⟩ (.int .i64 99)).setCell ⟨C, al.length * 3 + 2, none⟩ (.string ⟨#[]⟩)) C al := by
  obtain ⟨z0, hz0⟩ := Option.isSome_iff_exists.1 (h.last 0 (by omega))
  obtain ⟨z1, hz1⟩ := Option.isSome_iff_exists.1 (h.last 1 (by omega))
  obtain ⟨z2, hz2⟩ := Option.isSome_iff_exists.1 (h.last 2 (by omega))
  rw [Nat.add_zero] at hz0
  have hel : ∀ j, j ≠ al.length * 3 → j ≠ al.length * 3 + 1 → j ≠ al.length * 3 + 2 → (((W.setCell ⟨C, al.length * 3, none⟩ (.string ⟨#[77, 65, 82, 75]⟩)).setCell ⟨C, al.length * 3 + 1, none⟩ (.int .i64 99)).setCell ⟨C, al.length * 3 + 2, none⟩ (.string ⟨#[]⟩)).cell? ⟨C, j, none⟩ = W.cell? ⟨C, j, none⟩ := fun j h0 h1 h2 => by
    rw [World.cell?_setCell_other _ _ _ _ (off_ne (Ne.symm h2)), World.cell?_setCell_other _ _ _ _ (off_ne (Ne.symm h1)), World.cell?_setCell_other _ _ _ _ (off_ne (Ne.symm h0))]
  refine ⟨fun i hi => ?_, ?_, ?_, ?_, fun j => ?_, ?_⟩
  · rw [hel _ (by omega) (by omega) (by omega), hel _ (by omega) (by omega) (by omega), hel _ (by omega) (by omega) (by omega)]
    exact h.elem i hi
  · rw [World.cell?_setCell_other _ _ _ _ (off_ne (by omega)), World.cell?_setCell_other _ _ _ _ (off_ne (by omega))]
    exact World.cell?_setCell_same _ _ _ hz0
  · rw [World.cell?_setCell_other _ _ _ _ (off_ne (by omega))]
    exact World.cell?_setCell_same _ _ _ (by rw [World.cell?_setCell_other _ _ _ _ (off_ne (by omega))]; exact hz1)
  · exact World.cell?_setCell_same _ _ _ (by rw [World.cell?_setCell_other _ _ _ _ (off_ne (by omega)), World.cell?_setCell_other _ _ _ _ (off_ne (by omega))]; exact hz2)
  · rw [World.frozen?_setCell, World.frozen?_setCell, World.frozen?_setCell]; exact h.fr j
  · simpa using h.lt

/-- THE ROW OF THE CLAUSES, THE FIRST n OF THEM PUT. -/
structure Row (base : Nat) (W : World) (M : Nat) (cl : List (List At)) (n : Nat) : Prop where
  row : ∀ i al, i < n → cl[i]? = some al → ∃ C, M < C ∧ W.cell? ⟨M, i, none⟩ = some (.slice (some ⟨C, 0, none⟩) al.length (al.length + 1)) ∧ Mk1 W C al
  spot : ∀ j, j ≤ cl.length → (W.cell? ⟨M, j, none⟩).isSome = true
  fr : ∀ j, W.frozen? ⟨M, j, none⟩ = false
  lt : M < W.heap.size
  lo : base ≤ M
theorem Row.later {base : Nat} {W W' : World} {M n : Nat} {cl : List (List At)} (h : Row base W M cl n) (hb : Below W.heap.size W W') : Row base W' M cl n := by
  refine ⟨fun i al hi ha => ?_, fun j hj => ?_, fun j => (hb.frozen (p := ⟨M, j, none⟩) h.lt).trans (h.fr j), Nat.lt_of_lt_of_le h.lt hb.size, h.lo⟩
  · obtain ⟨C, h1, h2, h3⟩ := h.row i al hi ha
    exact ⟨C, h1, cell_later h2 hb, h3.later hb⟩
  · rw [hb.cell (p := ⟨M, j, none⟩) h.lt]; exact h.spot j hj
theorem row_of (w : World) (cl : List (List At)) : Row w.heap.size (w.alloc (.cells (madeCells #[.slice none 0 0] (cl.length + 1)) 24)) w.heap.size cl 0 := by
  refine ⟨fun i al hi _ => absurd hi (Nat.not_lt_zero _), fun j hj => ?_, fun j => ?_, ?_, Nat.le_refl _⟩
  · rw [World.cell?_alloc_at _ _ _ _ rfl]; exact made_some _ _ _ (by omega)
  · rw [World.frozen?_alloc_at _ _ _ _ rfl]
  · simp
theorem Row.put {base : Nat} {W : World} {M n C : Nat} {cl : List (List At)} {al : List At} (h : Row base W M cl n) (ha : cl[n]? = some al) (hC : M < C) (hm : Mk1 W C al) :
    Row base (W.setCell ⟨M, n, none⟩ (.slice (some ⟨C, 0, none⟩) al.length (al.length + 1))) M cl (n + 1) := by
  have hn : n < cl.length := (List.getElem?_eq_some_iff.1 ha).1
  obtain ⟨z, hz⟩ := Option.isSome_iff_exists.1 (h.spot n (by omega))
  have oth : ∀ D, M < D → ∀ j, (W.setCell ⟨M, n, none⟩ (.slice (some ⟨C, 0, none⟩) al.length (al.length + 1))).cell? ⟨D, j, none⟩ = W.cell? ⟨D, j, none⟩ := fun D hD j => World.cell?_setCell_other _ _ _ _ (blk_ne (by omega))
  have keep : ∀ D bl, M < D → Mk1 W D bl → Mk1 (W.setCell ⟨M, n, none⟩ (.slice (some ⟨C, 0, none⟩) al.length (al.length + 1))) D bl := fun D bl hD hb => hb.of (oth D hD) (fun j => World.frozen?_setCell _ _ _ _) (by simp)
  refine ⟨fun i bl hi hb => ?_, fun j hj => ?_, fun j => ?_, ?_, h.lo⟩
  · by_cases e : i = n
    · subst e
      rw [ha] at hb; cases hb
      exact ⟨C, hC, World.cell?_setCell_same _ _ _ hz, keep C al hC hm⟩
    · obtain ⟨D, h1, h2, h3⟩ := h.row i bl (by omega) hb
      refine ⟨D, h1, ?_, keep D bl h1 h3⟩
      rw [World.cell?_setCell_other _ _ _ _ (off_ne (Ne.symm e))]; exact h2
  · by_cases e : j = n
    · subst e; rw [World.cell?_setCell_same _ _ _ hz]; rfl
    · rw [World.cell?_setCell_other _ _ _ _ (off_ne (Ne.symm e))]; exact h.spot j hj
  · rw [World.frozen?_setCell]; exact h.fr j
  · simpa using h.lt
/-- WHAT lentClauses HANDS OUT. -/
structure Lcl (base : Nat) (W : World) (M : Nat) (cl : List (List At)) : Prop where
  row : Row base W M cl cl.length
  last : ∃ K, M < K ∧ K < W.heap.size ∧ W.cell? ⟨M, cl.length, none⟩ = some (.slice (some ⟨K, 0, none⟩) 1 1) ∧ W.cell? ⟨K, 0, none⟩ = some (.string ⟨#[77, 65, 82, 75]⟩) ∧ W.cell? ⟨K, 1, none⟩ = some (.int .i64 99) ∧ W.cell? ⟨K, 2, none⟩ = some (.string ⟨#[]⟩)
theorem Lcl.later {base : Nat} {W W' : World} {M : Nat} {cl : List (List At)} (h : Lcl base W M cl) (hb : Below W.heap.size W W') : Lcl base W' M cl := by
  obtain ⟨K, h1, h2, h3, h4, h5, h6⟩ := h.last
  exact ⟨h.row.later hb, K, h1, Nat.lt_of_lt_of_le h2 hb.size, cell_later h3 hb, cell_later h4 hb, cell_later h5 hb, cell_later h6 hb⟩
theorem Row.done {base : Nat} {W : World} {M : Nat} {cl : List (List At)} (h : Row base W M cl cl.length) :
    Lcl base ((W.alloc (.cells #[.string ⟨#[77, 65, 82, 75]⟩, .int .i64 99, .string ⟨#[]⟩] 33)).setCell ⟨M, cl.length, none⟩ (.slice (some ⟨W.heap.size, 0, none⟩) 1 1)) M cl := by
  obtain ⟨W1, hW1, k0, k1, k2, q, B⟩ := atomNew W (.string ⟨#[77, 65, 82, 75]⟩) (.int .i64 99) (.string ⟨#[]⟩) 33
  rw [hW1]
  have h1 := h.later B
  have hlt := h.lt
  obtain ⟨z, hz⟩ := Option.isSome_iff_exists.1 (h1.spot cl.length (Nat.le_refl _))
  generalize W.heap.size = K at *
  have oth : ∀ D, M < D → ∀ j, (W1.setCell ⟨M, cl.length, none⟩ (.slice (some ⟨K, 0, none⟩) 1 1)).cell? ⟨D, j, none⟩ = W1.cell? ⟨D, j, none⟩ := fun D hD j => World.cell?_setCell_other _ _ _ _ (blk_ne (by omega))
  refine ⟨⟨fun i al hi ha => ?_, fun j hj => ?_, fun j => ?_, ?_, h.lo⟩, K, hlt, by simpa using q, World.cell?_setCell_same _ _ _ hz, (oth K hlt _).trans k0, (oth K hlt _).trans k1, (oth K hlt _).trans k2⟩
  · obtain ⟨D, g1, g2, g3⟩ := h1.row i al hi ha
    refine ⟨D, g1, ?_, g3.of (oth D g1) (fun j => World.frozen?_setCell _ _ _ _) (by simp)⟩
    rw [World.cell?_setCell_other _ _ _ _ (off_ne (by omega))]; exact g2
  · by_cases e : j = cl.length
    · subst e; rw [World.cell?_setCell_same _ _ _ hz]; rfl
    · rw [World.cell?_setCell_other _ _ _ _ (off_ne (Ne.symm e))]; exact h1.spot j hj
  · rw [World.frozen?_setCell]; exact h1.fr j
  · simpa using h1.lt
theorem Mk1.ats {W : World} {C : Nat} {al : List At} (h : Mk1 W C al) (hal : al.length ≤ 3074457345618258602) : Ats W (.slice (some ⟨C, 0, none⟩) al.length (al.length + 1)) al :=
  ⟨_, _, rfl, hal, fun i hi => ⟨C, 0, rfl, h.lt, by rw [Nat.zero_add]; exact (h.elem i hi).1, by rw [Nat.zero_add]; exact (h.elem i hi).2.1, by rw [Nat.zero_add]; exact (h.elem i hi).2.2⟩⟩
theorem Lcl.cls {base : Nat} {W : World} {M : Nat} {cl : List (List At)} (h : Lcl base W M cl) (hls : ∀ al ∈ cl, al.length ≤ 3074457345618258602) : Cls W (.slice (some ⟨M, 0, none⟩) cl.length (cl.length + 1)) cl := by
  refine ⟨_, _, rfl, fun _ => ⟨M, 0, rfl, h.row.lt, fun i al ha => ?_⟩⟩
  obtain ⟨C, _, h2, h3⟩ := h.row.row i al (List.getElem?_eq_some_iff.1 ha).1 ha
  rw [Nat.zero_add]
  exact ⟨_, _, h2, h3.ats (hls al (List.mem_of_getElem? ha))⟩

end Go.Proofs.YtmckmeoondlcpaaDoor
