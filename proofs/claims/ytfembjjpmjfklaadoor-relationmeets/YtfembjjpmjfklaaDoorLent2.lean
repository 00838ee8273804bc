import Derived.Test.YtfembjjpmjfklaaDoorLent
import Derived.Laws.MakeOwn
import Derived.Lib.SlBuf
namespace Go.Proofs.YtfembjjpmjfklaaDoor
open Go.RowKit

/-- THE CELLS OF ATOMS, IN A ROW. -/
def flat : List At → List Value
  | [] => []
  | a :: l => .string a.n :: .int .i64 a.op :: .string a.v :: flat l
theorem flat_len : ∀ l : List At, (flat l).length = l.length * 3
  | [] => rfl
  | a :: l => by simp only [flat, List.length_cons, flat_len l]; omega
theorem flat_at : ∀ (l : List At) (i : Nat) (h : i < l.length), (flat l)[i * 3]? = some (.string l[i].n) ∧ (flat l)[i * 3 + 1]? = some (.int .i64 l[i].op) ∧ (flat l)[i * 3 + 2]? = some (.string l[i].v)
  | a :: l, 0, _ => ⟨rfl, rfl, rfl⟩
  | a :: l, i + 1, h => by
    have := flat_at l i (by simpa using h)
    rw [show (i + 1) * 3 = i * 3 + 3 by omega]
    simpa [flat] using this
theorem flat_one : ∀ (l : List At), ∀ v ∈ flat l, v.oneCell' = true
  | [], v, h => by cases h
  | a :: l, v, h => by
    simp only [flat, List.mem_cons] at h
    rcases h with rfl | rfl | rfl | h
    · rfl
    · rfl
    · rfl
    · exact flat_one l v h
theorem flat_of (l : List At) (f : Nat → Option Value) (h : ∀ i (h : i < l.length), f (i * 3) = some (.string l[i].n) ∧ f (i * 3 + 1) = some (.int .i64 l[i].op) ∧ f (i * 3 + 2) = some (.string l[i].v)) :
    ∀ (j : Nat) (v : Value), (flat l)[j]? = some v → f j = some v := by
  intro j v hj
  have hl : j < l.length * 3 := by rw [← flat_len]; exact (List.getElem?_eq_some_iff.1 hj).1
  have hi : j / 3 < l.length := by omega
  obtain ⟨h0, h1, h2⟩ := h (j / 3) hi
  obtain ⟨e0, e1, e2⟩ := flat_at l (j / 3) hi
  have : j = j / 3 * 3 ∨ j = j / 3 * 3 + 1 ∨ j = j / 3 * 3 + 2 := by omega
  rcases this with e | e | e
  · rw [e] at hj ⊢; rw [e0] at hj; rw [h0]; exact hj
  · rw [e] at hj ⊢; rw [e1] at hj; rw [h1]; exact hj
  · rw [e] at hj ⊢; rw [e2] at hj; rw [h2]; exact hj

/-- BEHIND THE TWO make AND THE copy. -/
structure LentA (w W : World) (M C : Nat) (al : List At) : Prop where
  elem : ∀ i (h : i < al.length), W.cell? ⟨C, i * 3, none⟩ = some (.string al[i].n) ∧ W.cell? ⟨C, i * 3 + 1, none⟩ = some (.int .i64 al[i].op) ∧ W.cell? ⟨C, i * 3 + 2, none⟩ = some (.string al[i].v)
  last : ∀ j, j < 3 → (W.cell? ⟨C, al.length * 3 + j, none⟩).isSome = true
  two : ∀ j, j < 2 → (W.cell? ⟨M, j, none⟩).isSome = true
  frC : ∀ j, W.frozen? ⟨C, j, none⟩ = false
  frM : ∀ j, W.frozen? ⟨M, j, none⟩ = false
  ltM : M < W.heap.size
  ltC : C < W.heap.size
  loM : w.heap.size ≤ M
  ne : M < C
  bel : Below w.heap.size w W

theorem make52 (n : Nat) (hn : n ≤ 3518437208883) (u : World) : (Instr.makeSlice 52 (.int .i64 ((n : Int) + 1)) (.int .i64 ((n : Int) + 1))).run Tryd.prog u =
    .ok (.slice (some ⟨u.heap.size, 0, none⟩) (n + 1) (n + 1)) (u.alloc (.cells (madeCells #[.string ⟨#[]⟩, .int .i64 0, .string ⟨#[]⟩] ((n + 1) * 3)) 34)) := by
  obtain ⟨i0, hi, hz0, hz1, hz2⟩ := info_parts info34
  have h := run_make (P := Tryd.prog) u 52 34 i0 (.agg #[.string ⟨#[]⟩, .int .i64 0, .string ⟨#[]⟩]) Tryd.underlying52 hi hz0 .i64 .i64 ((n : Int) + 1) ((n : Int) + 1) (by omega) (Int.le_refl _) (by rw [hz2]; omega) (by omega)
  have e : ((n : Int) + 1).toNat = n + 1 := by omega
  rw [e] at h
  simpa [hz1, Value.cells] using h

theorem make22 (u : World) : (Instr.makeSlice 22 (.int .i64 2) (.int .i64 2)).run Tryd.prog u =
    .ok (.slice (some ⟨u.heap.size, 0, none⟩) 2 2) (u.alloc (.cells (madeCells #[.slice none 0 0] 2) 52)) := by
  obtain ⟨i0, hi, hz0, hz1, hz2⟩ := info_parts info52
  have h := run_make (P := Tryd.prog) u 22 52 i0 (.slice none 0 0) Tryd.underlying22 hi hz0 .i64 .i64 2 2 (by omega) (Int.le_refl _) (by rw [hz2]; omega) (by omega)
  simpa [hz1, Value.cells] using h

theorem run_copy_nothing {P : Program} (w : World) (dT sT ty elem : TypeId) (d a : Option Addr) (k dLen dCap sCap : Nat) (hu : P.underlying dT = some (.slice elem)) (hs : (P.info? elem).map (·.size) = some k) :
    (Builtin.copy_ #[dT, sT] ty #[.slice d dLen dCap, .slice a 0 sCap]).run P w = .ok (goInt 0) w := by
  cases hq : P.info? elem with
  | none => simp [hq] at hs
  | some i =>
    have hl : ∀ (x : Addr), (loadCells x 0).run P w = .ok #[] w := fun x => by simpa using run_loadCells_list (P := P) w x [] (by simp)
    cases d <;> cases a <;> simp [Builtin.copy_, run_underlying hu, Builtin.lenOf, Builtin.firstCells, sizeOf, typeInfo, hq, storeCells, hl]

/-- THE copy, WHATEVER THE CLAUSE (NIL TOO). -/
theorem copy_clause (al : List At) (x : Value) (ty : TypeId) (C c : Nat) (u : World) (h : Ats u x al) (hs : ∀ j, j < al.length * 3 → (u.cell? ⟨C, j, none⟩).isSome = true) (hf : ∀ j, u.frozen? ⟨C, j, none⟩ = false) :
    ∃ v', (Builtin.copy_ #[52, 52] ty #[.slice (some ⟨C, 0, none⟩) (al.length + 1) c, x]).run Tryd.prog u = .ok v' (u.setCells C 0 (flat al)) := by
  obtain ⟨a, xc, rfl, hb, hc⟩ := h
  have hsz : (Tryd.prog.info? 34).map (·.size) = some 3 := by kernel_rfl
  cases al with
  | nil =>
    refine ⟨goInt 0, ?_⟩
    exact run_copy_nothing (P := Tryd.prog) u 52 52 ty 34 (some ⟨C, 0, none⟩) a 3 _ c xc Tryd.underlying52 hsz
  | cons y l =>
    obtain ⟨b, o, rfl, -, -⟩ := hc 0 (by simp)
    refine ⟨_, run_copy_many (P := Tryd.prog) u 52 52 ty 34 3 C 0 _ c ⟨b, o, none⟩ _ xc (flat (y :: l)) Tryd.underlying52 hsz ?_ ?_ ?_ ?_ (flat_one _)⟩
    · have e : Nat.min (y :: l).length ((y :: l).length + 1) = (y :: l).length := Nat.min_eq_left (Nat.le_succ _)
      rw [flat_len, e]
    · intro j v hj
      rw [Addr.add_mid]
      refine flat_of (y :: l) (fun j => u.cell? ⟨b, o + j, none⟩) (fun i hi => ?_) j v hj
      obtain ⟨b', o', e, -, e0, e1, e2⟩ := hc i hi
      cases e
      exact ⟨e0, by rw [← Nat.add_assoc]; exact e1, by rw [← Nat.add_assoc]; exact e2⟩
    · intro j hj
      rw [Nat.zero_add]
      exact hs j (by rw [flat_len] at hj; exact hj)
    · intro j _
      exact hf _

end Go.Proofs.YtfembjjpmjfklaaDoor
