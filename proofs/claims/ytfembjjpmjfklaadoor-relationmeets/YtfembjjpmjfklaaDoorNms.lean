import Derived.Test.YtfembjjpmjfklaaDoorStill
namespace Go.Proofs.YtfembjjpmjfklaaDoor
open Go.RowKit

/-- NAMES IN NEW MEMORY, A MARK BEHIND THEM. -/
structure Nms (w W : World) (N : Nat) (pl : List ByteArray) : Prop where
  elem : ∀ i (h : i < pl.length), W.cell? ⟨N, i, none⟩ = some (.string pl[i])
  last : (W.cell? ⟨N, pl.length, none⟩).isSome = true
  fr : ∀ j, W.frozen? ⟨N, j, none⟩ = false
  lt : N < W.heap.size
  lo : w.heap.size ≤ N
  bel : Below w.heap.size w W

theorem make44 (n : Nat) (hn : n ≤ 8796093022207) (u : World) : (Instr.makeSlice 44 (.int .i64 ((n : Int) + 1)) (.int .i64 ((n : Int) + 1))).run Tryd.prog u =
    .ok (.slice (some ⟨u.heap.size, 0, none⟩) (n + 1) (n + 1)) (u.alloc (.cells (madeCells #[.string ⟨#[]⟩] (n + 1)) 9)) := by
  obtain ⟨i0, hi, hz0, hz1, hz2⟩ := info_parts info9
  have h := run_make (P := Tryd.prog) u 44 9 i0 (.string ⟨#[]⟩) Tryd.underlying44 hi hz0 .i64 .i64 ((n : Int) + 1) ((n : Int) + 1) (by omega) (Int.le_refl _) (by rw [hz2]; omega) (by omega)
  have e : ((n : Int) + 1).toNat = n + 1 := by omega
  rw [e] at h
  simpa [hz1, Value.cells] using h

theorem copy_names (pl : List ByteArray) (x : Value) (ty : TypeId) (N c : Nat) (u : World) (h : Strs u x pl) (hs : ∀ j, j < pl.length → (u.cell? ⟨N, j, none⟩).isSome = true) (hf : ∀ j, u.frozen? ⟨N, j, none⟩ = false) :
    ∃ v', (Builtin.copy_ #[44, 44] ty #[.slice (some ⟨N, 0, none⟩) (pl.length + 1) c, x]).run Tryd.prog u = .ok v' (u.setCells N 0 (pl.map Value.string)) := by
  obtain ⟨a, xc, rfl, hb, hc⟩ := h
  have hsz : (Tryd.prog.info? 9).map (·.size) = some 1 := by kernel_rfl
  cases pl with
  | nil =>
    refine ⟨goInt 0, ?_⟩
    exact run_copy_nothing (P := Tryd.prog) u 44 44 ty 9 (some ⟨N, 0, none⟩) a 1 _ c xc Tryd.underlying44 hsz
  | cons y l =>
    obtain ⟨b, o, rfl, -, -⟩ := hc 0 (by simp)
    refine ⟨_, run_copy_many (P := Tryd.prog) u 44 44 ty 9 1 N 0 _ c ⟨b, o, none⟩ _ xc ((y :: l).map Value.string) Tryd.underlying44 hsz ?_ ?_ ?_ ?_ ?_⟩
    · have e : Nat.min (y :: l).length ((y :: l).length + 1) = (y :: l).length := Nat.min_eq_left (Nat.le_succ _)
      rw [List.length_map, e, Nat.mul_one]
    · intro j v hj
      rw [Addr.add_mid]
      have hj' : j < (y :: l).length := by
        have := (List.getElem?_eq_some_iff.1 hj).1
        simpa using this
      obtain ⟨b', o', e, -, e0⟩ := hc j hj'
      cases e
      rw [List.getElem?_map, List.getElem?_eq_getElem hj'] at hj
      rw [e0]
      exact hj
    · intro j hj
      rw [Nat.zero_add]
      exact hs j (by simpa using hj)
    · intro j _
      exact hf _
    · intro v hv
      obtain ⟨s, -, rfl⟩ := List.mem_map.1 hv
      rfl

theorem nms_of (w : World) (pl : List ByteArray) : Nms w ((w.alloc (.cells (madeCells #[.string ⟨#[]⟩] (pl.length + 1)) 9)).setCells w.heap.size 0 (pl.map Value.string)) w.heap.size pl := by
  have hc : ∀ j, j < pl.length + 1 → ((w.alloc (.cells (madeCells #[.string ⟨#[]⟩] (pl.length + 1)) 9)).cell? ⟨w.heap.size, j, none⟩).isSome = true := fun j hj => by
    rw [World.cell?_alloc_at _ _ _ _ rfl]
    exact made_some _ _ _ hj
  refine ⟨fun i hi => ?_, ?_, fun j => ?_, ?_, Nat.le_refl _, ?_⟩
  · have hin := World.cell?_setCells_in w.heap.size (pl.map Value.string) 0 _ (fun j hj => by rw [Nat.zero_add]; exact hc j (by simp at hj; omega)) i (by simpa using hi)
    rw [Nat.zero_add] at hin
    rw [hin]
    simp
  · rw [World.cell?_setCells_out _ _ _ _ _ (fun _ _ => Or.inr (by simp))]
    exact hc _ (Nat.lt_succ_self _)
  · rw [World.frozen?_setCells, World.frozen?_alloc_at _ _ _ _ rfl]
  · rw [size_setCells]; simp
  · exact below_setCells _ (Nat.le_refl _) _ _ _ ((Below.refl w.heap.size w).alloc (Nat.le_refl _) _)

theorem Nms.later {w W W' : World} {N : Nat} {pl : List ByteArray} (h : Nms w W N pl) (hb : Below W.heap.size W W') : Nms w W' N pl :=
  ⟨fun i hi => (hb.cell (p := ⟨N, i, none⟩) h.lt).trans (h.elem i hi), by rw [hb.cell (p := ⟨N, _, none⟩) h.lt]; exact h.last, fun j => (hb.frozen (p := ⟨N, j, none⟩) h.lt).trans (h.fr j), Nat.lt_of_lt_of_le h.lt hb.size, h.lo, h.bel.trans (hb.mono h.bel.size)⟩

theorem Nms.strs {w W : World} {N : Nat} {pl : List ByteArray} (h : Nms w W N pl) (hb : pl.length ≤ 9223372036854775807) (c : Nat) : Strs W (.slice (some ⟨N, 0, none⟩) pl.length c) pl :=
  ⟨_, c, rfl, hb, fun i hi => ⟨N, 0, rfl, h.lt, by rw [Nat.zero_add]; exact h.elem i hi⟩⟩

/-- THE MARK BEHIND THE NAMES IS SET. -/
theorem Nms.mark {w W : World} {N : Nat} {pl : List ByteArray} (h : Nms w W N pl) : Nms w (W.setCell ⟨N, pl.length, none⟩ (.string ⟨#[77, 65, 82, 75]⟩)) N pl ∧ (W.setCell ⟨N, pl.length, none⟩ (.string ⟨#[77, 65, 82, 75]⟩)).cell? ⟨N, pl.length, none⟩ = some (.string ⟨#[77, 65, 82, 75]⟩) := by
  obtain ⟨z, hz⟩ := Option.isSome_iff_exists.1 h.last
  have e := World.cell?_setCell_same W ⟨N, pl.length, none⟩ (.string ⟨#[77, 65, 82, 75]⟩) hz
  refine ⟨⟨fun i hi => ?_, congrArg Option.isSome e, fun j => ?_, ?_, h.lo, ?_⟩, e⟩
  · rw [World.cell?_setCell_other _ _ _ _ (off_ne (by omega))]; exact h.elem i hi
  · rw [World.frozen?_setCell]; exact h.fr j
  · simpa using h.lt
  · exact h.bel.setCell (p := ⟨N, _, none⟩) h.lo _

end Go.Proofs.YtfembjjpmjfklaaDoor
