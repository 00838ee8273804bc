import Derived.Test.YtmckmeoondlcpaaDoorVmG
namespace Go.Proofs.YtmckmeoondlcpaaDoor
open Go.RowKit

theorem flat_get (m : Nat) (hm : 0 < m) : ∀ (rs : List (List Value)) (_ : ∀ r ∈ rs, r.length = m) (t : Nat), rs.flatten[t]? = (rs[t / m]?).bind (fun r => r[t % m]?)
  | [], _, t => by simp
  | r :: rs, h, t => by
    have hr : r.length = m := h r List.mem_cons_self
    rw [List.flatten_cons]
    by_cases ht : t < m
    · rw [List.getElem?_append_left (by omega), Nat.div_eq_of_lt ht, Nat.mod_eq_of_lt ht]
      rfl
    · rw [List.getElem?_append_right (by omega), hr, flat_get m hm rs (fun x hx => h x (List.mem_cons_of_mem _ hx)) (t - m)]
      have e : t = (t - m) + m := by omega
      have e1 : t / m = (t - m) / m + 1 := by conv => lhs; rw [e, Nat.add_div_right _ hm]
      have e2 : t % m = (t - m) % m := by conv => lhs; rw [e, Nat.add_mod_right]
      rw [e1, e2, List.getElem?_cons_succ]
theorem flat_lenm (m : Nat) : ∀ (rs : List (List Value)) (_ : ∀ r ∈ rs, r.length = m), rs.flatten.length = rs.length * m
  | [], _ => by simp
  | r :: rs, h => by
    rw [List.flatten_cons, List.length_append, h r List.mem_cons_self, flat_lenm m rs (fun x hx => h x (List.mem_cons_of_mem _ hx)), List.length_cons]
    rw [Nat.add_mul]; omega

/-- A NEW BLOCK OF n CELLS, THE FIRST OF THEM WRITTEN. -/
structure Blk (W : World) (B : Nat) (cs : List Value) (n : Nat) : Prop where
  elem : ∀ j v, cs[j]? = some v → W.cell? ⟨B, j, none⟩ = some v
  spot : ∀ j, j < n → (W.cell? ⟨B, j, none⟩).isSome = true
  fr : ∀ j, W.frozen? ⟨B, j, none⟩ = false
  lt : B < W.heap.size
theorem Blk.of {W W' : World} {B n : Nat} {cs : List Value} (h : Blk W B cs n) (hc : ∀ j, W'.cell? ⟨B, j, none⟩ = W.cell? ⟨B, j, none⟩) (hf : ∀ j, W'.frozen? ⟨B, j, none⟩ = W.frozen? ⟨B, j, none⟩) (hl : W.heap.size ≤ W'.heap.size) : Blk W' B cs n :=
  ⟨fun j v hv => (hc j).trans (h.elem j v hv), fun j hj => by rw [hc]; exact h.spot j hj, fun j => (hf j).trans (h.fr j), Nat.lt_of_lt_of_le h.lt hl⟩
theorem Blk.later {W W' : World} {B n : Nat} {cs : List Value} (h : Blk W B cs n) (hb : Below W.heap.size W W') : Blk W' B cs n :=
  h.of (fun j => hb.cell (p := ⟨B, j, none⟩) h.lt) (fun j => hb.frozen (p := ⟨B, j, none⟩) h.lt) hb.size
theorem blk_of (w : World) (z : Array Value) (n : Nat) (t : TypeId) (cs : List Value) (hn : cs.length ≤ n) : Blk ((w.alloc (.cells (madeCells z n) t)).setCells w.heap.size 0 cs) w.heap.size cs n := by
  have hc : ∀ j, j < n → ((w.alloc (.cells (madeCells z n) t)).cell? ⟨w.heap.size, j, none⟩).isSome = true := fun j hj => by
    rw [World.cell?_alloc_at _ _ _ _ rfl]
    exact made_some _ _ _ hj
  refine ⟨fun j v hv => ?_, fun j hj => ?_, fun j => ?_, ?_⟩
  · have hj := (List.getElem?_eq_some_iff.1 hv).1
    have hin := World.cell?_setCells_in w.heap.size cs 0 _ (fun j hj => by rw [Nat.zero_add]; exact hc j (by omega)) j hj
    rw [Nat.zero_add] at hin
    rw [hin]
    exact (List.getElem?_eq_some_iff.1 hv).2 ▸ rfl
  · exact World.isSome_setCells _ _ _ _ _ (hc j hj)
  · rw [World.frozen?_setCells, World.frozen?_alloc_at _ _ _ _ rfl]
  · rw [size_setCells]; simp
/-- CELLS WRITTEN BEHIND. -/
theorem Blk.put {W : World} {B n : Nat} {cs : List Value} (h : Blk W B cs n) (o : Nat) (vs : List Value) (ho : cs.length ≤ o) : Blk (W.setCells B o vs) B cs n := by
  refine ⟨fun j v hv => ?_, fun j hj => World.isSome_setCells _ _ _ _ _ (h.spot j hj), fun j => ?_, by rw [size_setCells]; exact h.lt⟩
  · have hj := (List.getElem?_eq_some_iff.1 hv).1
    rw [World.cell?_setCells_out _ _ _ _ _ (fun _ _ => Or.inl (by show j < o; omega))]
    exact h.elem j v hv
  · rw [World.frozen?_setCells]; exact h.fr j

theorem infoFz : ∃ zc : List Value, (Tryd.prog.info? 40).map (fun i => (i.zero, i.size, i.bytes)) = some (some (.agg zc.toArray), 34, 56) ∧ zc.length = 34 :=
  ⟨((((Tryd.prog.info? 40).bind (·.zero)).map fun z => z.cells.toList).getD []), by kernel_rfl, by kernel_rfl⟩
theorem info9 : (Tryd.prog.info? 9).map (fun i => (i.zero, i.size, i.bytes)) = some (some (.string ⟨#[]⟩), 1, 16) := by kernel_rfl
theorem makeS (n : Nat) (hn : n ≤ 8796093021952) (u : World) : (Instr.makeSlice 34 (.int .i64 ((n : Int) + 1)) (.int .i64 ((n : Int) + 1))).run Tryd.prog u =
    .ok (.slice (some ⟨u.heap.size, 0, none⟩) (n + 1) (n + 1)) (u.alloc (.cells (madeCells #[.string ⟨#[]⟩] (n + 1)) 9)) := by
  obtain ⟨i0, hi, hz0, hz1, hz2⟩ := info_parts info9
  have h := run_make (P := Tryd.prog) u 34 9 i0 (.string ⟨#[]⟩) Tryd.underlying34 hi hz0 .i64 .i64 ((n : Int) + 1) ((n : Int) + 1) (by omega) (Int.le_refl _) (by rw [hz2]; omega) (by omega)
  have e : ((n : Int) + 1).toNat = n + 1 := by omega
  rw [e] at h
  simpa [hz1, Value.cells] using h
theorem makeG : ∃ zc : Array Value, ∀ (n : Nat) (_ : n ≤ 2513169434843) (u : World), (Instr.makeSlice 35 (.int .i64 ((n : Int) + 1)) (.int .i64 ((n : Int) + 1))).run Tryd.prog u =
    .ok (.slice (some ⟨u.heap.size, 0, none⟩) (n + 1) (n + 1)) (u.alloc (.cells (madeCells zc ((n + 1) * 34)) 40)) := by
  obtain ⟨zc, hzc, _⟩ := infoFz
  obtain ⟨i0, hi, hz0, hz1, hz2⟩ := info_parts hzc
  refine ⟨zc.toArray, fun n hn u => ?_⟩
  have h := run_make (P := Tryd.prog) u 35 40 i0 (.agg zc.toArray) Tryd.underlying35 hi hz0 .i64 .i64 ((n : Int) + 1) ((n : Int) + 1) (by omega) (Int.le_refl _) (by rw [hz2]; omega) (by omega)
  have e : ((n : Int) + 1).toNat = n + 1 := by omega
  rw [e] at h
  simpa [hz1, Value.cells] using h
theorem copy_strs (pl : List ByteArray) (x : Value) (ty : TypeId) (C c : Nat) (u : World) (h : Strs u x pl) (hs : ∀ j, j < pl.length → (u.cell? ⟨C, j, none⟩).isSome = true) (hf : ∀ j, u.frozen? ⟨C, j, none⟩ = false) :
    ∃ v', (Builtin.copy_ #[34, 34] ty #[.slice (some ⟨C, 0, none⟩) (pl.length + 1) c, x]).run Tryd.prog u = .ok v' (u.setCells C 0 (pl.map .string)) := by
  obtain ⟨a, xc, rfl, hb, hc⟩ := h
  have hsz : (Tryd.prog.info? 9).map (·.size) = some 1 := by kernel_rfl
  cases pl with
  | nil =>
    exact ⟨goInt 0, run_copy_nothing (P := Tryd.prog) u 34 34 ty 9 (some ⟨C, 0, none⟩) a 1 _ c xc Tryd.underlying34 hsz⟩
  | cons y l =>
    obtain ⟨b, o, rfl, -, -⟩ := hc 0 (by simp)
    refine ⟨_, run_copy_many (P := Tryd.prog) u 34 34 ty 9 1 C 0 _ c ⟨b, o, none⟩ _ xc ((y :: l).map .string) Tryd.underlying34 hsz ?_ ?_ ?_ ?_ ?_⟩
    · have e : Nat.min (y :: l).length ((y :: l).length + 1) = (y :: l).length := Nat.min_eq_left (Nat.le_succ _)
      rw [List.length_map, e, Nat.mul_one]
    · intro j v hj
      rw [Addr.add_mid]
      rw [List.getElem?_map] at hj
      obtain ⟨q, hq, rfl⟩ := Option.map_eq_some_iff.1 hj
      obtain ⟨hk, rfl⟩ := List.getElem?_eq_some_iff.1 hq
      obtain ⟨b', o', e, -, e0⟩ := hc j hk
      cases e
      exact e0
    · intro j hj
      rw [Nat.zero_add]
      exact hs j (by rw [List.length_map] at hj; exact hj)
    · intro j _
      exact hf _
    · intro v hv
      obtain ⟨q, _, rfl⟩ := List.mem_map.1 hv
      rfl
theorem copy_files (fs : List (List Value)) (x : Value) (ty : TypeId) (C c : Nat) (u : World) (h : Fls u x fs) (hs : ∀ j, j < fs.length * 34 → (u.cell? ⟨C, j, none⟩).isSome = true) (hf : ∀ j, u.frozen? ⟨C, j, none⟩ = false) :
    ∃ v', (Builtin.copy_ #[35, 35] ty #[.slice (some ⟨C, 0, none⟩) (fs.length + 1) c, x]).run Tryd.prog u = .ok v' (u.setCells C 0 fs.flatten) := by
  obtain ⟨a, xc, rfl, hb, hc⟩ := h
  have hall : ∀ r ∈ fs, isF r := fun r hr => by
    obtain ⟨i, hi, rfl⟩ := List.mem_iff_getElem.1 hr
    exact (hc i hi).1
  have hlen := flat_lenm 34 fs (fun r hr => (hall r hr).1)
  cases fs with
  | nil =>
    exact ⟨goInt 0, run_copy_nothing (P := Tryd.prog) u 35 35 ty 40 (some ⟨C, 0, none⟩) a 34 _ c xc Tryd.underlying35 infoF⟩
  | cons y l =>
    obtain ⟨-, b, o, rfl, -, -⟩ := hc 0 (by simp)
    refine ⟨_, run_copy_many (P := Tryd.prog) u 35 35 ty 40 34 C 0 _ c ⟨b, o, none⟩ _ xc (y :: l).flatten Tryd.underlying35 infoF ?_ ?_ ?_ ?_ ?_⟩
    · have e : Nat.min (y :: l).length ((y :: l).length + 1) = (y :: l).length := Nat.min_eq_left (Nat.le_succ _)
      rw [hlen, e]
    · intro j v hj
      rw [Addr.add_mid]
      rw [flat_get 34 (by omega) (y :: l) (fun r hr => (hall r hr).1) j] at hj
      obtain ⟨r, hr, hv⟩ := Option.bind_eq_some_iff.1 hj
      obtain ⟨hk, rfl⟩ := List.getElem?_eq_some_iff.1 hr
      obtain ⟨-, b', o', e, -, e0⟩ := hc (j / 34) hk
      cases e
      have := e0 (j % 34) v hv
      rw [show o + j = o + j / 34 * 34 + j % 34 by omega]
      exact this
    · intro j hj
      rw [Nat.zero_add]
      exact hs j (by rw [hlen] at hj; exact hj)
    · intro j _
      exact hf _
    · intro v hv
      obtain ⟨r, hr, hv⟩ := List.mem_flatten.1 hv
      exact (hall r hr).2.2 v hv
end Go.Proofs.YtmckmeoondlcpaaDoor
