import Derived.Test.YtabjbppekijfiaaCoC
namespace Go.Proofs.Ytabjbppekijfiaa
open Go.RowKit

theorem makeI (n : Nat) (hn : n * 24 ≤ 140737488351232) (u : World) : (Instr.makeSlice 23 (.int .i64 (n : Int)) (.int .i64 (n : Int))).run Try.prog u = .ok (.slice (some ⟨u.heap.size, 0, none⟩) n n) (u.alloc (.cells (madeCells #[.int .i64 0] n) 3)) := by
  obtain ⟨i0, hi, hz0, hz1, hz2⟩ := info_parts infoI
  have h := run_make (P := Try.prog) u 23 3 i0 (.int .i64 0) Try.underlying23 hi hz0 .i64 .i64 (n : Int) (n : Int) (by omega) (Int.le_refl _) (by rw [hz2]; omega) (by omega)
  simpa [hz1, Value.cells] using h
theorem makeT (n : Nat) (hn : n * 24 ≤ 140737488351232) (u : World) : (Instr.makeSlice 27 (.int .i64 (n : Int)) (.int .i64 (n : Int))).run Try.prog u = .ok (.slice (some ⟨u.heap.size, 0, none⟩) n n) (u.alloc (.cells (madeCells #[.bool false] n) 4)) := by
  obtain ⟨i0, hi, hz0, hz1, hz2⟩ := info_parts infoB
  have h := run_make (P := Try.prog) u 27 4 i0 (.bool false) Try.underlying27 hi hz0 .i64 .i64 (n : Int) (n : Int) (by omega) (Int.le_refl _) (by rw [hz2]; omega) (by omega)
  simpa [hz1, Value.cells] using h
/-- A LIST OF NUMBERS THAT LIES APART FROM THE BLOCK g2. -/
def Lw (g2 : Nat) (p : List Int) (la : Option Addr) (W : World) : Prop := 0 < p.length → ∃ b, la = some ⟨b, 0, none⟩ ∧ b ≠ g2 ∧ b < W.heap.size ∧ ∀ j, j < p.length → W.cell? ⟨b, j, none⟩ = some (.int .i64 (p.getD j 0))
theorem Lw.later {g2 : Nat} {p : List Int} {la : Option Addr} {W W2 : World} (h : Lw g2 p la W) (hb : Below W.heap.size W W2) : Lw g2 p la W2 := fun h0 => by
  obtain ⟨b, e, hg, lt, hc⟩ := h h0
  exact ⟨b, e, hg, Nat.lt_of_lt_of_le lt hb.size, fun j hj => (hb.cell (p := ⟨b, j, none⟩) lt).trans (hc j hj)⟩
theorem Lw.set {g2 : Nat} {p : List Int} {la : Option Addr} {W : World} (h : Lw g2 p la W) (k : Nat) (x : Value) : Lw g2 p la (W.setCell ⟨g2, k, none⟩ x) := fun h0 => by
  obtain ⟨b, e, hg, lt, hc⟩ := h h0
  exact ⟨b, e, hg, by simpa [World.setCell] using lt, fun j hj => (World.cell?_setCell_far _ _ _ _ (fun e => hg e.symm)).trans (hc j hj)⟩
theorem Lw.ri {g2 : Nat} {p : List Int} {la : Option Addr} {W : World} (h : Lw g2 p la W) : Ri W la p.length (fun j => p.getD j 0) := fun h0 => by
  obtain ⟨b, e, hg, lt, hc⟩ := h h0
  exact ⟨b, 0, e, lt, fun i hi => by rw [Nat.zero_add]; exact hc i hi⟩
theorem Lw.of_owns {g2 lo n c : Nat} {p : List Int} {la : Option Addr} {W : World} (h : W.ownsRow lo 3 1 (.slice la n c) n (tV p)) (hn : n = p.length) (hg : g2 < lo) : Lw g2 p la W := fun h0 => by
  have h' := h
  rcases h.2 with ⟨_, e2⟩ | ⟨g, cap, cur, e1, hlo, hh, _⟩
  · omega
  · cases e1
    exact ⟨g, rfl, by omega, blk_lt hh, fun j hj => by
      have := owns_at h' j _ (tV_at p j hj)
      rw [this]; simp [hj]⟩
theorem Lw.of_mv {g g2 n : Nat} {p : List Int} {W : World} (h : Mv g n 3 (fun j => .int .i64 (p.getD j 0)) W) (hn : n = p.length) (hg : g ≠ g2) : Lw g2 p (some ⟨g, 0, none⟩) W := fun h0 => by
  obtain ⟨cur, h1, h2⟩ := h
  exact ⟨g, rfl, hg, blk_lt h1, fun j hj => (cell_blk h1 j).1.trans (h2 j (by omega))⟩
/-- ALL NUMBERS. -/
def p0 (N : Nat) : List Int := (List.range N).map fun j : Nat => (j : Int)
theorem p0_len (N : Nat) : (p0 N).length = N := by simp [p0]
theorem p0_at {N j : Nat} (h : j < N) : (p0 N).getD j 0 = (j : Int) := by simp [p0, h]
theorem p0_cs {N : Nat} {ln : Nat → Nat} {L : Nat → Nat → Int} (hno : ∀ v, ¬ ∀ k, k < N → clT v (ln k) (L k) = true) : Cs N ln L (p0 N) := by
  refine ⟨?_, fun x hx => ?_, fun v hv => hno v fun k hk => ?_⟩
  · unfold p0
    rw [List.pairwise_map]
    exact List.pairwise_lt_range.imp (fun h => by omega)
  · obtain ⟨j, hj, e⟩ := List.mem_map.1 hx
    have := List.mem_range.1 hj
    omega
  · exact hv (k : Int) (List.mem_map.2 ⟨k, List.mem_range.2 hk, rfl⟩)
end Go.Proofs.Ytabjbppekijfiaa
