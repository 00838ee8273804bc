import Derived.Test.YtabjbppekijfiaaCoA
namespace Go.Proofs.Ytabjbppekijfiaa
open Go.RowKit

/-- VALUES IN A BLOCK. -/
def Mv (g n e : Nat) (F : Nat → Value) (W : World) : Prop := ∃ cur, W.heap[g]? = some (.cells cur e (0, 0)) ∧ ∀ k, k < n → cur[k]? = some (F k)
theorem Mv.later {g n e : Nat} {F : Nat → Value} {W W2 : World} (h : Mv g n e F W) (hb : Below W.heap.size W W2) : Mv g n e F W2 := by
  obtain ⟨cur, h1, h2⟩ := h
  exact ⟨cur, (hb.block _ (blk_lt h1)).trans h1, h2⟩
theorem Mv.rv {g n e : Nat} {F : Nat → Value} {W : World} (h : Mv g n e F W) : Rv W (some ⟨g, 0, none⟩) n F := by
  obtain ⟨cur, h1, h2⟩ := h
  exact fun _ => ⟨g, 0, rfl, blk_lt h1, fun i hi => by rw [Nat.zero_add, (cell_blk h1 i).1]; exact h2 i hi⟩
theorem Mv.set {g n e : Nat} {F : Nat → Value} {W : World} (h : Mv g n e F W) {k : Nat} (hk : k < n) (x : Value) : Mv g n e (fun j => if j = k then x else F j) (W.setCell ⟨g, k, none⟩ x) := by
  obtain ⟨cur, h1, h2⟩ := h
  refine ⟨_, set_blk h1 k _, fun j hj => ?_⟩
  by_cases q : j = k
  · subst q
    have hlt := (Array.getElem?_eq_some_iff.1 (h2 j hj)).1
    simp [hlt]
  · simp only [q, if_false]
    rw [Array.getElem?_setIfInBounds_ne (fun z => q z.symm)]
    exact h2 j hj
theorem Mv.cell {g n e : Nat} {F : Nat → Value} {W : World} (h : Mv g n e F W) {k : Nat} (hk : k < n) : W.cell? ⟨g, k, none⟩ = some (F k) ∧ W.frozen? ⟨g, k, none⟩ = false := by
  obtain ⟨cur, h1, h2⟩ := h
  exact ⟨(cell_blk h1 k).1.trans (h2 k hk), (cell_blk h1 k).2⟩
theorem Mv.congr {g n e : Nat} {F G : Nat → Value} {W : World} (h : Mv g n e F W) (q : ∀ k, k < n → F k = G k) : Mv g n e G W := by
  obtain ⟨cur, h1, h2⟩ := h
  exact ⟨cur, h1, fun k hk => (h2 k hk).trans (by rw [q k hk])⟩
theorem makeL (n : Nat) (hn : n * 24 ≤ 140737488351232) (u : World) : (Instr.makeSlice 22 (.int .i64 (n : Int)) (.int .i64 (n : Int))).run Try.prog u = .ok (.slice (some ⟨u.heap.size, 0, none⟩) n n) (u.alloc (.cells (madeCells #[.slice none 0 0] n) 23)) := by
  obtain ⟨i0, hi, hz0, hz1, hz2⟩ := info_parts infoL
  have h := run_make (P := Try.prog) u 22 23 i0 (.slice none 0 0) Try.underlying22 hi hz0 .i64 .i64 (n : Int) (n : Int) (by omega) (Int.le_refl _) (by rw [hz2]; omega) (by omega)
  simpa [hz1, Value.cells] using h
set_option maxRecDepth 100000 in
set_option maxHeartbeats 2000000 in
theorem schosen_any (N : Nat) (ln : Nat → Nat) (L : Nat → Nat → Int) (m : Nat) (p : Nat → Nat) (ca pa : Option Addr) (cc c : Nat) (w : World) (_hN : N ≤ 140737488355328) (hm : m * 24 ≤ 140737488351232) (hp : ∀ j, j < m → p j < N) (hR : Rr w ca N ln L) (hP : Ri w pa m (fun j => (p j : Int))) :
    Calls Try.prog 52 #[.slice ca N cc, .slice pa m c] w fun x w' => ∃ g, x = .returned (.slice (some ⟨g, 0, none⟩) m m) ∧ Rr w' (some ⟨g, 0, none⟩) m (fun j => ln (p j)) (fun j => L (p j)) ∧ Below w.heap.size w w' := by
  have mk := makeL m hm
  obtain ⟨C, D, hRv, hRi⟩ := hR
  have HRv := hide hRv
  have HRi := hide hRi
  have HP := hide hP
  have HPN := hide hp
  clear hRv hRi hP hp
  obtain ⟨W0, hW0⟩ : ∃ W, W = w.alloc (.cells (madeCells #[.slice none 0 0] m) 23) := ⟨_, rfl⟩
  have HM0 := hide (show Mv w.heap.size m 23 (fun j => if j < 0 then Value.slice (C (p j)) (ln (p j)) (D (p j)) else .slice none 0 0) W0 from by rw [hW0]; exact ⟨_, heap_new _ _, fun k hk => by rw [made_at _ _ _ hk]; simp⟩)
  have HB0 := hide (show Below w.heap.size w W0 from by rw [hW0]; exact (Below.refl w.heap.size w).alloc (Nat.le_refl _) _)
  go_enter Try.func52, Try.ntmps52
  go_wp2_with fail
  rw [← hW0]
  obtain ⟨g, hg⟩ : ∃ x, x = w.heap.size := ⟨_, rfl⟩
  rw [← hg]
  rw [← hg] at HM0
  have HG := hide (show w.heap.size ≤ g from by rw [hg]; exact Nat.le_refl _)
  clear hg hW0 mk
  go_loopg [6, 7, 13] m (fun g1 _ _ vi wr => ∃ k : Nat, vi = .int .i64 k ∧ k ≤ m ∧ m - k ≤ g1 ∧ Hid (Mv g m 23 (fun j => if j < k then Value.slice (C (p j)) (ln (p j)) (D (p j)) else .slice none 0 0) wr) ∧ Hid (Below w.heap.size w wr))
  case atStart => exact ⟨0, by go_num, by omega, by omega, HM0, HB0⟩
  case round =>
    obtain ⟨k, rfl, hk, hg1, HM, HB⟩ := hrel
    by_cases hlt : k < m
    · obtain ⟨b, o, rfl, _, hc0⟩ := (Ri.later (unhide HP) (unhide HB)).at hlt
      have hc : wr.cell? ⟨b, o + k, none⟩ = some (.int .i64 (p k : Int)) := hc0
      have hpk := unhide HPN k hlt
      obtain ⟨b2, o2, rfl, _, hc2⟩ := ((unhide HRv).later (unhide HB)).at hpk
      obtain ⟨z1, z2⟩ := (unhide HM).cell hlt
      simp only [Nat.lt_irrefl, if_false] at z1
      have j1 : (p k : Int) < (N : Int) := by omega
      have HM2 := hide (((unhide HM).set hlt (Value.slice (C (p k)) (ln (p k)) (D (p k)))).congr (G := fun j => if j < k + 1 then Value.slice (C (p j)) (ln (p j)) (D (p j)) else .slice none 0 0) (fun j hj => by
        by_cases e : j = k
        · subst e; simp
        · have : (j < k + 1) = (j < k) := by simp; omega
          simp only [e, this, if_false]))
      have HB2 := hide ((unhide HB).setCell (p := ⟨g, k, none⟩) (unhide HG) (Value.slice (C (p k)) (ln (p k)) (D (p k))))
      clear hc0 HM HB
      generalize p k = pk at *
      go_wp2
      go_roundg (m - (k + 1))
      case measure => omega
      case rel => exact ⟨k + 1, by go_num, by omega, by omega, HM2, HB2⟩
    · go_wp2
      go_ret
      obtain rfl : k = m := by omega
      refine ⟨g, rfl, ⟨fun j => C (p j), fun j => D (p j), ((unhide HM).congr (fun j hj => if_pos hj)).rv, fun j hj => Ri.later (unhide HRi (p j) (unhide HPN j hj)) (unhide HB)⟩, unhide HB⟩
end Go.Proofs.Ytabjbppekijfiaa
