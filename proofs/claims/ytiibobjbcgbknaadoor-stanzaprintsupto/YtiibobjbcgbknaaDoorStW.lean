import Derived.Test.YtiibobjbcgbknaaDoorStT
import Derived.Test.YtiibobjbcgbknaaDoorStV
namespace Go.Proofs.YtiibobjbcgbknaaDoor
open Go.RowKit

/-- A ROW AS IT LIES. -/
def Cl (W : World) (pa : Option Addr) (cs : List Value) : Prop := 0 < cs.length → ∃ b o, pa = some ⟨b, o, none⟩ ∧ ∀ i u, cs[i]? = some u → W.cell? ⟨b, o + i, none⟩ = some u
theorem Cl.later {W W2 : World} {pa : Option Addr} {cs : List Value} (h : Cl W pa cs) (hb : Below W.heap.size W W2) : Cl W2 pa cs := fun h0 => by
  obtain ⟨b, o, h1, h2⟩ := h h0
  refine ⟨b, o, h1, fun i u hi => ?_⟩
  have hc := h2 i u hi
  have hlt : b < W.heap.size := by
    by_cases hl : b < W.heap.size
    · exact hl
    · rw [World.cell?] at hc
      simp [Array.getElem?_eq_none (Nat.le_of_not_lt hl)] at hc
  exact (hb.cell (p := ⟨b, o + i, none⟩) hlt).trans hc
theorem Cl.of_owns {W : World} {base : Nat} {e : TypeId} {pa : Option Addr} {n m c : Nat} {cs : List Value} (h : W.ownsRow base e 1 (.slice pa n c) m cs) : Cl W pa cs := by
  rcases h.2 with ⟨h1, h2⟩ | ⟨g, cap, cur, h1, _, hg, _, _, _, h6⟩
  · intro h0
    have := h.1
    subst h2
    simp at this
    subst this
    simp at h0
  · cases h1
    intro _
    refine ⟨g, 0, rfl, fun i u hi => ?_⟩
    rw [Nat.zero_add]
    exact (cell_blk hg i).1.trans (take_get h6 hi)

set_option maxRecDepth 100000 in
set_option maxHeartbeats 2000000 in
theorem texts_same (l : List Bs) (pa qa : Option Addr) (pc qc : Nat) (w : World) (hl : l.length ≤ 16777216) (h1 : Cl w pa (strs l)) (h2 : Cl w qa (strs l)) :
    Calls Tryd.prog 33 #[.slice pa l.length pc, .slice qa l.length qc] w fun e w' => e = .returned (.bool true) ∧ Below w.heap.size w w' := by
  have H1 := hide h1
  have H2 := hide h2
  clear h1 h2
  go_enter Tryd.func33, Tryd.ntmps33
  go_wp2
  go_loopw [5] (fun iv wr => ∃ k : Nat, k ≤ l.length ∧ iv = .int .i64 k ∧ Hid (Below w.heap.size w wr)) (fun iv _ => l.length - (intOf iv).toNat)
  case atStart => exact ⟨0, Nat.zero_le _, rfl, hide (Below.refl _ _)⟩
  case round =>
    obtain ⟨k, hk, rfl, HB⟩ := hrel
    by_cases hlt : k < l.length
    · have hs : (strs l)[k]? = some (.string (ba l[k])) := by simp [strs, hlt]
      have h0 : 0 < (strs l).length := by simp [strs]; omega
      obtain ⟨b, o, rfl, hc1⟩ := (unhide H1).later (unhide HB) h0
      obtain ⟨b2, o2, rfl, hc2⟩ := (unhide H2).later (unhide HB) h0
      have d1 := hc1 k _ hs
      have d2 := hc2 k _ hs
      generalize ba l[k] = tk at *
      clear hc1 hc2 hs h0
      go_wp2
      go_region
      go_wp2
      go_roundw
      case rel => exact ⟨k + 1, by omega, by go_num, hide ((unhide HB).drew)⟩
      case measure => simp [intOf]; omega
    · go_wp2
      go_ret
      exact ⟨rfl, unhide HB⟩

set_option maxRecDepth 100000 in
set_option maxHeartbeats 2000000 in
theorem numbers_same (l : List Nat) (pa qa : Option Addr) (pc qc : Nat) (w : World) (hl : l.length ≤ 16777216) (h1 : Cl w pa (ints l)) (h2 : Cl w qa (ints l)) :
    Calls Tryd.prog 34 #[.slice pa l.length pc, .slice qa l.length qc] w fun e w' => e = .returned (.bool true) ∧ Below w.heap.size w w' := by
  have H1 := hide h1
  have H2 := hide h2
  clear h1 h2
  go_enter Tryd.func34, Tryd.ntmps34
  go_wp2
  go_loopw [5] (fun iv wr => ∃ k : Nat, k ≤ l.length ∧ iv = .int .i64 k ∧ Hid (Below w.heap.size w wr)) (fun iv _ => l.length - (intOf iv).toNat)
  case atStart => exact ⟨0, Nat.zero_le _, rfl, hide (Below.refl _ _)⟩
  case round =>
    obtain ⟨k, hk, rfl, HB⟩ := hrel
    by_cases hlt : k < l.length
    · have hs : (ints l)[k]? = some (.int .i64 (l[k] : Int)) := by simp [ints, hlt]
      have h0 : 0 < (ints l).length := by simp [ints]; omega
      obtain ⟨b, o, rfl, hc1⟩ := (unhide H1).later (unhide HB) h0
      obtain ⟨b2, o2, rfl, hc2⟩ := (unhide H2).later (unhide HB) h0
      have d1 := hc1 k _ hs
      have d2 := hc2 k _ hs
      generalize (l[k] : Int) = tk at *
      clear hc1 hc2 hs h0
      go_wp2
      go_region
      go_wp2
      go_roundw
      case rel => exact ⟨k + 1, by omega, by go_num, hide ((unhide HB).drew)⟩
      case measure => simp [intOf]; omega
    · go_wp2
      go_ret
      exact ⟨rfl, unhide HB⟩

end Go.Proofs.YtiibobjbcgbknaaDoor
