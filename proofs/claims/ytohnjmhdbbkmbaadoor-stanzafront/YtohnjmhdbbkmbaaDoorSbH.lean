import Derived.Test.YtohnjmhdbbkmbaaDoorSbC
namespace Go.Proofs.YtohnjmhdbbkmbaaDoor
open Go.RowKit

set_option maxRecDepth 100000 in
set_option maxHeartbeats 2000000 in
theorem eqTexts_yes (l : List Bs) (pa qa : Option Addr) (pc qc : Nat) (w : World) (hl : l.length ≤ 9223372036854775807) (h1 : Cl w pa (strs l)) (h2 : Cl w qa (strs l)) :
    Calls Tryd.prog 75 #[.slice pa l.length pc, .slice qa l.length qc] w fun e w' => e = .returned (.bool true) ∧ Below w.heap.size w w' := by
  have H1 := hide h1
  have H2 := hide h2
  clear h1 h2
  go_enter Tryd.func75, Tryd.ntmps75
  go_wp2
  go_loopw [13] (fun iv wr => ∃ k : Nat, k ≤ l.length ∧ iv = .int .i64 k ∧ Hid (Below w.heap.size w wr)) (fun iv _ => l.length - (intOf iv).toNat)
  case atStart => exact ⟨0, Nat.zero_le _, rfl, hide (Below.refl _ _)⟩
  case round =>
    obtain ⟨k, hk, rfl, HB⟩ := hrel
    by_cases hlt : k < l.length
    · have hs : (strs l)[k]? = some (.string (ba l[k])) := by simp [strs, hlt]
      have h0 : 0 < (strs l).length := by simp [strs]; omega
      obtain ⟨b, o, rfl, hc1⟩ := (unhide H1).later (unhide HB) h0
      obtain ⟨b2, o2, rfl, hc2⟩ := (unhide H2).later (unhide HB) h0
      have d1 := hc1 k _ hs
      have d2 := hc2 k _ hs
      generalize ba l[k] = tk at *
      clear hc1 hc2 hs h0
      go_wp2
      go_region
      go_wp2
      go_roundw
      case rel => exact ⟨k + 1, by omega, by go_num, hide ((unhide HB).drew)⟩
      case measure => simp [intOf]; omega
    · go_wp2
      go_ret
      exact ⟨rfl, unhide HB⟩

set_option maxRecDepth 100000 in
set_option maxHeartbeats 2000000 in
theorem sameField_yes (s : ByteArray) (l : List Bs) (pa qa : Option Addr) (pc qc : Nat) (x y : Value) (w : World) (hl : l.length ≤ 9223372036854775807) (h1 : Cl w pa (strs l)) (h2 : Cl w qa (strs l)) :
    Calls Tryd.prog 60 #[.agg #[.string s, .slice pa l.length pc, x], .agg #[.string s, .slice qa l.length qc, y]] w fun e w' => e = .returned (.bool true) ∧ Below w.heap.size w w' := by
  have b1 : Below w.heap.size w (w.alloc (.cells #[.string s, .slice pa l.length pc, x] 49)) := (Below.refl _ _).alloc (Nat.le_refl _) _
  have b2 : Below w.heap.size w ((w.alloc (.cells #[.string s, .slice pa l.length pc, x] 49)).alloc (.cells #[.string s, .slice qa l.length qc, y] 49)) := b1.alloc (by simp) _
  have c1 := hide (eqTexts_yes l pa qa pc qc _ hl (h1.later b2) (h2.later b2))
  have B2 := hide b2
  clear b1 b2 h1 h2
  go_enter Tryd.func60, Tryd.ntmps60
  go_wp2_with (go_at_call 75; refine (unhide c1).mono ?_; rintro e w2 ⟨rfl, hb⟩; have HB := hide (bl_t (unhide B2) hb); clear hb)
  go_ret
  exact ⟨rfl, unhide HB⟩

end Go.Proofs.YtohnjmhdbbkmbaaDoor
