import Derived.Test.YtlknhpeeemhfgaaGreatDoorProg
import Derived.Below
import Derived.WalkKit
import Derived.Deep.RegionHeld3
import Derived.Sort.BigQuietIn
import Derived.Handy
import Derived.Laws.IdiomStrings
import Derived.Deep.QuietTactic
import Derived.BigQuiet
import Derived.Deep.RegionWith
import Derived.WalkSpells
import Derived.Maps.OwnSet
import Derived.DeepKeys3
import Derived.Laws.MakeOwn
import Derived.StringKeys
namespace Go.Proofs.YtlknhpeeemhfgaaGreatDoor
open Go.RowKit

theorem hide {p : Prop} (h : p) : Hid p := h
theorem unhide {p : Prop} (h : Hid p) : p := h
theorem bl_t {w w1 w2 : World} (h : Below w.heap.size w w1) (h2 : Below w1.heap.size w1 w2) : Below w.heap.size w w2 := h.trans (h2.mono h.size)
theorem bl_drewN (w : World) (n : Nat) : Below w.heap.size w (w.drewN n) := (Below.refl _ w).trans ⟨rfl, rfl, rfl, Nat.le_refl _, fun _ _ => rfl⟩

theorem look50 (w : World) (s : ByteArray) (hs : s.size ≤ maxLen) : (Instr.lookup 50 (.map none) (.string s) false).run Tryz.prog w = .ok (.slice none 0 0) w := by
  have := Maps.look_nil (w := w) false (Maps.string_keyed (P := Tryz.prog) Tryz.underlying9) Tryz.underlying50 (Tryz.zeroValue40 w) (Go.WideMaps.keyOf_string_mk Tryz.underlying9 hs)
  simpa using this

theorem look49 (w : World) : (Instr.lookup 49 (.map none) (.agg #[.string ⟨#[97, 97]⟩, .string ⟨#[49]⟩]) true).run Tryz.prog w = .ok (.tuple #[.int .i64 0, .bool false]) w := by
  have hc : (Instr.checkKey true 10000 35 (.agg #[.string ⟨#[97, 97]⟩, .string ⟨#[49]⟩])).run Tryz.prog w = .ok () w :=
    run_checkKey_deep (P := Tryz.prog) true 9990 10 35 (by kernel_rfl) w 20 _ [.string [97, 97], .string [49]] (by kernel_rfl) (by kernel_rfl)
  have hu : ∃ d, Tryz.prog.underlying 35 = some d := ⟨_, Tryz.underlying35⟩
  obtain ⟨d, hd⟩ := hu
  have hf : (Instr.findKey 35 (.agg #[.string ⟨#[97, 97]⟩, .string ⟨#[49]⟩]) []).run Tryz.prog w = .ok none w := by
    simp [Instr.findKey, run_underlying hd, Instr.findNow, Result.andThen]
  simp [Instr.lookup, run_underlying Tryz.underlying49, hc, hf, Tryz.zeroValue3 w, Result.andThen]

theorem make_nil {P : Program} (t e : TypeId) (ht : P.underlying t = some (.slice e)) (h : ∃ i z, P.info? e = some i ∧ i.zero = some z) (w : World) :
    (Instr.makeSlice t (.int .i64 0) (.int .i64 0)).run P w = .ok (.slice (some ⟨w.heap.size, 0, none⟩) 0 0) (w.alloc (.cells #[] e)) := by
  obtain ⟨i, z, hi, hz⟩ := h
  have := run_make (P := P) w t e i z ht hi hz .i64 .i64 0 0 (Int.le_refl _) (Int.le_refl _) (by simp) (by decide)
  rw [this]
  simp [madeCells, Array.range_zero']
theorem info_of {P : Program} {e : TypeId} (h : ((P.info? e).bind (fun i => i.zero)).isSome = true) : ∃ i z, P.info? e = some i ∧ i.zero = some z := by
  cases hi : P.info? e with
  | none => simp [hi] at h
  | some i =>
    cases hz : i.zero with
    | none => simp [hi, hz] at h
    | some z => exact ⟨i, z, rfl, hz⟩
set_option maxRecDepth 100000 in
theorem make71 (w : World) : (Instr.makeSlice 73 (.int .i64 0) (.int .i64 0)).run Tryz.prog w = .ok (.slice (some ⟨w.heap.size, 0, none⟩) 0 0) (w.alloc (.cells #[] 75)) :=
  make_nil 73 75 Tryz.underlying73 (info_of (by kernel_rfl)) w
theorem make40 (w : World) : (Instr.makeSlice 40 (.int .i64 0) (.int .i64 0)).run Tryz.prog w = .ok (.slice (some ⟨w.heap.size, 0, none⟩) 0 0) (w.alloc (.cells #[] 3)) :=
  make_nil 40 3 Tryz.underlying40 (info_of (by kernel_rfl)) w
theorem make25 (w : World) : (Instr.makeSlice 25 (.int .i64 0) (.int .i64 0)).run Tryz.prog w = .ok (.slice (some ⟨w.heap.size, 0, none⟩) 0 0) (w.alloc (.cells #[] 9)) :=
  make_nil 25 9 Tryz.underlying25 (info_of (by kernel_rfl)) w

abbrev tab0 : Obj := .cells #[.slice none 0 0, .map none, .map none, .map none, .map none] 52

set_option maxRecDepth 100000 in
set_option maxHeartbeats 1000000 in
theorem orNothing_nil (w : World) :
    Calls Tryz.prog 13 #[.pointer none] w fun e w' => e = .returned (.pointer (some ⟨w.heap.size, 0, none⟩)) ∧ w' = w.alloc tab0 := by
  go_enter Tryz.func13, Tryz.ntmps13
  go_wp2
  go_ret
  exact ⟨rfl, rfl⟩

set_option maxRecDepth 100000 in
set_option maxHeartbeats 1000000 in
theorem Len_nil (w : World) :
    Calls Tryz.prog 7 #[.pointer none] w fun e w' => e = .returned (.int .i64 0) ∧ w' = w.alloc tab0 := by
  go_enter Tryz.func7, Tryz.ntmps7
  go_wp2_with (go_at_call 13; refine (orNothing_nil _).mono ?_; rintro e w' ⟨rfl, rfl⟩)
  go_ret
  exact ⟨rfl, rfl⟩

set_option maxRecDepth 100000 in
set_option maxHeartbeats 1000000 in
theorem Users_nil (w : World) :
    Calls Tryz.prog 11 #[.pointer none, .int .i64 0] w fun e w' => e = .returned (.slice none 0 0) ∧ Below w.heap.size w w' := by
  go_enter Tryz.func11, Tryz.ntmps11
  go_wp2_with (go_at_call 7; refine (Len_nil _).mono ?_; rintro e w' ⟨rfl, rfl⟩)
  go_ret
  exact ⟨rfl, (Below.refl _ _).alloc (Nat.le_refl _) _⟩

set_option maxRecDepth 100000 in
set_option maxHeartbeats 1000000 in
theorem CloneI_nil (w : World) :
    Calls Tryz.prog 16 #[.slice none 0 0] w fun e w' => e = .returned (.slice none 0 0) ∧ w' = w := by
  have hnil : ∀ w, (binOp .eql 40 (.slice none 0 0) (.slice none 0 0)).run Tryz.prog w = .ok (.bool true) w := fun w => run_eql_nil_slice w 40 3 none 0 0 0 0 Tryz.underlying40
  go_enter Tryz.func16, Tryz.ntmps16
  go_wp2
  go_ret
  exact ⟨rfl, rfl⟩

set_option maxRecDepth 100000 in
set_option maxHeartbeats 1000000 in
theorem Providers_nil (w : World) :
    Calls Tryz.prog 9 #[.pointer none, .string ⟨#[97, 97]⟩] w fun e w' => e = .returned (.slice none 0 0) ∧ Below w.heap.size w w' := by
  have hlk := fun w => look50 w ⟨#[97, 97]⟩ (by decide)
  go_enter Tryz.func9, Tryz.ntmps9
  go_wp2_with (first | (go_at_call 13; refine (orNothing_nil _).mono ?_; rintro e w' ⟨rfl, rfl⟩) | (go_at_call 16; refine (CloneI_nil _).mono ?_; rintro e w' ⟨rfl, rfl⟩))
  go_ret
  exact ⟨rfl, (Below.refl _ _).alloc (Nat.le_refl _) _⟩

set_option maxRecDepth 100000 in
set_option maxHeartbeats 1000000 in
theorem Names_nil (w : World) :
    Calls Tryz.prog 6 #[.pointer none] w fun e w' => e = .returned (.func (.func 14) #[] #[.pointer (some ⟨w.heap.size + 1, 0, none⟩)]) ∧ w' = (w.alloc tab0).alloc (.cells #[.slice none 0 0] 48) := by
  go_enter Tryz.func6, Tryz.ntmps6
  go_wp2_with (go_at_call 13; refine (orNothing_nil _).mono ?_; rintro e w' ⟨rfl, rfl⟩)
  go_ret
  exact ⟨rfl, rfl⟩

end Go.Proofs.YtlknhpeeemhfgaaGreatDoor
