import Derived.Test.YtkpkpebljkcmkaaDoorTrP
import Derived.Test.YtkpkpebljkcmkaaDoorShelfT
import Derived.Below
import Derived.WalkKit
import Derived.Deep.RegionHeld3
import Derived.Sort.BigQuietIn
import Derived.Handy
import Derived.Lib.LaidTab
import Derived.Lib.AppendIntMem
namespace Go.Proofs.YtkpkpebljkcmkaaDoor
open Go.RowKit

theorem hide {p : Prop} (h : p) : Hid p := h
theorem unhide {p : Prop} (h : Hid p) : p := h
theorem bl_t {w w1 w2 : World} (h : Below w.heap.size w w1) (h2 : Below w1.heap.size w1 w2) : Below w.heap.size w w2 := h.trans (h2.mono h.size)
theorem bl_drewN (w : World) (n : Nat) : Below w.heap.size w (w.drewN n) := (Below.refl _ w).trans ⟨rfl, rfl, rfl, Nat.le_refl _, fun _ _ => rfl⟩
theorem ret_bool {a b : Bool} (h : a = b) : Ending.returned (.bool a) = .returned (.bool b) := by rw [h]

/-- WHAT THE GLOBALS HOLD. -/
structure Glob (w : World) : Prop where
  big : 5 < w.heap.size
  mx : ∃ m, w.cell? ⟨0, 0, none⟩ = some (.int .i64 m)
  tb : Lib.TabIs Tryd.prog w "internal/strconv.uint64pow10" .u64 Lib.pow10Tab
theorem tab_later {w w' : World} (hbig : 5 < w.heap.size) (hb : Below w.heap.size w w') (h : Lib.TabIs Tryd.prog w "internal/strconv.uint64pow10" .u64 Lib.pow10Tab) : Lib.TabIs Tryd.prog w' "internal/strconv.uint64pow10" .u64 Lib.pow10Tab := by
  have hg : Tryd.prog.globalNamed "internal/strconv.uint64pow10" = some 3 := by kernel_rfl
  unfold Lib.TabIs World.var? at h ⊢
  rw [hg] at h ⊢
  simp only [Option.bind_some] at h ⊢
  rw [hb.block 3 (by omega)]
  exact h
theorem Glob.later {w w' : World} (h : Glob w) (hb : Below w.heap.size w w') : Glob w' := by
  have hbig := h.big
  obtain ⟨m, hm⟩ := h.mx
  exact ⟨Nat.lt_of_lt_of_le h.big hb.size, ⟨m, (hb.cell (p := ⟨0, 0, none⟩) (by show 0 < w.heap.size; omega)).trans hm⟩, tab_later hbig hb h.tb⟩

theorem cSplit (s : ByteArray) (c : UInt8) (w : World) (hs : s.size < 4294967281) (hg : Glob w) :
    Calls Tryd.prog 27 #[.string s, .string ⟨#[c]⟩] w fun e w' => e = .returned (.slice (some ⟨w.heap.size, 0, none⟩) (pcs s c).length (pcs s c).length) ∧ w' = w.alloc (.cells ((pcs s c).map Value.string).toArray 9) := by
  obtain ⟨m, hm⟩ := hg.mx
  rw [pcs_len]
  exact Any.strings_Split Tryd.lays146 (by kernel_rfl) s ⟨#[c]⟩ m w hs hm (Nat.le_refl _)
theorem cItoa (n : Nat) (w : World) (hn : n ≤ 281474976710655) (hg : Glob w) :
    Calls Tryd.prog 38 #[.int .i64 n] w fun e w' => e = .returned (.string (ba (Lib.decDigits n))) ∧ Below w.heap.size w w' := by
  refine (Any.strconv_Itoa Tryd.laysM171 (n : Int) (by omega) (by omega) w hg.tb).mono ?_
  rintro e w' ⟨rfl, k, os, rfl⟩
  refine ⟨?_, Lib.below_grow _ w (Nat.le_refl _) k os⟩
  rw [show Lib.itoa (n : Int) = Lib.decDigits n by unfold Lib.itoa; rw [if_neg (by omega)]; simp]
  rfl
end Go.Proofs.YtkpkpebljkcmkaaDoor
