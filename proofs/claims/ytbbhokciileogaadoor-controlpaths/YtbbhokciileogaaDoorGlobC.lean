import Derived.Test.YtbbhokciileogaaDoorLawP
import Derived.Test.YtbbhokciileogaaDoorCards
import Derived.Test.YtbbhokciileogaaDoorTie
import Derived.MakeChecks
import Derived.Lib.LaidU8
import Derived.Lib.LaidTab
import Derived.Shelf.LaysM
namespace Go.Proofs.YtbbhokciileogaaDoor
open Go.ChangeShapes Go.WideShapes Go.RowKit

theorem last_lt {W : World} (h : Lib.VarReads Tryd.prog W "unicode/utf8.acceptRanges" Rows.laid_unicode_utf8_acceptRanges) : 2 < W.heap.size := by
  obtain ⟨g, t, cs, fuel, p, h1, h2, h3, h4⟩ := h
  have hg : Tryd.prog.globalNamed "unicode/utf8.acceptRanges" = some 2 := by kernel_rfl
  unfold World.var? at h3
  rw [hg] at h3
  simp only [Option.bind_some] at h3
  by_cases hl : 2 < W.heap.size
  · exact hl
  · rw [Array.getElem?_eq_none (by omega)] at h3
    cases h3

theorem glob_of {W : World} (hl : laidMetH Tryd.prog Rows.controlPathsRow.laid W) (hs : W.ShapedOpen Tryd.prog) : Glob W := by
  rw [Go.MakeChecks.laidMetH_plain _ _ _ (by kernel_rfl)] at hl
  refine ⟨last_lt (Lib.laidMet.reads hl List.mem_cons_self), ?_⟩
  exact Go.Proofs.cell_of_shapedOpen_int (zero := #[.int .i64 0]) (t := 3) hs (of_decide_eq_true (by kernel_rfl)) (by kernel_rfl) rfl (by kernel_rfl) (by kernel_rfl) Tryd.underlying3

end Go.Proofs.YtbbhokciileogaaDoor
