import Derived.Test.YtjmomdnlibfbkaaDoorAbX
import Derived.Test.YtjmomdnlibfbkaaDoorCards
import Derived.Test.YtjmomdnlibfbkaaDoorTie
import Derived.MakeChecks
import Derived.Lib.LaidU8
import Derived.Lib.LaidTab
import Derived.Shelf.LaysM
import Derived.LaidLaws
import Derived.Shelf.Vars
namespace Go.Proofs.YtjmomdnlibfbkaaDoor
open Go.ChangeShapes Go.WideShapes Go.RowKit

theorem lt_of_reads {W : World} {n : String} {d : DataW Unit} {k : Nat} (h : Lib.VarReads Tryd.prog W n d) (hg : Tryd.prog.globalNamed n = some k) : k < W.heap.size := by
  obtain ⟨g, t, cs, fuel, p, h1, h2, h3, h4⟩ := h
  unfold World.var? at h3
  rw [hg] at h3
  simp only [Option.bind_some] at h3
  by_cases hl : k < W.heap.size
  · exact hl
  · rw [Array.getElem?_eq_none (by omega)] at h3
    cases h3
theorem glob_of {W : World} (hl : laidMetH Tryd.prog Rows.archiveBackRow.laid W) (hs : W.ShapedOpen Tryd.prog) : Glob W := by
  rw [Go.MakeChecks.laidMetH_plain _ _ _ (by kernel_rfl)] at hl
  have h1 := Lib.laidMet.reads hl (n := "unicode/utf8.acceptRanges") (d := Rows.laid_unicode_utf8_acceptRanges) List.mem_cons_self
  refine ⟨lt_of_reads h1 (by kernel_rfl), ?_⟩
  exact Go.Proofs.cell_of_shapedOpen_int (zero := #[.int .i64 0]) (t := 3) hs (of_decide_eq_true (by kernel_rfl)) (by kernel_rfl) rfl (by kernel_rfl) (by kernel_rfl) Tryd.underlying3
end Go.Proofs.YtjmomdnlibfbkaaDoor
