import Derived.Test.YtjmomdnlibfbkaaDoorAcW
import Derived.Test.YtjmomdnlibfbkaaDoorCards
import Derived.Test.YtjmomdnlibfbkaaDoorTie
import Derived.MakeChecks
import Derived.Lib.LaidU8
import Derived.Lib.LaidTab
import Derived.Shelf.LaysM
import Derived.LaidLaws
import Derived.Shelf.Vars
namespace Go.Proofs.YtjmomdnlibfbkaaDoor
open Go.ChangeShapes Go.WideShapes Go.RowKit

theorem lt_of_reads {W : World} {n : String} {d : DataW Unit} {k : Nat} (h : Lib.VarReads Tryd.prog W n d) (hg : Tryd.prog.globalNamed n = some k) : k < W.heap.size := by
  obtain ⟨g, t, cs, fuel, p, h1, h2, h3, h4⟩ := h
  unfold World.var? at h3
  rw [hg] at h3
  simp only [Option.bind_some] at h3
  by_cases hl : k < W.heap.size
  · exact hl
  · rw [Array.getElem?_eq_none (by omega)] at h3
    cases h3
theorem glob_of {W : World} (hl : laidMetH Tryd.prog Rows.archiveUntarsRow.laid W) (hs : W.ShapedOpen Tryd.prog) : Gtb W := by
  rw [Go.MakeChecks.laidMetH_plain _ _ _ (by kernel_rfl)] at hl
  have h1 := Lib.laidMet.reads hl (n := "unicode/utf8.acceptRanges") (d := Rows.laid_unicode_utf8_acceptRanges) (List.mem_cons_of_mem _ (List.mem_cons_of_mem _ (List.mem_cons_of_mem _ List.mem_cons_self)))
  have h2 := Lib.laidMet.reads hl (n := "internal/strconv.uint64pow10") (d := Rows.laid_internal_strconv_uint64pow10) (List.mem_cons_of_mem _ (List.mem_cons_of_mem _ List.mem_cons_self))
  refine ⟨⟨lt_of_reads h1 (by kernel_rfl), ?_⟩, ?_⟩
  · exact Go.Proofs.cell_of_shapedOpen_int (zero := #[.int .i64 0]) (t := 3) hs (of_decide_eq_true (by kernel_rfl)) (by kernel_rfl) rfl (by kernel_rfl) (by kernel_rfl) Tryd.underlying3
  · obtain ⟨g, t, cs, fuel, p, g1, g2, g3, g4⟩ := h2
    have hg : Tryd.prog.globalNamed "internal/strconv.uint64pow10" = some 1 := by kernel_rfl
    obtain rfl := Option.some.inj (hg.symm.trans g1)
    have hty : (Tryd.prog.globals[1]?).map (·.type) = some 100 := by kernel_rfl
    obtain rfl := Option.some.inj (hty.symm.trans g2)
    unfold Lib.TabIs
    rw [g3]
    have e := Lib.cells_of_tab (k := .u64) (zs := Lib.pow10Tab) (n := 20) (e := 94) Tryd.underlying100 Tryd.underlying94 (by kernel_rfl) (by kernel_rfl) g4
    rw [← e]
end Go.Proofs.YtjmomdnlibfbkaaDoor
