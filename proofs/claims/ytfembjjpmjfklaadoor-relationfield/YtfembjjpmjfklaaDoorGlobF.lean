import Derived.Test.YtfembjjpmjfklaaDoorGlobA
namespace Go.Proofs.YtfembjjpmjfklaaDoor
open Go.ChangeShapes Go.WideShapes Go.RowKit

theorem glob_ofF {W : World} (hl : laidMetH Tryd.prog Rows.relationFieldRow.laid W) (hs : W.ShapedOpen Tryd.prog) : Glob W := by
  rw [Go.MakeChecks.laidMetH_plain _ _ _ (by kernel_rfl)] at hl
  refine ⟨last_lt (Lib.laidMet.reads hl List.mem_cons_self), fun i hi => sign_cell (Lib.laidMet.reads hl (List.mem_cons_of_mem _ List.mem_cons_self)) i hi, ?_⟩
  exact Go.Proofs.cell_of_shapedOpen_int (zero := #[.int .i64 0]) (t := 3) hs (of_decide_eq_true (by kernel_rfl)) (by kernel_rfl) rfl (by kernel_rfl) (by kernel_rfl) Tryd.underlying3

end Go.Proofs.YtfembjjpmjfklaaDoor
