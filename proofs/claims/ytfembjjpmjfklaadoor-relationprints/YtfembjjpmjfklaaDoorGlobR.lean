import Derived.Test.YtfembjjpmjfklaaDoorLawQ
import Derived.Lib.LaidTab
import Derived.Test.YtfembjjpmjfklaaDoorCards
import Derived.Test.YtfembjjpmjfklaaDoorTie
import Derived.MakeChecks
import Derived.Lib.LaidU8
import Derived.Shelf.LaysM
namespace Go.Proofs.YtfembjjpmjfklaaDoor
open Go.ChangeShapes Go.WideShapes Go.RowKit

theorem cells9g : Tryd.prog.cellsOf 9 = 1 := by kernel_rfl

theorem ba_ext {s t : ByteArray} (h : s.data.toList = t.data.toList) : s = t := by
  apply ByteArray.ext
  apply Array.ext'
  exact h

theorem sign_cell {W : World} (h : Lib.VarReads Tryd.prog W "larder/relation.signs" Rows.laid_larder_relation_signs) (i : Nat) (hi : i < 6) : W.cell? ⟨0, i, none⟩ = some (.string (sg i)) := by
  obtain ⟨g, t, cs, fuel, p, h1, h2, h3, h4⟩ := h
  have hg : Tryd.prog.globalNamed "larder/relation.signs" = some 0 := by kernel_rfl
  obtain rfl : g = 0 := Option.some.inj (h1.symm.trans hg)
  have ht : (Tryd.prog.globals[0]?).map (·.type) = some 102 := by kernel_rfl
  obtain rfl : t = 102 := Option.some.inj (h2.symm.trans ht)
  obtain ⟨f2, d, q, e1, e2⟩ := Lib.array_elem Tryd.underlying102 h4 i hi
  rw [cells9g, Nat.mul_one] at e2
  obtain ⟨s, e3, e4, _⟩ := DataW.trod_string Tryd.underlying9 e2
  have hc : cs.toList[i]? = some (.string s) := by
    have := congrArg (·[0]?) e3
    simpa [List.getElem?_take, List.getElem?_drop] using this
  have hv := World.var?_cell hg h3 i
  rw [hv, ← Array.getElem?_toList, hc]
  have hd : d = .lit (.string s.data.toList) := (Prod.mk.inj e4).1
  subst hd
  have key : ∀ (l : List UInt8), (some (.lit (.string l)) : Option (DataW Unit)) = some (.lit (.string s.data.toList)) → s.data.toList = l := fun l h => by
    injection h with h
    injection h with h
    injection h with h
    exact h.symm
  have hs : s = sg i := by
    match i, hi with
    | 0, _ => exact ba_ext (key _ e1)
    | 1, _ => exact ba_ext (key _ e1)
    | 2, _ => exact ba_ext (key _ e1)
    | 3, _ => exact ba_ext (key _ e1)
    | 4, _ => exact ba_ext (key _ e1)
    | 5, _ => exact ba_ext (key _ e1)
  rw [hs]

theorem glob_of {W : World} (hl : laidMetH Tryd.prog Rows.relationPrintsRow.laid W) (hs : W.ShapedOpen Tryd.prog) : Glob W := by
  rw [Go.MakeChecks.laidMetH_plain _ _ _ (by kernel_rfl)] at hl
  have h0 : (((begin Tryd.prog (fun _ _ => 0) default).world.heap[3]?).bind Obj.row?).isSome = true := by kernel_rfl
  obtain ⟨⟨zero, t⟩, h1⟩ := Option.isSome_iff_exists.1 h0
  obtain ⟨cs, hh, -⟩ := hs.1 3 zero t (of_decide_eq_true (by kernel_rfl)) h1
  have hbig : 3 < W.heap.size := by
    by_cases hl : 3 < W.heap.size
    · exact hl
    · rw [Array.getElem?_eq_none (by omega)] at hh
      cases hh
  refine ⟨hbig, fun i hi => sign_cell (Lib.laidMet.reads hl List.mem_cons_self) i hi, ?_⟩
  exact Go.Proofs.cell_of_shapedOpen_int (zero := #[.int .i64 0]) (t := 3) hs (of_decide_eq_true (by kernel_rfl)) (by kernel_rfl) rfl (by kernel_rfl) (by kernel_rfl) Tryd.underlying3

end Go.Proofs.YtfembjjpmjfklaaDoor
