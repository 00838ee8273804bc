/-
  NARROWER THAN 'FOR EVERY INPUT', by the rows' own cells (each row's printed sentence says how): RelationOne: laid · RelationAtom: laid · RelationField: laid · RelationPrints: laid · RelationMeets: laid.
  DERIVED. THE GIVEN ROWS OF THIS SEAT. 5 by the template 'for every input the law returns true; each argument reads behind the call as it read before'; 0 by the template 'total and deterministic' (their statements: YtfembjjpmjfklaaDoorTotals.lean).
  GIVEN WITH THE SEED: the statements are not yours to turn. If you find one false, say at which input.
  Laid BY PROGRAM, IN A SANDBOX (cutbox-rows.mjs): the forced cells as the released guide's own fill.sh prints them over the translation 69c335e79fd96783… (all of the seat's roots in one cut). By AI agents, Wed Nov 11 2026. No macro, syntax, notation, axiom, sorry.
-/
import Derived.Test.YtfembjjpmjfklaaDoorChecked
import GoSem.PinnedTables
import GoSem.Claim
import GoSem.ClaimJoined
import GoSem.ClaimMapViews
import Derived.JoinedTies
import Derived.KernelRfl
namespace Go.Proofs.YtfembjjpmjfklaaDoor
/- THE CELL 'sum', in the pinned program and in every row, IS THE sha256 OF THE DUMP (.gsa) THAT YtfembjjpmjfklaaDoorProg.lean LOADS. Nothing in Lean hashes anything: it is a label: what it is worth is what the hold of that sum in a sandbox is worth. -/
noncomputable def Tryd.pinned : Pinned := { name := "ytfembjjpmjfklaadoor", sum := "69c335e79fd96783e3359b78210764e8135c5afe14a313bc322860f72d473546", checked := Tryd.checked }
namespace Rows
def none {H : Type} : Left H := { results := [], args := [] }

/- WHAT THE LISTED PACKAGE-LEVEL VARIABLES READ AS WHEN THE CALL BEGINS. Each datum BY PROGRAM (the guide's laid-datum.mjs) off the statement by which the dump's own 'gosem.cut.vars' lays the variable. In a bare row this is a premise. The card (YtfembjjpmjfklaaDoorCards.lean) ties it to the program's text. -/
def laid_unicode_utf8_acceptRanges {H : Type} : DataW H := .agg [.agg [.lit (.int .u8 128), .lit (.int .u8 191)], .agg [.lit (.int .u8 160), .lit (.int .u8 191)], .agg [.lit (.int .u8 128), .lit (.int .u8 159)], .agg [.lit (.int .u8 144), .lit (.int .u8 191)], .agg [.lit (.int .u8 128), .lit (.int .u8 143)], .agg [.lit (.int .u8 0), .lit (.int .u8 0)], .agg [.lit (.int .u8 0), .lit (.int .u8 0)], .agg [.lit (.int .u8 0), .lit (.int .u8 0)], .agg [.lit (.int .u8 0), .lit (.int .u8 0)], .agg [.lit (.int .u8 0), .lit (.int .u8 0)], .agg [.lit (.int .u8 0), .lit (.int .u8 0)], .agg [.lit (.int .u8 0), .lit (.int .u8 0)], .agg [.lit (.int .u8 0), .lit (.int .u8 0)], .agg [.lit (.int .u8 0), .lit (.int .u8 0)], .agg [.lit (.int .u8 0), .lit (.int .u8 0)], .agg [.lit (.int .u8 0), .lit (.int .u8 0)]]
def laid_larder_relation_signs {H : Type} : DataW H := .agg [.lit (.string []), .lit (.string [60, 60]), .lit (.string [60, 61]), .lit (.string [61]), .lit (.string [62, 61]), .lit (.string [62, 62])]
/-- One of Go's own tables, pinned by name: the form's constant. -/
def laid_unicode_utf8_first : DataW Unit := Go.Pinned.utf8First

/-- 'larderlaw02.RelationOne': WHATEVER THE INPUT: true; the input reads as it did. -/
def relationOneSpec : ChangeSpec := { name := "relationOne", fn := fun _ => fun
  | [d] => { results := [.lit (.bool true)], args := [d] }
  | _ => none }
def relationOneRow : OpenClaim := { program := "ytfembjjpmjfklaadoor", sum := "69c335e79fd96783e3359b78210764e8135c5afe14a313bc322860f72d473546", func := "larder/larderlaw02.RelationOne", spec := "relationOne", inPlace := ["internal/bytealg.IndexByteString", "internal/bytealg.IndexString", "internal/bytealg.CountString", "internal/abi.NoEscape", "internal/bytealg.MakeNoZero"], unfollowed := true, recurses := true, named := ["unicode/utf8.first", "unicode/utf8.acceptRanges", "internal/bytealg.MaxLen", "larder/relation.signs"], apart := false, laid := [("unicode/utf8.acceptRanges", laid_unicode_utf8_acceptRanges), ("larder/relation.signs", laid_larder_relation_signs), ("unicode/utf8.first", laid_unicode_utf8_first)] }
def RelationOneSaid : Prop := relationOneRow.holds Tryd.pinned (OpenSpec.ofChange relationOneSpec)

/-- ITS FALSE NEIGHBOUR: 'it returns false'. Refute it at one input. -/
def relationOneWrong : ChangeSpec := { name := "relationOne", fn := fun _ => fun
  | [d] => { results := [.lit (.bool false)], args := [d] }
  | _ => none }
def RelationOneWrongFalsely : Prop := relationOneRow.holds Tryd.pinned (OpenSpec.ofChange relationOneWrong)

/-- 'larderlaw02.RelationAtom': WHATEVER THE INPUT: true; the input reads as it did. -/
def relationAtomSpec : ChangeSpec := { name := "relationAtom", fn := fun _ => fun
  | [d] => { results := [.lit (.bool true)], args := [d] }
  | _ => none }
def relationAtomRow : OpenClaim := { program := "ytfembjjpmjfklaadoor", sum := "69c335e79fd96783e3359b78210764e8135c5afe14a313bc322860f72d473546", func := "larder/larderlaw02.RelationAtom", spec := "relationAtom", inPlace := ["internal/bytealg.IndexByteString", "internal/bytealg.IndexString", "internal/bytealg.CountString"], unfollowed := true, recurses := true, named := ["unicode/utf8.first", "unicode/utf8.acceptRanges", "larder/relation.signs", "internal/bytealg.MaxLen"], apart := false, laid := [("unicode/utf8.acceptRanges", laid_unicode_utf8_acceptRanges), ("larder/relation.signs", laid_larder_relation_signs), ("unicode/utf8.first", laid_unicode_utf8_first)] }
def RelationAtomSaid : Prop := relationAtomRow.holds Tryd.pinned (OpenSpec.ofChange relationAtomSpec)

/-- ITS FALSE NEIGHBOUR: 'it returns false'. Refute it at one input. -/
def relationAtomWrong : ChangeSpec := { name := "relationAtom", fn := fun _ => fun
  | [d] => { results := [.lit (.bool false)], args := [d] }
  | _ => none }
def RelationAtomWrongFalsely : Prop := relationAtomRow.holds Tryd.pinned (OpenSpec.ofChange relationAtomWrong)

/-- 'larderlaw02.RelationField': WHATEVER THE INPUT: true; the input reads as it did. -/
def relationFieldSpec : ChangeSpec := { name := "relationField", fn := fun _ => fun
  | [d] => { results := [.lit (.bool true)], args := [d] }
  | _ => none }
def relationFieldRow : OpenClaim := { program := "ytfembjjpmjfklaadoor", sum := "69c335e79fd96783e3359b78210764e8135c5afe14a313bc322860f72d473546", func := "larder/larderlaw02.RelationField", spec := "relationField", inPlace := ["internal/bytealg.CountString", "internal/bytealg.IndexByteString", "internal/bytealg.IndexString"], unfollowed := true, recurses := true, named := ["internal/bytealg.MaxLen", "unicode/utf8.first", "unicode/utf8.acceptRanges", "larder/relation.signs"], apart := false, laid := [("unicode/utf8.acceptRanges", laid_unicode_utf8_acceptRanges), ("larder/relation.signs", laid_larder_relation_signs), ("unicode/utf8.first", laid_unicode_utf8_first)] }
def RelationFieldSaid : Prop := relationFieldRow.holds Tryd.pinned (OpenSpec.ofChange relationFieldSpec)

/-- ITS FALSE NEIGHBOUR: 'it returns false'. Refute it at one input. -/
def relationFieldWrong : ChangeSpec := { name := "relationField", fn := fun _ => fun
  | [d] => { results := [.lit (.bool false)], args := [d] }
  | _ => none }
def RelationFieldWrongFalsely : Prop := relationFieldRow.holds Tryd.pinned (OpenSpec.ofChange relationFieldWrong)

/-- 'larderlaw02.RelationPrints': WHATEVER THE INPUT: true; the input reads as it did. -/
def relationPrintsSpec : ChangeSpec := { name := "relationPrints", fn := fun _ => fun
  | [d1, d2, d3, d4] => { results := [.lit (.bool true)], args := [d1, d2, d3, d4] }
  | _ => none }
def relationPrintsRow : OpenClaim := { program := "ytfembjjpmjfklaadoor", sum := "69c335e79fd96783e3359b78210764e8135c5afe14a313bc322860f72d473546", func := "larder/larderlaw02.RelationPrints", spec := "relationPrints", inPlace := ["internal/bytealg.IndexByteString", "internal/abi.NoEscape", "internal/bytealg.MakeNoZero"], unfollowed := true, recurses := true, named := ["larder/relation.signs"], apart := false, laid := [("larder/relation.signs", laid_larder_relation_signs)] }
def RelationPrintsSaid : Prop := relationPrintsRow.holds Tryd.pinned (OpenSpec.ofChange relationPrintsSpec)

/-- ITS FALSE NEIGHBOUR: 'it returns false'. Refute it at one input. -/
def relationPrintsWrong : ChangeSpec := { name := "relationPrints", fn := fun _ => fun
  | [d1, d2, d3, d4] => { results := [.lit (.bool false)], args := [d1, d2, d3, d4] }
  | _ => none }
def RelationPrintsWrongFalsely : Prop := relationPrintsRow.holds Tryd.pinned (OpenSpec.ofChange relationPrintsWrong)

/-- 'larderlaw02.RelationMeets': WHATEVER THE INPUT: true; the input reads as it did. -/
def relationMeetsSpec : ChangeSpec := { name := "relationMeets", fn := fun _ => fun
  | [d1, d2, d3, d4] => { results := [.lit (.bool true)], args := [d1, d2, d3, d4] }
  | _ => none }
def relationMeetsRow : OpenClaim := { program := "ytfembjjpmjfklaadoor", sum := "69c335e79fd96783e3359b78210764e8135c5afe14a313bc322860f72d473546", func := "larder/larderlaw02.RelationMeets", spec := "relationMeets", inPlace := ["internal/bytealg.IndexByteString", "internal/bytealg.IndexString"], unfollowed := true, recurses := true, named := ["unicode/utf8.first", "unicode/utf8.acceptRanges", "internal/bytealg.MaxLen"], apart := false, laid := [("unicode/utf8.acceptRanges", laid_unicode_utf8_acceptRanges), ("unicode/utf8.first", laid_unicode_utf8_first)] }
def RelationMeetsSaid : Prop := relationMeetsRow.holds Tryd.pinned (OpenSpec.ofChange relationMeetsSpec)

/-- ITS FALSE NEIGHBOUR: 'it returns false'. Refute it at one input. -/
def relationMeetsWrong : ChangeSpec := { name := "relationMeets", fn := fun _ => fun
  | [d1, d2, d3, d4] => { results := [.lit (.bool false)], args := [d1, d2, d3, d4] }
  | _ => none }
def RelationMeetsWrongFalsely : Prop := relationMeetsRow.holds Tryd.pinned (OpenSpec.ofChange relationMeetsWrong)

/- THE SECOND FORM. 'bulk': how many values and letters a reading holds, each counted each time it is reached (what is shared counts as often as it is met; a slice's spare places count too). A statement '..UptoSaid' is the law's where the arguments, and the package variables that the reading takes, are together of bulk at most 1048576: NARROWER than '..Said'. Prove '..Said' where nothing that the law and all that it calls make is longer than what came in: it says more and counts as full. Else prove '..UptoSaid'. A law counts once. -/
mutual
def uptoBulk {H : Type} : DataW H → Nat
  | .lit (.string bytes) => bytes.length + 1
  | .lit _ => 1
  | .nil => 1
  | .ptr d => uptoBulk d + 1
  | .slice elems spare => uptoBulkAll elems + uptoBulkAll spare + 1
  | .agg parts => uptoBulkAll parts + 1
  | .iface _ d => uptoBulk d + 1
  | .map entries => uptoBulkEntries entries + 1
  | .held _ => 1
def uptoBulkAll {H : Type} : List (DataW H) → Nat
  | [] => 0
  | d :: r => uptoBulk d + uptoBulkAll r
def uptoBulkEntries {H : Type} : List (Lit × DataW H) → Nat
  | [] => 0
  | x :: r => uptoBulkEntry x + uptoBulkEntries r
def uptoBulkEntry {H : Type} : Lit × DataW H → Nat
  | (.string bytes, d) => bytes.length + uptoBulk d + 1
  | (_, d) => uptoBulk d + 1
 end
def uptoSmall : (H : Type) → List (DataW H) → Bool := fun _ ds => decide (uptoBulkAll ds ≤ 1048576)
def OpenSpec.upto (s : _root_.Go.ChangeSpec) : _root_.Go.OpenSpec := { _root_.Go.OpenSpec.ofChange s with cond := some uptoSmall }

/-- 'larderlaw02.RelationOne', WHERE WHAT IT READS IS OF BULK AT MOST 1048576: true; the input reads as it did. -/
def relationOneUptoRow : OpenClaim := { program := "ytfembjjpmjfklaadoor", sum := "69c335e79fd96783e3359b78210764e8135c5afe14a313bc322860f72d473546", func := "larder/larderlaw02.RelationOne", spec := "relationOne", inPlace := ["internal/bytealg.IndexByteString", "internal/bytealg.IndexString", "internal/bytealg.CountString", "internal/abi.NoEscape", "internal/bytealg.MakeNoZero"], unfollowed := true, recurses := true, named := ["unicode/utf8.first", "unicode/utf8.acceptRanges", "internal/bytealg.MaxLen", "larder/relation.signs"], apart := false, laid := [("unicode/utf8.acceptRanges", laid_unicode_utf8_acceptRanges), ("larder/relation.signs", laid_larder_relation_signs), ("unicode/utf8.first", laid_unicode_utf8_first)], narrowed := true }
def RelationOneUptoSaid : Prop := relationOneUptoRow.holds Tryd.pinned (OpenSpec.upto relationOneSpec)

/-- 'larderlaw02.RelationAtom', WHERE WHAT IT READS IS OF BULK AT MOST 1048576: true; the input reads as it did. -/
def relationAtomUptoRow : OpenClaim := { program := "ytfembjjpmjfklaadoor", sum := "69c335e79fd96783e3359b78210764e8135c5afe14a313bc322860f72d473546", func := "larder/larderlaw02.RelationAtom", spec := "relationAtom", inPlace := ["internal/bytealg.IndexByteString", "internal/bytealg.IndexString", "internal/bytealg.CountString"], unfollowed := true, recurses := true, named := ["unicode/utf8.first", "unicode/utf8.acceptRanges", "larder/relation.signs", "internal/bytealg.MaxLen"], apart := false, laid := [("unicode/utf8.acceptRanges", laid_unicode_utf8_acceptRanges), ("larder/relation.signs", laid_larder_relation_signs), ("unicode/utf8.first", laid_unicode_utf8_first)], narrowed := true }
def RelationAtomUptoSaid : Prop := relationAtomUptoRow.holds Tryd.pinned (OpenSpec.upto relationAtomSpec)

/-- 'larderlaw02.RelationField', WHERE WHAT IT READS IS OF BULK AT MOST 1048576: true; the input reads as it did. -/
def relationFieldUptoRow : OpenClaim := { program := "ytfembjjpmjfklaadoor", sum := "69c335e79fd96783e3359b78210764e8135c5afe14a313bc322860f72d473546", func := "larder/larderlaw02.RelationField", spec := "relationField", inPlace := ["internal/bytealg.CountString", "internal/bytealg.IndexByteString", "internal/bytealg.IndexString"], unfollowed := true, recurses := true, named := ["internal/bytealg.MaxLen", "unicode/utf8.first", "unicode/utf8.acceptRanges", "larder/relation.signs"], apart := false, laid := [("unicode/utf8.acceptRanges", laid_unicode_utf8_acceptRanges), ("larder/relation.signs", laid_larder_relation_signs), ("unicode/utf8.first", laid_unicode_utf8_first)], narrowed := true }
def RelationFieldUptoSaid : Prop := relationFieldUptoRow.holds Tryd.pinned (OpenSpec.upto relationFieldSpec)

/-- 'larderlaw02.RelationPrints', WHERE WHAT IT READS IS OF BULK AT MOST 1048576: true; the input reads as it did. -/
def relationPrintsUptoRow : OpenClaim := { program := "ytfembjjpmjfklaadoor", sum := "69c335e79fd96783e3359b78210764e8135c5afe14a313bc322860f72d473546", func := "larder/larderlaw02.RelationPrints", spec := "relationPrints", inPlace := ["internal/bytealg.IndexByteString", "internal/abi.NoEscape", "internal/bytealg.MakeNoZero"], unfollowed := true, recurses := true, named := ["larder/relation.signs"], apart := false, laid := [("larder/relation.signs", laid_larder_relation_signs)], narrowed := true }
def RelationPrintsUptoSaid : Prop := relationPrintsUptoRow.holds Tryd.pinned (OpenSpec.upto relationPrintsSpec)

/-- 'larderlaw02.RelationMeets', WHERE WHAT IT READS IS OF BULK AT MOST 1048576: true; the input reads as it did. -/
def relationMeetsUptoRow : OpenClaim := { program := "ytfembjjpmjfklaadoor", sum := "69c335e79fd96783e3359b78210764e8135c5afe14a313bc322860f72d473546", func := "larder/larderlaw02.RelationMeets", spec := "relationMeets", inPlace := ["internal/bytealg.IndexByteString", "internal/bytealg.IndexString"], unfollowed := true, recurses := true, named := ["unicode/utf8.first", "unicode/utf8.acceptRanges", "internal/bytealg.MaxLen"], apart := false, laid := [("unicode/utf8.acceptRanges", laid_unicode_utf8_acceptRanges), ("unicode/utf8.first", laid_unicode_utf8_first)], narrowed := true }
def RelationMeetsUptoSaid : Prop := relationMeetsUptoRow.holds Tryd.pinned (OpenSpec.upto relationMeetsSpec)

end Rows
end Go.Proofs.YtfembjjpmjfklaaDoor
