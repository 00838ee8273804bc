/-
  NARROWER THAN 'FOR EVERY INPUT', by the rows' own cells (each row's printed sentence says how): StanzaAhead: laid · StanzaThere: laid · StanzaFront: laid · StanzaPrints: laid · StanzaBack: laid · StanzaEach: laid · StanzaParses: laid.
  DERIVED. THE GIVEN ROWS OF THIS SEAT. 7 by the template 'for every input the law returns true; each argument reads behind the call as it read before'; 0 by the template 'total and deterministic' (their statements: YtiibobjbcgbknaaDoorTotals.lean).
  GIVEN WITH THE SEED: the statements are not yours to turn. If you find one false, say at which input.
  Laid BY PROGRAM, IN A SANDBOX (cutbox-rows.mjs): the forced cells as the released guide's own fill.sh prints them over the translation c144593165613e46… (all of the seat's roots in one cut). By AI agents, Wed Nov 11 2026. No macro, syntax, notation, axiom, sorry.
-/
import Derived.Test.YtiibobjbcgbknaaDoorChecked
import GoSem.PinnedTables
import GoSem.Claim
import GoSem.ClaimJoined
import GoSem.ClaimMapViews
import Derived.JoinedTies
import Derived.KernelRfl
namespace Go.Proofs.YtiibobjbcgbknaaDoor
/- THE CELL 'sum', in the pinned program and in every row, IS THE sha256 OF THE DUMP (.gsa) THAT YtiibobjbcgbknaaDoorProg.lean LOADS. Nothing in Lean hashes anything: it is a label: what it is worth is what the hold of that sum in a sandbox is worth. -/
noncomputable def Tryd.pinned : Pinned := { name := "ytiibobjbcgbknaadoor", sum := "c144593165613e463719497842bba3306454a4208d316df93ddc70b5b9b84393", checked := Tryd.checked }
namespace Rows
def none {H : Type} : Left H := { results := [], args := [] }

/- WHAT THE LISTED PACKAGE-LEVEL VARIABLES READ AS WHEN THE CALL BEGINS. Each datum BY PROGRAM (the guide's laid-datum.mjs) off the statement by which the dump's own 'gosem.cut.vars' lays the variable. In a bare row this is a premise. The card (YtiibobjbcgbknaaDoorCards.lean) ties it to the program's text. -/
def laid_unicode_utf8_acceptRanges {H : Type} : DataW H := .agg [.agg [.lit (.int .u8 128), .lit (.int .u8 191)], .agg [.lit (.int .u8 160), .lit (.int .u8 191)], .agg [.lit (.int .u8 128), .lit (.int .u8 159)], .agg [.lit (.int .u8 144), .lit (.int .u8 191)], .agg [.lit (.int .u8 128), .lit (.int .u8 143)], .agg [.lit (.int .u8 0), .lit (.int .u8 0)], .agg [.lit (.int .u8 0), .lit (.int .u8 0)], .agg [.lit (.int .u8 0), .lit (.int .u8 0)], .agg [.lit (.int .u8 0), .lit (.int .u8 0)], .agg [.lit (.int .u8 0), .lit (.int .u8 0)], .agg [.lit (.int .u8 0), .lit (.int .u8 0)], .agg [.lit (.int .u8 0), .lit (.int .u8 0)], .agg [.lit (.int .u8 0), .lit (.int .u8 0)], .agg [.lit (.int .u8 0), .lit (.int .u8 0)], .agg [.lit (.int .u8 0), .lit (.int .u8 0)], .agg [.lit (.int .u8 0), .lit (.int .u8 0)]]
/-- One of Go's own tables, pinned by name: the form's constant. -/
def laid_unicode_utf8_first : DataW Unit := Go.Pinned.utf8First

/-- 'larderlaw03.StanzaAhead': WHATEVER THE INPUT: true; the input reads as it did. -/
def stanzaAheadSpec : ChangeSpec := { name := "stanzaAhead", fn := fun _ => fun
  | [d1, d2] => { results := [.lit (.bool true)], args := [d1, d2] }
  | _ => none }
def stanzaAheadRow : OpenClaim := { program := "ytiibobjbcgbknaadoor", sum := "c144593165613e463719497842bba3306454a4208d316df93ddc70b5b9b84393", func := "larder/larderlaw03.StanzaAhead", spec := "stanzaAhead", inPlace := ["internal/bytealg.IndexByteString", "internal/bytealg.IndexString"], unfollowed := true, recurses := true, named := ["internal/bytealg.MaxLen", "unicode/utf8.first", "unicode/utf8.acceptRanges"], apart := false, laid := [("unicode/utf8.acceptRanges", laid_unicode_utf8_acceptRanges), ("unicode/utf8.first", laid_unicode_utf8_first)] }
def StanzaAheadSaid : Prop := stanzaAheadRow.holds Tryd.pinned (OpenSpec.ofChange stanzaAheadSpec)

/-- ITS FALSE NEIGHBOUR: 'it returns false'. Refute it at one input. -/
def stanzaAheadWrong : ChangeSpec := { name := "stanzaAhead", fn := fun _ => fun
  | [d1, d2] => { results := [.lit (.bool false)], args := [d1, d2] }
  | _ => none }
def StanzaAheadWrongFalsely : Prop := stanzaAheadRow.holds Tryd.pinned (OpenSpec.ofChange stanzaAheadWrong)

/-- 'larderlaw03.StanzaThere': WHATEVER THE INPUT: true; the input reads as it did. -/
def stanzaThereSpec : ChangeSpec := { name := "stanzaThere", fn := fun _ => fun
  | [d] => { results := [.lit (.bool true)], args := [d] }
  | _ => none }
def stanzaThereRow : OpenClaim := { program := "ytiibobjbcgbknaadoor", sum := "c144593165613e463719497842bba3306454a4208d316df93ddc70b5b9b84393", func := "larder/larderlaw03.StanzaThere", spec := "stanzaThere", inPlace := ["internal/bytealg.IndexByteString", "internal/bytealg.IndexString"], unfollowed := true, recurses := true, named := ["internal/bytealg.MaxLen", "unicode/utf8.first", "unicode/utf8.acceptRanges"], apart := false, laid := [("unicode/utf8.acceptRanges", laid_unicode_utf8_acceptRanges), ("unicode/utf8.first", laid_unicode_utf8_first)] }
def StanzaThereSaid : Prop := stanzaThereRow.holds Tryd.pinned (OpenSpec.ofChange stanzaThereSpec)

/-- ITS FALSE NEIGHBOUR: 'it returns false'. Refute it at one input. -/
def stanzaThereWrong : ChangeSpec := { name := "stanzaThere", fn := fun _ => fun
  | [d] => { results := [.lit (.bool false)], args := [d] }
  | _ => none }
def StanzaThereWrongFalsely : Prop := stanzaThereRow.holds Tryd.pinned (OpenSpec.ofChange stanzaThereWrong)

/-- 'larderlaw03.StanzaFront': WHATEVER THE INPUT: true; the input reads as it did. -/
def stanzaFrontSpec : ChangeSpec := { name := "stanzaFront", fn := fun _ => fun
  | [d] => { results := [.lit (.bool true)], args := [d] }
  | _ => none }
def stanzaFrontRow : OpenClaim := { program := "ytiibobjbcgbknaadoor", sum := "c144593165613e463719497842bba3306454a4208d316df93ddc70b5b9b84393", func := "larder/larderlaw03.StanzaFront", spec := "stanzaFront", inPlace := ["internal/bytealg.IndexByteString", "internal/bytealg.IndexString"], unfollowed := true, recurses := true, named := ["internal/bytealg.MaxLen", "unicode/utf8.first", "unicode/utf8.acceptRanges"], apart := false, laid := [("unicode/utf8.acceptRanges", laid_unicode_utf8_acceptRanges), ("unicode/utf8.first", laid_unicode_utf8_first)] }
def StanzaFrontSaid : Prop := stanzaFrontRow.holds Tryd.pinned (OpenSpec.ofChange stanzaFrontSpec)

/-- ITS FALSE NEIGHBOUR: 'it returns false'. Refute it at one input. -/
def stanzaFrontWrong : ChangeSpec := { name := "stanzaFront", fn := fun _ => fun
  | [d] => { results := [.lit (.bool false)], args := [d] }
  | _ => none }
def StanzaFrontWrongFalsely : Prop := stanzaFrontRow.holds Tryd.pinned (OpenSpec.ofChange stanzaFrontWrong)

/-- 'larderlaw03.StanzaPrints': WHATEVER THE INPUT: true; the input reads as it did. -/
def stanzaPrintsSpec : ChangeSpec := { name := "stanzaPrints", fn := fun _ => fun
  | [d] => { results := [.lit (.bool true)], args := [d] }
  | _ => none }
def stanzaPrintsRow : OpenClaim := { program := "ytiibobjbcgbknaadoor", sum := "c144593165613e463719497842bba3306454a4208d316df93ddc70b5b9b84393", func := "larder/larderlaw03.StanzaPrints", spec := "stanzaPrints", inPlace := ["internal/bytealg.IndexByteString", "internal/bytealg.IndexString"], named := ["internal/bytealg.MaxLen", "unicode/utf8.first", "unicode/utf8.acceptRanges"], apart := false, laid := [("unicode/utf8.acceptRanges", laid_unicode_utf8_acceptRanges), ("unicode/utf8.first", laid_unicode_utf8_first)] }
def StanzaPrintsSaid : Prop := stanzaPrintsRow.holds Tryd.pinned (OpenSpec.ofChange stanzaPrintsSpec)

/-- ITS FALSE NEIGHBOUR: 'it returns false'. Refute it at one input. -/
def stanzaPrintsWrong : ChangeSpec := { name := "stanzaPrints", fn := fun _ => fun
  | [d] => { results := [.lit (.bool false)], args := [d] }
  | _ => none }
def StanzaPrintsWrongFalsely : Prop := stanzaPrintsRow.holds Tryd.pinned (OpenSpec.ofChange stanzaPrintsWrong)

/-- 'larderlaw03.StanzaBack': WHATEVER THE INPUT: true; the input reads as it did. -/
def stanzaBackSpec : ChangeSpec := { name := "stanzaBack", fn := fun _ => fun
  | [d] => { results := [.lit (.bool true)], args := [d] }
  | _ => none }
def stanzaBackRow : OpenClaim := { program := "ytiibobjbcgbknaadoor", sum := "c144593165613e463719497842bba3306454a4208d316df93ddc70b5b9b84393", func := "larder/larderlaw03.StanzaBack", spec := "stanzaBack", inPlace := ["internal/bytealg.IndexByteString", "internal/bytealg.IndexString"], unfollowed := true, recurses := true, named := ["internal/bytealg.MaxLen", "unicode/utf8.first", "unicode/utf8.acceptRanges"], apart := false, laid := [("unicode/utf8.acceptRanges", laid_unicode_utf8_acceptRanges), ("unicode/utf8.first", laid_unicode_utf8_first)] }
def StanzaBackSaid : Prop := stanzaBackRow.holds Tryd.pinned (OpenSpec.ofChange stanzaBackSpec)

/-- ITS FALSE NEIGHBOUR: 'it returns false'. Refute it at one input. -/
def stanzaBackWrong : ChangeSpec := { name := "stanzaBack", fn := fun _ => fun
  | [d] => { results := [.lit (.bool false)], args := [d] }
  | _ => none }
def StanzaBackWrongFalsely : Prop := stanzaBackRow.holds Tryd.pinned (OpenSpec.ofChange stanzaBackWrong)

/-- 'larderlaw03.StanzaEach': WHATEVER THE INPUT: true; the input reads as it did. -/
def stanzaEachSpec : ChangeSpec := { name := "stanzaEach", fn := fun _ => fun
  | [d1, d2] => { results := [.lit (.bool true)], args := [d1, d2] }
  | _ => none }
def stanzaEachRow : OpenClaim := { program := "ytiibobjbcgbknaadoor", sum := "c144593165613e463719497842bba3306454a4208d316df93ddc70b5b9b84393", func := "larder/larderlaw03.StanzaEach", spec := "stanzaEach", inPlace := ["internal/bytealg.IndexByteString", "internal/bytealg.IndexString"], unfollowed := true, recurses := true, named := ["internal/bytealg.MaxLen", "unicode/utf8.first", "unicode/utf8.acceptRanges"], apart := false, laid := [("unicode/utf8.acceptRanges", laid_unicode_utf8_acceptRanges), ("unicode/utf8.first", laid_unicode_utf8_first)] }
def StanzaEachSaid : Prop := stanzaEachRow.holds Tryd.pinned (OpenSpec.ofChange stanzaEachSpec)

/-- ITS FALSE NEIGHBOUR: 'it returns false'. Refute it at one input. -/
def stanzaEachWrong : ChangeSpec := { name := "stanzaEach", fn := fun _ => fun
  | [d1, d2] => { results := [.lit (.bool false)], args := [d1, d2] }
  | _ => none }
def StanzaEachWrongFalsely : Prop := stanzaEachRow.holds Tryd.pinned (OpenSpec.ofChange stanzaEachWrong)

/-- 'larderlaw03.StanzaParses': WHATEVER THE INPUT: true; the input reads as it did. -/
def stanzaParsesSpec : ChangeSpec := { name := "stanzaParses", fn := fun _ => fun
  | [d] => { results := [.lit (.bool true)], args := [d] }
  | _ => none }
def stanzaParsesRow : OpenClaim := { program := "ytiibobjbcgbknaadoor", sum := "c144593165613e463719497842bba3306454a4208d316df93ddc70b5b9b84393", func := "larder/larderlaw03.StanzaParses", spec := "stanzaParses", inPlace := ["internal/bytealg.IndexByteString", "internal/bytealg.IndexString"], unfollowed := true, recurses := true, named := ["internal/bytealg.MaxLen", "unicode/utf8.first", "unicode/utf8.acceptRanges"], apart := false, laid := [("unicode/utf8.acceptRanges", laid_unicode_utf8_acceptRanges), ("unicode/utf8.first", laid_unicode_utf8_first)] }
def StanzaParsesSaid : Prop := stanzaParsesRow.holds Tryd.pinned (OpenSpec.ofChange stanzaParsesSpec)

/-- ITS FALSE NEIGHBOUR: 'it returns false'. Refute it at one input. -/
def stanzaParsesWrong : ChangeSpec := { name := "stanzaParses", fn := fun _ => fun
  | [d] => { results := [.lit (.bool false)], args := [d] }
  | _ => none }
def StanzaParsesWrongFalsely : Prop := stanzaParsesRow.holds Tryd.pinned (OpenSpec.ofChange stanzaParsesWrong)

/- THE SECOND FORM. 'bulk': how many values and letters a reading holds, each counted each time it is reached (what is shared counts as often as it is met; a slice's spare places count too). A statement '..UptoSaid' is the law's where the arguments, and the package variables that the reading takes, are together of bulk at most 1048576: NARROWER than '..Said'. Prove '..Said' where nothing that the law and all that it calls make is longer than what came in: it says more and counts as full. Else prove '..UptoSaid'. A law counts once. -/
mutual
def uptoBulk {H : Type} : DataW H → Nat
  | .lit (.string bytes) => bytes.length + 1
  | .lit _ => 1
  | .nil => 1
  | .ptr d => uptoBulk d + 1
  | .slice elems spare => uptoBulkAll elems + uptoBulkAll spare + 1
  | .agg parts => uptoBulkAll parts + 1
  | .iface _ d => uptoBulk d + 1
  | .map entries => uptoBulkEntries entries + 1
  | .held _ => 1
def uptoBulkAll {H : Type} : List (DataW H) → Nat
  | [] => 0
  | d :: r => uptoBulk d + uptoBulkAll r
def uptoBulkEntries {H : Type} : List (Lit × DataW H) → Nat
  | [] => 0
  | x :: r => uptoBulkEntry x + uptoBulkEntries r
def uptoBulkEntry {H : Type} : Lit × DataW H → Nat
  | (.string bytes, d) => bytes.length + uptoBulk d + 1
  | (_, d) => uptoBulk d + 1
 end
def uptoSmall : (H : Type) → List (DataW H) → Bool := fun _ ds => decide (uptoBulkAll ds ≤ 1048576)
def OpenSpec.upto (s : _root_.Go.ChangeSpec) : _root_.Go.OpenSpec := { _root_.Go.OpenSpec.ofChange s with cond := some uptoSmall }

/-- 'larderlaw03.StanzaAhead', WHERE WHAT IT READS IS OF BULK AT MOST 1048576: true; the input reads as it did. -/
def stanzaAheadUptoRow : OpenClaim := { program := "ytiibobjbcgbknaadoor", sum := "c144593165613e463719497842bba3306454a4208d316df93ddc70b5b9b84393", func := "larder/larderlaw03.StanzaAhead", spec := "stanzaAhead", inPlace := ["internal/bytealg.IndexByteString", "internal/bytealg.IndexString"], unfollowed := true, recurses := true, named := ["internal/bytealg.MaxLen", "unicode/utf8.first", "unicode/utf8.acceptRanges"], apart := false, laid := [("unicode/utf8.acceptRanges", laid_unicode_utf8_acceptRanges), ("unicode/utf8.first", laid_unicode_utf8_first)], narrowed := true }
def StanzaAheadUptoSaid : Prop := stanzaAheadUptoRow.holds Tryd.pinned (OpenSpec.upto stanzaAheadSpec)

/-- 'larderlaw03.StanzaThere', WHERE WHAT IT READS IS OF BULK AT MOST 1048576: true; the input reads as it did. -/
def stanzaThereUptoRow : OpenClaim := { program := "ytiibobjbcgbknaadoor", sum := "c144593165613e463719497842bba3306454a4208d316df93ddc70b5b9b84393", func := "larder/larderlaw03.StanzaThere", spec := "stanzaThere", inPlace := ["internal/bytealg.IndexByteString", "internal/bytealg.IndexString"], unfollowed := true, recurses := true, named := ["internal/bytealg.MaxLen", "unicode/utf8.first", "unicode/utf8.acceptRanges"], apart := false, laid := [("unicode/utf8.acceptRanges", laid_unicode_utf8_acceptRanges), ("unicode/utf8.first", laid_unicode_utf8_first)], narrowed := true }
def StanzaThereUptoSaid : Prop := stanzaThereUptoRow.holds Tryd.pinned (OpenSpec.upto stanzaThereSpec)

/-- 'larderlaw03.StanzaFront', WHERE WHAT IT READS IS OF BULK AT MOST 1048576: true; the input reads as it did. -/
def stanzaFrontUptoRow : OpenClaim := { program := "ytiibobjbcgbknaadoor", sum := "c144593165613e463719497842bba3306454a4208d316df93ddc70b5b9b84393", func := "larder/larderlaw03.StanzaFront", spec := "stanzaFront", inPlace := ["internal/bytealg.IndexByteString", "internal/bytealg.IndexString"], unfollowed := true, recurses := true, named := ["internal/bytealg.MaxLen", "unicode/utf8.first", "unicode/utf8.acceptRanges"], apart := false, laid := [("unicode/utf8.acceptRanges", laid_unicode_utf8_acceptRanges), ("unicode/utf8.first", laid_unicode_utf8_first)], narrowed := true }
def StanzaFrontUptoSaid : Prop := stanzaFrontUptoRow.holds Tryd.pinned (OpenSpec.upto stanzaFrontSpec)

/-- 'larderlaw03.StanzaPrints', WHERE WHAT IT READS IS OF BULK AT MOST 1048576: true; the input reads as it did. -/
def stanzaPrintsUptoRow : OpenClaim := { program := "ytiibobjbcgbknaadoor", sum := "c144593165613e463719497842bba3306454a4208d316df93ddc70b5b9b84393", func := "larder/larderlaw03.StanzaPrints", spec := "stanzaPrints", inPlace := ["internal/bytealg.IndexByteString", "internal/bytealg.IndexString"], named := ["internal/bytealg.MaxLen", "unicode/utf8.first", "unicode/utf8.acceptRanges"], apart := false, laid := [("unicode/utf8.acceptRanges", laid_unicode_utf8_acceptRanges), ("unicode/utf8.first", laid_unicode_utf8_first)], narrowed := true }
def StanzaPrintsUptoSaid : Prop := stanzaPrintsUptoRow.holds Tryd.pinned (OpenSpec.upto stanzaPrintsSpec)

/-- 'larderlaw03.StanzaBack', WHERE WHAT IT READS IS OF BULK AT MOST 1048576: true; the input reads as it did. -/
def stanzaBackUptoRow : OpenClaim := { program := "ytiibobjbcgbknaadoor", sum := "c144593165613e463719497842bba3306454a4208d316df93ddc70b5b9b84393", func := "larder/larderlaw03.StanzaBack", spec := "stanzaBack", inPlace := ["internal/bytealg.IndexByteString", "internal/bytealg.IndexString"], unfollowed := true, recurses := true, named := ["internal/bytealg.MaxLen", "unicode/utf8.first", "unicode/utf8.acceptRanges"], apart := false, laid := [("unicode/utf8.acceptRanges", laid_unicode_utf8_acceptRanges), ("unicode/utf8.first", laid_unicode_utf8_first)], narrowed := true }
def StanzaBackUptoSaid : Prop := stanzaBackUptoRow.holds Tryd.pinned (OpenSpec.upto stanzaBackSpec)

/-- 'larderlaw03.StanzaEach', WHERE WHAT IT READS IS OF BULK AT MOST 1048576: true; the input reads as it did. -/
def stanzaEachUptoRow : OpenClaim := { program := "ytiibobjbcgbknaadoor", sum := "c144593165613e463719497842bba3306454a4208d316df93ddc70b5b9b84393", func := "larder/larderlaw03.StanzaEach", spec := "stanzaEach", inPlace := ["internal/bytealg.IndexByteString", "internal/bytealg.IndexString"], unfollowed := true, recurses := true, named := ["internal/bytealg.MaxLen", "unicode/utf8.first", "unicode/utf8.acceptRanges"], apart := false, laid := [("unicode/utf8.acceptRanges", laid_unicode_utf8_acceptRanges), ("unicode/utf8.first", laid_unicode_utf8_first)], narrowed := true }
def StanzaEachUptoSaid : Prop := stanzaEachUptoRow.holds Tryd.pinned (OpenSpec.upto stanzaEachSpec)

/-- 'larderlaw03.StanzaParses', WHERE WHAT IT READS IS OF BULK AT MOST 1048576: true; the input reads as it did. -/
def stanzaParsesUptoRow : OpenClaim := { program := "ytiibobjbcgbknaadoor", sum := "c144593165613e463719497842bba3306454a4208d316df93ddc70b5b9b84393", func := "larder/larderlaw03.StanzaParses", spec := "stanzaParses", inPlace := ["internal/bytealg.IndexByteString", "internal/bytealg.IndexString"], unfollowed := true, recurses := true, named := ["internal/bytealg.MaxLen", "unicode/utf8.first", "unicode/utf8.acceptRanges"], apart := false, laid := [("unicode/utf8.acceptRanges", laid_unicode_utf8_acceptRanges), ("unicode/utf8.first", laid_unicode_utf8_first)], narrowed := true }
def StanzaParsesUptoSaid : Prop := stanzaParsesUptoRow.holds Tryd.pinned (OpenSpec.upto stanzaParsesSpec)

end Rows
end Go.Proofs.YtiibobjbcgbknaaDoor
