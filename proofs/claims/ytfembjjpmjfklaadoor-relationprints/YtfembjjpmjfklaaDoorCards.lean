/-
  DERIVED. GIVEN WITH THE SEED: THE CARDS: each row of YtfembjjpmjfklaaDoorRows.lean that lists a variable, with what it lists TIED to the program's text (the seventh form; the later family's looks); each row that meets fmt, with fmt's text TOLD by the authors' own Lean function (tested against real Go, not proved from fmt's source: count such statements apart). THE CARD IS WHAT COUNTS. Prove the row's statement (the work); the ties are given (YtfembjjpmjfklaaDoorTie.lean); close each card by the builder's one call (the guide's Derived/Test/ToyasCard.lean, 'card_holds'). Laid BY PROGRAM, IN A SANDBOX (cutbox-door.mjs). By AI agents, Wed Nov 11 2026. No macro, syntax, notation, axiom, sorry.
-/
import Derived.Test.YtfembjjpmjfklaaDoorRows
import GoSem.ClaimSeven
namespace Go.Proofs.YtfembjjpmjfklaaDoor
namespace Rows

/-- THE TIED CARD OF 'larderlaw02.RelationOne'. -/
def relationOneCard : Claim7 := { stood := { row := relationOneRow, standIns := [], harness := (true, "4d4e02b9d39a80a74bef33c9e0b3f495ad0ba709171db3c831cc30abc02d3536"), looks := false }, kinds := [], alts := [], laidByText := true, laidKinds := [.data, .data, .pinned], laidTests := true, laidLooks := .later }
def RelationOneCardSaid : Prop := Claim7.holds Tryd.pinned (.plain (OpenSpec.ofChange relationOneSpec)) relationOneCard

/-- THE TIED CARD OF 'larderlaw02.RelationAtom'. -/
def relationAtomCard : Claim7 := { stood := { row := relationAtomRow, standIns := [], harness := (true, "4d4e02b9d39a80a74bef33c9e0b3f495ad0ba709171db3c831cc30abc02d3536"), looks := false }, kinds := [], alts := [], laidByText := true, laidKinds := [.data, .data, .pinned], laidTests := true, laidLooks := .later }
def RelationAtomCardSaid : Prop := Claim7.holds Tryd.pinned (.plain (OpenSpec.ofChange relationAtomSpec)) relationAtomCard

/-- THE TIED CARD OF 'larderlaw02.RelationField'. -/
def relationFieldCard : Claim7 := { stood := { row := relationFieldRow, standIns := [], harness := (true, "4d4e02b9d39a80a74bef33c9e0b3f495ad0ba709171db3c831cc30abc02d3536"), looks := false }, kinds := [], alts := [], laidByText := true, laidKinds := [.data, .data, .pinned], laidTests := true, laidLooks := .later }
def RelationFieldCardSaid : Prop := Claim7.holds Tryd.pinned (.plain (OpenSpec.ofChange relationFieldSpec)) relationFieldCard

/-- THE TIED CARD OF 'larderlaw02.RelationPrints'. -/
def relationPrintsCard : Claim7 := { stood := { row := relationPrintsRow, standIns := [], harness := (true, "4d4e02b9d39a80a74bef33c9e0b3f495ad0ba709171db3c831cc30abc02d3536"), looks := false }, kinds := [], alts := [], laidByText := true, laidKinds := [.data], laidTests := true, laidLooks := .later }
def RelationPrintsCardSaid : Prop := Claim7.holds Tryd.pinned (.plain (OpenSpec.ofChange relationPrintsSpec)) relationPrintsCard

/-- THE TIED CARD OF 'larderlaw02.RelationMeets'. -/
def relationMeetsCard : Claim7 := { stood := { row := relationMeetsRow, standIns := [], harness := (true, "4d4e02b9d39a80a74bef33c9e0b3f495ad0ba709171db3c831cc30abc02d3536"), looks := false }, kinds := [], alts := [], laidByText := true, laidKinds := [.data, .pinned], laidTests := true, laidLooks := .later }
def RelationMeetsCardSaid : Prop := Claim7.holds Tryd.pinned (.plain (OpenSpec.ofChange relationMeetsSpec)) relationMeetsCard

/-- THE SECOND FORM's CARD OF 'larderlaw02.RelationOne'. -/
def relationOneUptoCard : Claim7 := { stood := { row := relationOneUptoRow, standIns := [], harness := (true, "4d4e02b9d39a80a74bef33c9e0b3f495ad0ba709171db3c831cc30abc02d3536"), looks := false }, kinds := [], alts := [], laidByText := true, laidKinds := [.data, .data, .pinned], laidTests := true, laidLooks := .later }
def RelationOneUptoCardSaid : Prop := Claim7.holds Tryd.pinned (.plain (OpenSpec.upto relationOneSpec)) relationOneUptoCard

/-- THE SECOND FORM's CARD OF 'larderlaw02.RelationAtom'. -/
def relationAtomUptoCard : Claim7 := { stood := { row := relationAtomUptoRow, standIns := [], harness := (true, "4d4e02b9d39a80a74bef33c9e0b3f495ad0ba709171db3c831cc30abc02d3536"), looks := false }, kinds := [], alts := [], laidByText := true, laidKinds := [.data, .data, .pinned], laidTests := true, laidLooks := .later }
def RelationAtomUptoCardSaid : Prop := Claim7.holds Tryd.pinned (.plain (OpenSpec.upto relationAtomSpec)) relationAtomUptoCard

/-- THE SECOND FORM's CARD OF 'larderlaw02.RelationField'. -/
def relationFieldUptoCard : Claim7 := { stood := { row := relationFieldUptoRow, standIns := [], harness := (true, "4d4e02b9d39a80a74bef33c9e0b3f495ad0ba709171db3c831cc30abc02d3536"), looks := false }, kinds := [], alts := [], laidByText := true, laidKinds := [.data, .data, .pinned], laidTests := true, laidLooks := .later }
def RelationFieldUptoCardSaid : Prop := Claim7.holds Tryd.pinned (.plain (OpenSpec.upto relationFieldSpec)) relationFieldUptoCard

/-- THE SECOND FORM's CARD OF 'larderlaw02.RelationPrints'. -/
def relationPrintsUptoCard : Claim7 := { stood := { row := relationPrintsUptoRow, standIns := [], harness := (true, "4d4e02b9d39a80a74bef33c9e0b3f495ad0ba709171db3c831cc30abc02d3536"), looks := false }, kinds := [], alts := [], laidByText := true, laidKinds := [.data], laidTests := true, laidLooks := .later }
def RelationPrintsUptoCardSaid : Prop := Claim7.holds Tryd.pinned (.plain (OpenSpec.upto relationPrintsSpec)) relationPrintsUptoCard

/-- THE SECOND FORM's CARD OF 'larderlaw02.RelationMeets'. -/
def relationMeetsUptoCard : Claim7 := { stood := { row := relationMeetsUptoRow, standIns := [], harness := (true, "4d4e02b9d39a80a74bef33c9e0b3f495ad0ba709171db3c831cc30abc02d3536"), looks := false }, kinds := [], alts := [], laidByText := true, laidKinds := [.data, .pinned], laidTests := true, laidLooks := .later }
def RelationMeetsUptoCardSaid : Prop := Claim7.holds Tryd.pinned (.plain (OpenSpec.upto relationMeetsSpec)) relationMeetsUptoCard
end Rows
end Go.Proofs.YtfembjjpmjfklaaDoor
