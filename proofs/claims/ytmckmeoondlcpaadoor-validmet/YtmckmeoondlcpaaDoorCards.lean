/-
  DERIVED. GIVEN WITH THE SEED: THE CARDS: each row of YtmckmeoondlcpaaDoorRows.lean that lists a variable, with what it lists TIED to the program's text (the seventh form; the later family's looks); each row that meets fmt, with fmt's text TOLD by the authors' own Lean function (tested against real Go, not proved from fmt's source: count such statements apart). THE CARD IS WHAT COUNTS. Prove the row's statement (the work); the ties are given (YtmckmeoondlcpaaDoorTie.lean); close each card by the builder's one call (the guide's Derived/Test/ToyasCard.lean, 'card_holds'). Laid BY PROGRAM, IN A SANDBOX (cutbox-door.mjs). By AI agents, Wed Nov 11 2026. No macro, syntax, notation, axiom, sorry.
-/
import Derived.Test.YtmckmeoondlcpaaDoorRows
import GoSem.ClaimSeven
namespace Go.Proofs.YtmckmeoondlcpaaDoor
namespace Rows

/-- THE TIED CARD OF 'larderlaw11.ValidMet'. -/
def validMetCard : Claim7 := { stood := { row := validMetRow, standIns := [], harness := (true, "b51a92161d6b5cfcc6721f244f8633a0394d0228ac542b76392541328000bdd5"), looks := false }, kinds := [], alts := [], laidByText := true, laidKinds := [.data, .pinned], laidTests := true, laidLooks := .later }
def ValidMetCardSaid : Prop := Claim7.holds Tryd.pinned (.plain (OpenSpec.ofChange validMetSpec)) validMetCard

/-- THE SECOND FORM's CARD OF 'larderlaw11.ValidMet'. -/
def validMetUptoCard : Claim7 := { stood := { row := validMetUptoRow, standIns := [], harness := (true, "b51a92161d6b5cfcc6721f244f8633a0394d0228ac542b76392541328000bdd5"), looks := false }, kinds := [], alts := [], laidByText := true, laidKinds := [.data, .pinned], laidTests := true, laidLooks := .later }
def ValidMetUptoCardSaid : Prop := Claim7.holds Tryd.pinned (.plain (OpenSpec.upto validMetSpec)) validMetUptoCard
end Rows
end Go.Proofs.YtmckmeoondlcpaaDoor
