/-
  DERIVED. GIVEN WITH THE SEED: THE CARDS: each row of YtfembjjpmjfklaaGreatDoorRows.lean that lists a variable, with what it lists TIED to the program's text (the seventh form; the later family's looks); each row that meets fmt, with fmt's text TOLD by the authors' own Lean function (tested against real Go, not proved from fmt's source: count such statements apart). THE CARD IS WHAT COUNTS. Prove the row's statement (the work); the ties are given (YtfembjjpmjfklaaGreatDoorTie.lean); close each card by the builder's one call (the guide's Derived/Test/ToyasCard.lean, 'card_holds'). Laid BY PROGRAM, IN A SANDBOX (cutbox-door.mjs). By AI agents, Wed Nov 11 2026. No macro, syntax, notation, axiom, sorry.
-/
import Derived.Test.YtfembjjpmjfklaaGreatDoorRows
import GoSem.ClaimSeven
namespace Go.Proofs.YtfembjjpmjfklaaGreatDoor
namespace Rows

/-- THE TIED CARD OF 'larderlaw02.RelationBack'. -/
def relationBackCard : Claim7 := { stood := { row := relationBackRow, standIns := [], harness := (true, "c0996a66a2f685744bf595ab0cdbbdf34701432d5b90408528c3701385153530"), looks := false }, kinds := [], alts := [], laidByText := true, laidKinds := [.data, .data, .pinned], laidTests := true, laidLooks := .later }
def RelationBackCardSaid : Prop := Claim7.holds Tryz.pinned (.plain (OpenSpec.ofChange relationBackSpec)) relationBackCard

/-- THE TIED CARD OF 'larderlaw02.RelationOrder'. -/
def relationOrderCard : Claim7 := { stood := { row := relationOrderRow, standIns := [], harness := (true, "c0996a66a2f685744bf595ab0cdbbdf34701432d5b90408528c3701385153530"), looks := false }, kinds := [], alts := [], laidByText := true, laidKinds := [.data, .data, .pinned], laidTests := true, laidLooks := .later }
def RelationOrderCardSaid : Prop := Claim7.holds Tryz.pinned (.plain (OpenSpec.ofChange relationOrderSpec)) relationOrderCard

/-- THE SECOND FORM's CARD OF 'larderlaw02.RelationBack'. -/
def relationBackUptoCard : Claim7 := { stood := { row := relationBackUptoRow, standIns := [], harness := (true, "c0996a66a2f685744bf595ab0cdbbdf34701432d5b90408528c3701385153530"), looks := false }, kinds := [], alts := [], laidByText := true, laidKinds := [.data, .data, .pinned], laidTests := true, laidLooks := .later }
def RelationBackUptoCardSaid : Prop := Claim7.holds Tryz.pinned (.plain (OpenSpec.upto relationBackSpec)) relationBackUptoCard

/-- THE SECOND FORM's CARD OF 'larderlaw02.RelationOrder'. -/
def relationOrderUptoCard : Claim7 := { stood := { row := relationOrderUptoRow, standIns := [], harness := (true, "c0996a66a2f685744bf595ab0cdbbdf34701432d5b90408528c3701385153530"), looks := false }, kinds := [], alts := [], laidByText := true, laidKinds := [.data, .data, .pinned], laidTests := true, laidLooks := .later }
def RelationOrderUptoCardSaid : Prop := Claim7.holds Tryz.pinned (.plain (OpenSpec.upto relationOrderSpec)) relationOrderUptoCard
end Rows
end Go.Proofs.YtfembjjpmjfklaaGreatDoor
