/-
  DERIVED. GIVEN WITH THE SEED: THE CARDS: each row of YtdkpglmdncjnbaaGreatDoorRows.lean that lists a variable, with what it lists TIED to the program's text (the seventh form; the later family's looks); each row that meets fmt, with fmt's text TOLD by the authors' own Lean function (tested against real Go, not proved from fmt's source: count such statements apart). THE CARD IS WHAT COUNTS. Prove the row's statement (the work); the ties are given (YtdkpglmdncjnbaaGreatDoorTie.lean); close each card by the builder's one call (the guide's Derived/Test/ToyasCard.lean, 'card_holds'). Laid BY PROGRAM, IN A SANDBOX (cutbox-door.mjs). By AI agents, Wed Nov 11 2026. No macro, syntax, notation, axiom, sorry.
-/
import Derived.Test.YtdkpglmdncjnbaaGreatDoorRows
import GoSem.ClaimSeven
namespace Go.Proofs.YtdkpglmdncjnbaaGreatDoor
namespace Rows

/-- THE TIED CARD OF 'larderlaw11.ValidFaults'. -/
def validFaultsCard : Claim7 := { stood := { row := validFaultsRow, standIns := [], harness := (true, "178bfbefb3ed3e64a61d03f41f6fc29b1a639760bd948ec4d43661336f273976"), looks := false }, kinds := [], alts := [], laidByText := true, laidKinds := [.data, .pinned], laidTests := true, laidLooks := .later }
def ValidFaultsCardSaid : Prop := Claim7.holds Tryz.pinned (.plain (OpenSpec.ofChange validFaultsSpec)) validFaultsCard

/-- THE TIED CARD OF 'larderlaw11.ValidClosed'. -/
def validClosedCard : Claim7 := { stood := { row := validClosedRow, standIns := [], harness := (true, "178bfbefb3ed3e64a61d03f41f6fc29b1a639760bd948ec4d43661336f273976"), looks := false }, kinds := [], alts := [], laidByText := true, laidKinds := [.data, .pinned], laidTests := true, laidLooks := .later }
def ValidClosedCardSaid : Prop := Claim7.holds Tryz.pinned (.plain (OpenSpec.ofChange validClosedSpec)) validClosedCard

/-- THE TIED CARD OF 'larderlaw11.ValidGreatest'. -/
def validGreatestCard : Claim7 := { stood := { row := validGreatestRow, standIns := [], harness := (true, "178bfbefb3ed3e64a61d03f41f6fc29b1a639760bd948ec4d43661336f273976"), looks := false }, kinds := [], alts := [], laidByText := true, laidKinds := [.data, .pinned], laidTests := true, laidLooks := .later }
def ValidGreatestCardSaid : Prop := Claim7.holds Tryz.pinned (.plain (OpenSpec.ofChange validGreatestSpec)) validGreatestCard

/-- THE TIED CARD OF 'larderlaw11.ValidBreaks'. -/
def validBreaksCard : Claim7 := { stood := { row := validBreaksRow, standIns := [], harness := (true, "178bfbefb3ed3e64a61d03f41f6fc29b1a639760bd948ec4d43661336f273976"), looks := false }, kinds := [], alts := [], laidByText := true, laidKinds := [.data, .pinned], laidTests := true, laidLooks := .later }
def ValidBreaksCardSaid : Prop := Claim7.holds Tryz.pinned (.plain (OpenSpec.ofChange validBreaksSpec)) validBreaksCard

/-- THE SECOND FORM's CARD OF 'larderlaw11.ValidFaults'. -/
def validFaultsUptoCard : Claim7 := { stood := { row := validFaultsUptoRow, standIns := [], harness := (true, "178bfbefb3ed3e64a61d03f41f6fc29b1a639760bd948ec4d43661336f273976"), looks := false }, kinds := [], alts := [], laidByText := true, laidKinds := [.data, .pinned], laidTests := true, laidLooks := .later }
def ValidFaultsUptoCardSaid : Prop := Claim7.holds Tryz.pinned (.plain (OpenSpec.upto validFaultsSpec)) validFaultsUptoCard

/-- THE SECOND FORM's CARD OF 'larderlaw11.ValidClosed'. -/
def validClosedUptoCard : Claim7 := { stood := { row := validClosedUptoRow, standIns := [], harness := (true, "178bfbefb3ed3e64a61d03f41f6fc29b1a639760bd948ec4d43661336f273976"), looks := false }, kinds := [], alts := [], laidByText := true, laidKinds := [.data, .pinned], laidTests := true, laidLooks := .later }
def ValidClosedUptoCardSaid : Prop := Claim7.holds Tryz.pinned (.plain (OpenSpec.upto validClosedSpec)) validClosedUptoCard

/-- THE SECOND FORM's CARD OF 'larderlaw11.ValidGreatest'. -/
def validGreatestUptoCard : Claim7 := { stood := { row := validGreatestUptoRow, standIns := [], harness := (true, "178bfbefb3ed3e64a61d03f41f6fc29b1a639760bd948ec4d43661336f273976"), looks := false }, kinds := [], alts := [], laidByText := true, laidKinds := [.data, .pinned], laidTests := true, laidLooks := .later }
def ValidGreatestUptoCardSaid : Prop := Claim7.holds Tryz.pinned (.plain (OpenSpec.upto validGreatestSpec)) validGreatestUptoCard

/-- THE SECOND FORM's CARD OF 'larderlaw11.ValidBreaks'. -/
def validBreaksUptoCard : Claim7 := { stood := { row := validBreaksUptoRow, standIns := [], harness := (true, "178bfbefb3ed3e64a61d03f41f6fc29b1a639760bd948ec4d43661336f273976"), looks := false }, kinds := [], alts := [], laidByText := true, laidKinds := [.data, .pinned], laidTests := true, laidLooks := .later }
def ValidBreaksUptoCardSaid : Prop := Claim7.holds Tryz.pinned (.plain (OpenSpec.upto validBreaksSpec)) validBreaksUptoCard
end Rows
end Go.Proofs.YtdkpglmdncjnbaaGreatDoor
