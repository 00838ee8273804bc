/-
  DERIVED. GIVEN WITH THE SEED: THE CARDS: each row of YtiibobjbcgbknaaDoorRows.lean that lists a variable, with what it lists TIED to the program's text (the seventh form; the later family's looks); each row that meets fmt, with fmt's text TOLD by the authors' own Lean function (tested against real Go, not proved from fmt's source: count such statements apart). THE CARD IS WHAT COUNTS. Prove the row's statement (the work); the ties are given (YtiibobjbcgbknaaDoorTie.lean); close each card by the builder's one call (the guide's Derived/Test/ToyasCard.lean, 'card_holds'). Laid BY PROGRAM, IN A SANDBOX (cutbox-door.mjs). By AI agents, Wed Nov 11 2026. No macro, syntax, notation, axiom, sorry.
-/
import Derived.Test.YtiibobjbcgbknaaDoorRows
import GoSem.ClaimSeven
namespace Go.Proofs.YtiibobjbcgbknaaDoor
namespace Rows

/-- THE TIED CARD OF 'larderlaw03.StanzaAhead'. -/
def stanzaAheadCard : Claim7 := { stood := { row := stanzaAheadRow, standIns := [], harness := (true, "07c36be89492cd2262ded5fbe511cdc49b2172cd6a81bb9f01be7d627f5075ec"), looks := false }, kinds := [], alts := [], laidByText := true, laidKinds := [.data, .pinned], laidTests := true, laidLooks := .later }
def StanzaAheadCardSaid : Prop := Claim7.holds Tryd.pinned (.plain (OpenSpec.ofChange stanzaAheadSpec)) stanzaAheadCard

/-- THE TIED CARD OF 'larderlaw03.StanzaThere'. -/
def stanzaThereCard : Claim7 := { stood := { row := stanzaThereRow, standIns := [], harness := (true, "07c36be89492cd2262ded5fbe511cdc49b2172cd6a81bb9f01be7d627f5075ec"), looks := false }, kinds := [], alts := [], laidByText := true, laidKinds := [.data, .pinned], laidTests := true, laidLooks := .later }
def StanzaThereCardSaid : Prop := Claim7.holds Tryd.pinned (.plain (OpenSpec.ofChange stanzaThereSpec)) stanzaThereCard

/-- THE TIED CARD OF 'larderlaw03.StanzaFront'. -/
def stanzaFrontCard : Claim7 := { stood := { row := stanzaFrontRow, standIns := [], harness := (true, "07c36be89492cd2262ded5fbe511cdc49b2172cd6a81bb9f01be7d627f5075ec"), looks := false }, kinds := [], alts := [], laidByText := true, laidKinds := [.data, .pinned], laidTests := true, laidLooks := .later }
def StanzaFrontCardSaid : Prop := Claim7.holds Tryd.pinned (.plain (OpenSpec.ofChange stanzaFrontSpec)) stanzaFrontCard

/-- THE TIED CARD OF 'larderlaw03.StanzaPrints'. -/
def stanzaPrintsCard : Claim7 := { stood := { row := stanzaPrintsRow, standIns := [], harness := (true, "07c36be89492cd2262ded5fbe511cdc49b2172cd6a81bb9f01be7d627f5075ec"), looks := false }, kinds := [], alts := [], laidByText := true, laidKinds := [.data, .pinned], laidTests := true, laidLooks := .later }
def StanzaPrintsCardSaid : Prop := Claim7.holds Tryd.pinned (.plain (OpenSpec.ofChange stanzaPrintsSpec)) stanzaPrintsCard

/-- THE TIED CARD OF 'larderlaw03.StanzaBack'. -/
def stanzaBackCard : Claim7 := { stood := { row := stanzaBackRow, standIns := [], harness := (true, "07c36be89492cd2262ded5fbe511cdc49b2172cd6a81bb9f01be7d627f5075ec"), looks := false }, kinds := [], alts := [], laidByText := true, laidKinds := [.data, .pinned], laidTests := true, laidLooks := .later }
def StanzaBackCardSaid : Prop := Claim7.holds Tryd.pinned (.plain (OpenSpec.ofChange stanzaBackSpec)) stanzaBackCard

/-- THE TIED CARD OF 'larderlaw03.StanzaEach'. -/
def stanzaEachCard : Claim7 := { stood := { row := stanzaEachRow, standIns := [], harness := (true, "07c36be89492cd2262ded5fbe511cdc49b2172cd6a81bb9f01be7d627f5075ec"), looks := false }, kinds := [], alts := [], laidByText := true, laidKinds := [.data, .pinned], laidTests := true, laidLooks := .later }
def StanzaEachCardSaid : Prop := Claim7.holds Tryd.pinned (.plain (OpenSpec.ofChange stanzaEachSpec)) stanzaEachCard

/-- THE TIED CARD OF 'larderlaw03.StanzaParses'. -/
def stanzaParsesCard : Claim7 := { stood := { row := stanzaParsesRow, standIns := [], harness := (true, "07c36be89492cd2262ded5fbe511cdc49b2172cd6a81bb9f01be7d627f5075ec"), looks := false }, kinds := [], alts := [], laidByText := true, laidKinds := [.data, .pinned], laidTests := true, laidLooks := .later }
def StanzaParsesCardSaid : Prop := Claim7.holds Tryd.pinned (.plain (OpenSpec.ofChange stanzaParsesSpec)) stanzaParsesCard

/-- THE SECOND FORM's CARD OF 'larderlaw03.StanzaAhead'. -/
def stanzaAheadUptoCard : Claim7 := { stood := { row := stanzaAheadUptoRow, standIns := [], harness := (true, "07c36be89492cd2262ded5fbe511cdc49b2172cd6a81bb9f01be7d627f5075ec"), looks := false }, kinds := [], alts := [], laidByText := true, laidKinds := [.data, .pinned], laidTests := true, laidLooks := .later }
def StanzaAheadUptoCardSaid : Prop := Claim7.holds Tryd.pinned (.plain (OpenSpec.upto stanzaAheadSpec)) stanzaAheadUptoCard

/-- THE SECOND FORM's CARD OF 'larderlaw03.StanzaThere'. -/
def stanzaThereUptoCard : Claim7 := { stood := { row := stanzaThereUptoRow, standIns := [], harness := (true, "07c36be89492cd2262ded5fbe511cdc49b2172cd6a81bb9f01be7d627f5075ec"), looks := false }, kinds := [], alts := [], laidByText := true, laidKinds := [.data, .pinned], laidTests := true, laidLooks := .later }
def StanzaThereUptoCardSaid : Prop := Claim7.holds Tryd.pinned (.plain (OpenSpec.upto stanzaThereSpec)) stanzaThereUptoCard

/-- THE SECOND FORM's CARD OF 'larderlaw03.StanzaFront'. -/
def stanzaFrontUptoCard : Claim7 := { stood := { row := stanzaFrontUptoRow, standIns := [], harness := (true, "07c36be89492cd2262ded5fbe511cdc49b2172cd6a81bb9f01be7d627f5075ec"), looks := false }, kinds := [], alts := [], laidByText := true, laidKinds := [.data, .pinned], laidTests := true, laidLooks := .later }
def StanzaFrontUptoCardSaid : Prop := Claim7.holds Tryd.pinned (.plain (OpenSpec.upto stanzaFrontSpec)) stanzaFrontUptoCard

/-- THE SECOND FORM's CARD OF 'larderlaw03.StanzaPrints'. -/
def stanzaPrintsUptoCard : Claim7 := { stood := { row := stanzaPrintsUptoRow, standIns := [], harness := (true, "07c36be89492cd2262ded5fbe511cdc49b2172cd6a81bb9f01be7d627f5075ec"), looks := false }, kinds := [], alts := [], laidByText := true, laidKinds := [.data, .pinned], laidTests := true, laidLooks := .later }
def StanzaPrintsUptoCardSaid : Prop := Claim7.holds Tryd.pinned (.plain (OpenSpec.upto stanzaPrintsSpec)) stanzaPrintsUptoCard

/-- THE SECOND FORM's CARD OF 'larderlaw03.StanzaBack'. -/
def stanzaBackUptoCard : Claim7 := { stood := { row := stanzaBackUptoRow, standIns := [], harness := (true, "07c36be89492cd2262ded5fbe511cdc49b2172cd6a81bb9f01be7d627f5075ec"), looks := false }, kinds := [], alts := [], laidByText := true, laidKinds := [.data, .pinned], laidTests := true, laidLooks := .later }
def StanzaBackUptoCardSaid : Prop := Claim7.holds Tryd.pinned (.plain (OpenSpec.upto stanzaBackSpec)) stanzaBackUptoCard

/-- THE SECOND FORM's CARD OF 'larderlaw03.StanzaEach'. -/
def stanzaEachUptoCard : Claim7 := { stood := { row := stanzaEachUptoRow, standIns := [], harness := (true, "07c36be89492cd2262ded5fbe511cdc49b2172cd6a81bb9f01be7d627f5075ec"), looks := false }, kinds := [], alts := [], laidByText := true, laidKinds := [.data, .pinned], laidTests := true, laidLooks := .later }
def StanzaEachUptoCardSaid : Prop := Claim7.holds Tryd.pinned (.plain (OpenSpec.upto stanzaEachSpec)) stanzaEachUptoCard

/-- THE SECOND FORM's CARD OF 'larderlaw03.StanzaParses'. -/
def stanzaParsesUptoCard : Claim7 := { stood := { row := stanzaParsesUptoRow, standIns := [], harness := (true, "07c36be89492cd2262ded5fbe511cdc49b2172cd6a81bb9f01be7d627f5075ec"), looks := false }, kinds := [], alts := [], laidByText := true, laidKinds := [.data, .pinned], laidTests := true, laidLooks := .later }
def StanzaParsesUptoCardSaid : Prop := Claim7.holds Tryd.pinned (.plain (OpenSpec.upto stanzaParsesSpec)) stanzaParsesUptoCard
end Rows
end Go.Proofs.YtiibobjbcgbknaaDoor
