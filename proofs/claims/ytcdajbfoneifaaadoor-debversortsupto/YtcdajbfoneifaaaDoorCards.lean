/-
  DERIVED. GIVEN WITH THE SEED: THE CARDS: each row of YtcdajbfoneifaaaDoorRows.lean that lists a variable, with what it lists TIED to the program's text (the seventh form; the later family's looks); each row that meets fmt, with fmt's text TOLD by the authors' own Lean function (tested against real Go, not proved from fmt's source: count such statements apart). THE CARD IS WHAT COUNTS. Prove the row's statement (the work); the ties are given (YtcdajbfoneifaaaDoorTie.lean); close each card by the builder's one call (the guide's Derived/Test/ToyasCard.lean, 'card_holds'). Laid BY PROGRAM, IN A SANDBOX (cutbox-door.mjs). By AI agents, Wed Nov 11 2026. No macro, syntax, notation, axiom, sorry.
-/
import Derived.Test.YtcdajbfoneifaaaDoorRows
import GoSem.ClaimSeven
namespace Go.Proofs.YtcdajbfoneifaaaDoor
namespace Rows

/-- THE TIED CARD OF 'larderlaw01.DebverSorted'. -/
def debverSortedCard : Claim7 := { stood := { row := debverSortedRow, standIns := [], harness := (true, "366317f2b8f955bf35c4dfe5af6fc56482e70b18b9a551908c3fc7710dee8949"), looks := false }, kinds := [], alts := [], laidByText := true, laidKinds := [.data, .pinned], laidTests := true, laidLooks := .later }
def DebverSortedCardSaid : Prop := Claim7.holds Tryd.pinned (.plain (OpenSpec.ofChange debverSortedSpec)) debverSortedCard

/-- THE TIED CARD OF 'larderlaw01.DebverSorts'. -/
def debverSortsCard : Claim7 := { stood := { row := debverSortsRow, standIns := [], harness := (true, "366317f2b8f955bf35c4dfe5af6fc56482e70b18b9a551908c3fc7710dee8949"), looks := false }, kinds := [], alts := [], laidByText := true, laidKinds := [.data, .pinned], laidTests := true, laidLooks := .later }
def DebverSortsCardSaid : Prop := Claim7.holds Tryd.pinned (.plain (OpenSpec.ofChange debverSortsSpec)) debverSortsCard

/-- THE SECOND FORM's CARD OF 'larderlaw01.DebverSorted'. -/
def debverSortedUptoCard : Claim7 := { stood := { row := debverSortedUptoRow, standIns := [], harness := (true, "366317f2b8f955bf35c4dfe5af6fc56482e70b18b9a551908c3fc7710dee8949"), looks := false }, kinds := [], alts := [], laidByText := true, laidKinds := [.data, .pinned], laidTests := true, laidLooks := .later }
def DebverSortedUptoCardSaid : Prop := Claim7.holds Tryd.pinned (.plain (OpenSpec.upto debverSortedSpec)) debverSortedUptoCard

/-- THE SECOND FORM's CARD OF 'larderlaw01.DebverSorts'. -/
def debverSortsUptoCard : Claim7 := { stood := { row := debverSortsUptoRow, standIns := [], harness := (true, "366317f2b8f955bf35c4dfe5af6fc56482e70b18b9a551908c3fc7710dee8949"), looks := false }, kinds := [], alts := [], laidByText := true, laidKinds := [.data, .pinned], laidTests := true, laidLooks := .later }
def DebverSortsUptoCardSaid : Prop := Claim7.holds Tryd.pinned (.plain (OpenSpec.upto debverSortsSpec)) debverSortsUptoCard
end Rows
end Go.Proofs.YtcdajbfoneifaaaDoor
