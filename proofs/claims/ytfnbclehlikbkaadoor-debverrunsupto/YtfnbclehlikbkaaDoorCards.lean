/-
  DERIVED. GIVEN WITH THE SEED: THE CARDS: each row of YtfnbclehlikbkaaDoorRows.lean that lists a variable, with what it lists TIED to the program's text (the seventh form; the later family's looks); each row that meets fmt, with fmt's text TOLD by the authors' own Lean function (tested against real Go, not proved from fmt's source: count such statements apart). THE CARD IS WHAT COUNTS. Prove the row's statement (the work); the ties are given (YtfnbclehlikbkaaDoorTie.lean); close each card by the builder's one call (the guide's Derived/Test/ToyasCard.lean, 'card_holds'). Laid BY PROGRAM, IN A SANDBOX (cutbox-door.mjs). By AI agents, Wed Nov 11 2026. No macro, syntax, notation, axiom, sorry.
-/
import Derived.Test.YtfnbclehlikbkaaDoorRows
import GoSem.ClaimSeven
namespace Go.Proofs.YtfnbclehlikbkaaDoor
namespace Rows

/-- THE TIED CARD OF 'larderlaw01.DebverPreorder'. -/
def debverPreorderCard : Claim7 := { stood := { row := debverPreorderRow, standIns := [], harness := (true, "4a175b205993c713a6238a21210661dc5070d86b2b998e27ba023030510d4a9b"), looks := false }, kinds := [], alts := [], laidByText := true, laidKinds := [.data, .pinned], laidTests := true, laidLooks := .later }
def DebverPreorderCardSaid : Prop := Claim7.holds Tryd.pinned (.plain (OpenSpec.ofChange debverPreorderSpec)) debverPreorderCard

/-- THE TIED CARD OF 'larderlaw01.DebverBounds'. -/
def debverBoundsCard : Claim7 := { stood := { row := debverBoundsRow, standIns := [], harness := (true, "4a175b205993c713a6238a21210661dc5070d86b2b998e27ba023030510d4a9b"), looks := false }, kinds := [], alts := [], laidByText := true, laidKinds := [.data, .pinned], laidTests := true, laidLooks := .later }
def DebverBoundsCardSaid : Prop := Claim7.holds Tryd.pinned (.plain (OpenSpec.ofChange debverBoundsSpec)) debverBoundsCard

/-- THE TIED CARD OF 'larderlaw01.DebverNoughts'. -/
def debverNoughtsCard : Claim7 := { stood := { row := debverNoughtsRow, standIns := [], harness := (true, "4a175b205993c713a6238a21210661dc5070d86b2b998e27ba023030510d4a9b"), looks := false }, kinds := [], alts := [], laidByText := true, laidKinds := [.data, .pinned], laidTests := true, laidLooks := .later }
def DebverNoughtsCardSaid : Prop := Claim7.holds Tryd.pinned (.plain (OpenSpec.ofChange debverNoughtsSpec)) debverNoughtsCard

/-- THE TIED CARD OF 'larderlaw01.DebverBack'. -/
def debverBackCard : Claim7 := { stood := { row := debverBackRow, standIns := [], harness := (true, "4a175b205993c713a6238a21210661dc5070d86b2b998e27ba023030510d4a9b"), looks := false }, kinds := [], alts := [], laidByText := true, laidKinds := [.data, .pinned], laidTests := true, laidLooks := .later }
def DebverBackCardSaid : Prop := Claim7.holds Tryd.pinned (.plain (OpenSpec.ofChange debverBackSpec)) debverBackCard

/-- THE TIED CARD OF 'larderlaw01.DebverSorted'. -/
def debverSortedCard : Claim7 := { stood := { row := debverSortedRow, standIns := [], harness := (true, "4a175b205993c713a6238a21210661dc5070d86b2b998e27ba023030510d4a9b"), looks := false }, kinds := [], alts := [], laidByText := true, laidKinds := [.data, .pinned], laidTests := true, laidLooks := .later }
def DebverSortedCardSaid : Prop := Claim7.holds Tryd.pinned (.plain (OpenSpec.ofChange debverSortedSpec)) debverSortedCard

/-- THE TIED CARD OF 'larderlaw01.DebverRuns'. -/
def debverRunsCard : Claim7 := { stood := { row := debverRunsRow, standIns := [], harness := (true, "4a175b205993c713a6238a21210661dc5070d86b2b998e27ba023030510d4a9b"), looks := false }, kinds := [], alts := [], laidByText := true, laidKinds := [.data, .pinned], laidTests := true, laidLooks := .later }
def DebverRunsCardSaid : Prop := Claim7.holds Tryd.pinned (.plain (OpenSpec.ofChange debverRunsSpec)) debverRunsCard

/-- THE TIED CARD OF 'larderlaw01.DebverOrders'. -/
def debverOrdersCard : Claim7 := { stood := { row := debverOrdersRow, standIns := [], harness := (true, "4a175b205993c713a6238a21210661dc5070d86b2b998e27ba023030510d4a9b"), looks := false }, kinds := [], alts := [], laidByText := true, laidKinds := [.data, .pinned], laidTests := true, laidLooks := .later }
def DebverOrdersCardSaid : Prop := Claim7.holds Tryd.pinned (.plain (OpenSpec.ofChange debverOrdersSpec)) debverOrdersCard

/-- THE TIED CARD OF 'larderlaw01.DebverFits'. -/
def debverFitsCard : Claim7 := { stood := { row := debverFitsRow, standIns := [], harness := (true, "4a175b205993c713a6238a21210661dc5070d86b2b998e27ba023030510d4a9b"), looks := false }, kinds := [], alts := [], laidByText := true, laidKinds := [.data, .pinned], laidTests := true, laidLooks := .later }
def DebverFitsCardSaid : Prop := Claim7.holds Tryd.pinned (.plain (OpenSpec.ofChange debverFitsSpec)) debverFitsCard

/-- THE TIED CARD OF 'larderlaw01.DebverSorts'. -/
def debverSortsCard : Claim7 := { stood := { row := debverSortsRow, standIns := [], harness := (true, "4a175b205993c713a6238a21210661dc5070d86b2b998e27ba023030510d4a9b"), looks := false }, kinds := [], alts := [], laidByText := true, laidKinds := [.data, .pinned], laidTests := true, laidLooks := .later }
def DebverSortsCardSaid : Prop := Claim7.holds Tryd.pinned (.plain (OpenSpec.ofChange debverSortsSpec)) debverSortsCard

/-- THE SECOND FORM's CARD OF 'larderlaw01.DebverPreorder'. -/
def debverPreorderUptoCard : Claim7 := { stood := { row := debverPreorderUptoRow, standIns := [], harness := (true, "4a175b205993c713a6238a21210661dc5070d86b2b998e27ba023030510d4a9b"), looks := false }, kinds := [], alts := [], laidByText := true, laidKinds := [.data, .pinned], laidTests := true, laidLooks := .later }
def DebverPreorderUptoCardSaid : Prop := Claim7.holds Tryd.pinned (.plain (OpenSpec.upto debverPreorderSpec)) debverPreorderUptoCard

/-- THE SECOND FORM's CARD OF 'larderlaw01.DebverBounds'. -/
def debverBoundsUptoCard : Claim7 := { stood := { row := debverBoundsUptoRow, standIns := [], harness := (true, "4a175b205993c713a6238a21210661dc5070d86b2b998e27ba023030510d4a9b"), looks := false }, kinds := [], alts := [], laidByText := true, laidKinds := [.data, .pinned], laidTests := true, laidLooks := .later }
def DebverBoundsUptoCardSaid : Prop := Claim7.holds Tryd.pinned (.plain (OpenSpec.upto debverBoundsSpec)) debverBoundsUptoCard

/-- THE SECOND FORM's CARD OF 'larderlaw01.DebverNoughts'. -/
def debverNoughtsUptoCard : Claim7 := { stood := { row := debverNoughtsUptoRow, standIns := [], harness := (true, "4a175b205993c713a6238a21210661dc5070d86b2b998e27ba023030510d4a9b"), looks := false }, kinds := [], alts := [], laidByText := true, laidKinds := [.data, .pinned], laidTests := true, laidLooks := .later }
def DebverNoughtsUptoCardSaid : Prop := Claim7.holds Tryd.pinned (.plain (OpenSpec.upto debverNoughtsSpec)) debverNoughtsUptoCard

/-- THE SECOND FORM's CARD OF 'larderlaw01.DebverBack'. -/
def debverBackUptoCard : Claim7 := { stood := { row := debverBackUptoRow, standIns := [], harness := (true, "4a175b205993c713a6238a21210661dc5070d86b2b998e27ba023030510d4a9b"), looks := false }, kinds := [], alts := [], laidByText := true, laidKinds := [.data, .pinned], laidTests := true, laidLooks := .later }
def DebverBackUptoCardSaid : Prop := Claim7.holds Tryd.pinned (.plain (OpenSpec.upto debverBackSpec)) debverBackUptoCard

/-- THE SECOND FORM's CARD OF 'larderlaw01.DebverSorted'. -/
def debverSortedUptoCard : Claim7 := { stood := { row := debverSortedUptoRow, standIns := [], harness := (true, "4a175b205993c713a6238a21210661dc5070d86b2b998e27ba023030510d4a9b"), looks := false }, kinds := [], alts := [], laidByText := true, laidKinds := [.data, .pinned], laidTests := true, laidLooks := .later }
def DebverSortedUptoCardSaid : Prop := Claim7.holds Tryd.pinned (.plain (OpenSpec.upto debverSortedSpec)) debverSortedUptoCard

/-- THE SECOND FORM's CARD OF 'larderlaw01.DebverRuns'. -/
def debverRunsUptoCard : Claim7 := { stood := { row := debverRunsUptoRow, standIns := [], harness := (true, "4a175b205993c713a6238a21210661dc5070d86b2b998e27ba023030510d4a9b"), looks := false }, kinds := [], alts := [], laidByText := true, laidKinds := [.data, .pinned], laidTests := true, laidLooks := .later }
def DebverRunsUptoCardSaid : Prop := Claim7.holds Tryd.pinned (.plain (OpenSpec.upto debverRunsSpec)) debverRunsUptoCard

/-- THE SECOND FORM's CARD OF 'larderlaw01.DebverOrders'. -/
def debverOrdersUptoCard : Claim7 := { stood := { row := debverOrdersUptoRow, standIns := [], harness := (true, "4a175b205993c713a6238a21210661dc5070d86b2b998e27ba023030510d4a9b"), looks := false }, kinds := [], alts := [], laidByText := true, laidKinds := [.data, .pinned], laidTests := true, laidLooks := .later }
def DebverOrdersUptoCardSaid : Prop := Claim7.holds Tryd.pinned (.plain (OpenSpec.upto debverOrdersSpec)) debverOrdersUptoCard

/-- THE SECOND FORM's CARD OF 'larderlaw01.DebverFits'. -/
def debverFitsUptoCard : Claim7 := { stood := { row := debverFitsUptoRow, standIns := [], harness := (true, "4a175b205993c713a6238a21210661dc5070d86b2b998e27ba023030510d4a9b"), looks := false }, kinds := [], alts := [], laidByText := true, laidKinds := [.data, .pinned], laidTests := true, laidLooks := .later }
def DebverFitsUptoCardSaid : Prop := Claim7.holds Tryd.pinned (.plain (OpenSpec.upto debverFitsSpec)) debverFitsUptoCard

/-- THE SECOND FORM's CARD OF 'larderlaw01.DebverSorts'. -/
def debverSortsUptoCard : Claim7 := { stood := { row := debverSortsUptoRow, standIns := [], harness := (true, "4a175b205993c713a6238a21210661dc5070d86b2b998e27ba023030510d4a9b"), looks := false }, kinds := [], alts := [], laidByText := true, laidKinds := [.data, .pinned], laidTests := true, laidLooks := .later }
def DebverSortsUptoCardSaid : Prop := Claim7.holds Tryd.pinned (.plain (OpenSpec.upto debverSortsSpec)) debverSortsUptoCard
end Rows
end Go.Proofs.YtfnbclehlikbkaaDoor
