/-
  DERIVED. GIVEN WITH THE SEED: THE CARDS: each row of YtjmomdnlibfbkaaDoorRows.lean that lists a variable, with what it lists TIED to the program's text (the seventh form; the later family's looks); each row that meets fmt, with fmt's text TOLD by the authors' own Lean function (tested against real Go, not proved from fmt's source: count such statements apart). THE CARD IS WHAT COUNTS. Prove the row's statement (the work); the ties are given (YtjmomdnlibfbkaaDoorTie.lean); close each card by the builder's one call (the guide's Derived/Test/ToyasCard.lean, 'card_holds'). Laid BY PROGRAM, IN A SANDBOX (cutbox-door.mjs). By AI agents, Wed Nov 11 2026. No macro, syntax, notation, axiom, sorry.
-/
import Derived.Test.YtjmomdnlibfbkaaDoorRows
import GoSem.ClaimSeven
namespace Go.Proofs.YtjmomdnlibfbkaaDoor
namespace Rows

/-- THE TIED CARD OF 'larderlaw07.ArchiveBack'. -/
def archiveBackCard : Claim7 := { stood := { row := archiveBackRow, standIns := [], harness := (true, "11b6f1c9b56c20349598226e1a1dfcac61ff5a30ec042d34be484f2e72f49c91"), looks := false }, kinds := [], alts := [], laidByText := true, laidKinds := [.data, .pinned], laidTests := true, laidLooks := .later }
def ArchiveBackCardSaid : Prop := Claim7.holds Tryd.pinned (.plain (OpenSpec.ofChange archiveBackSpec)) archiveBackCard

/-- THE TIED CARD OF 'larderlaw07.ArchiveUntars'. -/
def archiveUntarsCard : Claim7 := { stood := { row := archiveUntarsRow, standIns := [], harness := (true, "11b6f1c9b56c20349598226e1a1dfcac61ff5a30ec042d34be484f2e72f49c91"), looks := false }, kinds := [], alts := [], laidByText := true, laidKinds := [.data, .data, .data, .data, .pinned], laidTests := true, laidLooks := .later }
def ArchiveUntarsCardSaid : Prop := Claim7.holds Tryd.pinned (.plain (OpenSpec.ofChange archiveUntarsSpec)) archiveUntarsCard

/-- THE SECOND FORM's CARD OF 'larderlaw07.ArchiveBack'. -/
def archiveBackUptoCard : Claim7 := { stood := { row := archiveBackUptoRow, standIns := [], harness := (true, "11b6f1c9b56c20349598226e1a1dfcac61ff5a30ec042d34be484f2e72f49c91"), looks := false }, kinds := [], alts := [], laidByText := true, laidKinds := [.data, .pinned], laidTests := true, laidLooks := .later }
def ArchiveBackUptoCardSaid : Prop := Claim7.holds Tryd.pinned (.plain (OpenSpec.upto archiveBackSpec)) archiveBackUptoCard

/-- THE SECOND FORM's CARD OF 'larderlaw07.ArchiveUntars'. -/
def archiveUntarsUptoCard : Claim7 := { stood := { row := archiveUntarsUptoRow, standIns := [], harness := (true, "11b6f1c9b56c20349598226e1a1dfcac61ff5a30ec042d34be484f2e72f49c91"), looks := false }, kinds := [], alts := [], laidByText := true, laidKinds := [.data, .data, .data, .data, .pinned], laidTests := true, laidLooks := .later }
def ArchiveUntarsUptoCardSaid : Prop := Claim7.holds Tryd.pinned (.plain (OpenSpec.upto archiveUntarsSpec)) archiveUntarsUptoCard
end Rows
end Go.Proofs.YtjmomdnlibfbkaaDoor
