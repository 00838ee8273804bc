/-
  DERIVED. GIVEN WITH THE SEED: THE CARDS: each row of YtbbhokciileogaaDoorRows.lean that lists a variable, with what it lists TIED to the program's text (the seventh form; the later family's looks); each row that meets fmt, with fmt's text TOLD by the authors' own Lean function (tested against real Go, not proved from fmt's source: count such statements apart). THE CARD IS WHAT COUNTS. Prove the row's statement (the work); the ties are given (YtbbhokciileogaaDoorTie.lean); close each card by the builder's one call (the guide's Derived/Test/ToyasCard.lean, 'card_holds'). Laid BY PROGRAM, IN A SANDBOX (cutbox-door.mjs). By AI agents, Wed Nov 11 2026. No macro, syntax, notation, axiom, sorry.
-/
import Derived.Test.YtbbhokciileogaaDoorRows
import GoSem.ClaimSeven
namespace Go.Proofs.YtbbhokciileogaaDoor
namespace Rows

/-- THE TIED CARD OF 'larderlaw04.ControlPaths'. -/
def controlPathsCard : Claim7 := { stood := { row := controlPathsRow, standIns := [], harness := (true, "0f6f808eeb44620a5d7d1f6f16c5400998240c7ad5f80516b2b5ac67b8dcc0fd"), looks := false }, kinds := [], alts := [], laidByText := true, laidKinds := [.data, .pinned], laidTests := true, laidLooks := .later }
def ControlPathsCardSaid : Prop := Claim7.holds Tryd.pinned (.plain (OpenSpec.ofChange controlPathsSpec)) controlPathsCard

/-- THE SECOND FORM's CARD OF 'larderlaw04.ControlPaths'. -/
def controlPathsUptoCard : Claim7 := { stood := { row := controlPathsUptoRow, standIns := [], harness := (true, "0f6f808eeb44620a5d7d1f6f16c5400998240c7ad5f80516b2b5ac67b8dcc0fd"), looks := false }, kinds := [], alts := [], laidByText := true, laidKinds := [.data, .pinned], laidTests := true, laidLooks := .later }
def ControlPathsUptoCardSaid : Prop := Claim7.holds Tryd.pinned (.plain (OpenSpec.upto controlPathsSpec)) controlPathsUptoCard
end Rows
end Go.Proofs.YtbbhokciileogaaDoor
