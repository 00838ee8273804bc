/-
  DERIVED. GIVEN WITH THE SEED: THE CARDS: each row of YtkpkpebljkcmkaaDoorRows.lean that lists a variable, with what it lists TIED to the program's text (the seventh form; the later family's looks); each row that meets fmt, with fmt's text TOLD by the authors' own Lean function (tested against real Go, not proved from fmt's source: count such statements apart). THE CARD IS WHAT COUNTS. Prove the row's statement (the work); the ties are given (YtkpkpebljkcmkaaDoorTie.lean); close each card by the builder's one call (the guide's Derived/Test/ToyasCard.lean, 'card_holds'). Laid BY PROGRAM, IN A SANDBOX (cutbox-door.mjs). By AI agents, Wed Nov 11 2026. No macro, syntax, notation, axiom, sorry.
-/
import Derived.Test.YtkpkpebljkcmkaaDoorRows
import GoSem.ClaimSeven
namespace Go.Proofs.YtkpkpebljkcmkaaDoor
namespace Rows

/-- THE TIED CARD OF 'larderlaw17.TreeManifest'. -/
def treeManifestCard : Claim7 := { stood := { row := treeManifestRow, standIns := [], harness := (true, "9b5157d07b2dafae69e60b20877d8442c4a96ed3d7c40a7348191af46027e493"), looks := false }, kinds := [], alts := [], laidByText := true, laidKinds := [.data, .data, .data, .data, .pinned], laidTests := true, laidLooks := .later }
def TreeManifestCardSaid : Prop := Claim7.holds Tryd.pinned (.plain (OpenSpec.ofChange treeManifestSpec)) treeManifestCard

/-- THE SECOND FORM's CARD OF 'larderlaw17.TreeManifest'. -/
def treeManifestUptoCard : Claim7 := { stood := { row := treeManifestUptoRow, standIns := [], harness := (true, "9b5157d07b2dafae69e60b20877d8442c4a96ed3d7c40a7348191af46027e493"), looks := false }, kinds := [], alts := [], laidByText := true, laidKinds := [.data, .data, .data, .data, .pinned], laidTests := true, laidLooks := .later }
def TreeManifestUptoCardSaid : Prop := Claim7.holds Tryd.pinned (.plain (OpenSpec.upto treeManifestSpec)) treeManifestUptoCard
end Rows
end Go.Proofs.YtkpkpebljkcmkaaDoor
