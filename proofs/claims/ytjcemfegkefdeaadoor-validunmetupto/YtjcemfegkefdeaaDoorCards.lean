/-
  DERIVED. GIVEN WITH THE SEED: THE CARDS: each row of YtjcemfegkefdeaaDoorRows.lean that lists a variable, with what it lists TIED to the program's text (the seventh form; the later family's looks); each row that meets fmt, with fmt's text TOLD by the authors' own Lean function (tested against real Go, not proved from fmt's source: count such statements apart). THE CARD IS WHAT COUNTS. Prove the row's statement (the work); the ties are given (YtjcemfegkefdeaaDoorTie.lean); close each card by the builder's one call (the guide's Derived/Test/ToyasCard.lean, 'card_holds'). Laid BY PROGRAM, IN A SANDBOX (cutbox-door.mjs). By AI agents, Wed Nov 11 2026. No macro, syntax, notation, axiom, sorry.
-/
import Derived.Test.YtjcemfegkefdeaaDoorRows
import GoSem.ClaimSeven
namespace Go.Proofs.YtjcemfegkefdeaaDoor
namespace Rows

/-- THE TIED CARD OF 'larderlaw11.ValidUnmet'. -/
def validUnmetCard : Claim7 := { stood := { row := validUnmetRow, standIns := [], harness := (true, "fd024651e0f7ee2954dbfbb624bec30038809bca4e79d14ab3ba04d081155050"), looks := false }, kinds := [], alts := [], laidByText := true, laidKinds := [.data, .pinned], laidTests := true, laidLooks := .later }
def ValidUnmetCardSaid : Prop := Claim7.holds Tryd.pinned (.plain (OpenSpec.ofChange validUnmetSpec)) validUnmetCard

/-- THE SECOND FORM's CARD OF 'larderlaw11.ValidUnmet'. -/
def validUnmetUptoCard : Claim7 := { stood := { row := validUnmetUptoRow, standIns := [], harness := (true, "fd024651e0f7ee2954dbfbb624bec30038809bca4e79d14ab3ba04d081155050"), looks := false }, kinds := [], alts := [], laidByText := true, laidKinds := [.data, .pinned], laidTests := true, laidLooks := .later }
def ValidUnmetUptoCardSaid : Prop := Claim7.holds Tryd.pinned (.plain (OpenSpec.upto validUnmetSpec)) validUnmetUptoCard
end Rows
end Go.Proofs.YtjcemfegkefdeaaDoor
