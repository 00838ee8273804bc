/-
  DERIVED. GIVEN WITH THE SEED: THE CARDS: each row of YtkobcopjgmojlaaDoorRows.lean that lists a variable, with what it lists TIED to the program's text (the seventh form; the later family's looks); each row that meets fmt, with fmt's text TOLD by the authors' own Lean function (tested against real Go, not proved from fmt's source: count such statements apart). THE CARD IS WHAT COUNTS. Prove the row's statement (the work); the ties are given (YtkobcopjgmojlaaDoorTie.lean); close each card by the builder's one call (the guide's Derived/Test/ToyasCard.lean, 'card_holds'). Laid BY PROGRAM, IN A SANDBOX (cutbox-door.mjs). By AI agents, Wed Nov 11 2026. No macro, syntax, notation, axiom, sorry.
-/
import Derived.Test.YtkobcopjgmojlaaDoorRows
import GoSem.ClaimSeven
namespace Go.Proofs.YtkobcopjgmojlaaDoor
namespace Rows

/-- THE TIED CARD OF 'larderlaw11.ValidWords'. -/
def validWordsCard : Claim7 := { stood := { row := validWordsRow, standIns := [], harness := (true, "085a1ff272b77b0cfeab36896256aab7e2fee23ef484dc0d4b126409cb226d96"), looks := false }, kinds := [], alts := [], laidByText := true, laidKinds := [.data, .pinned], laidTests := true, laidLooks := .later }
def ValidWordsCardSaid : Prop := Claim7.holds Tryd.pinned (.plain (OpenSpec.ofChange validWordsSpec)) validWordsCard

/-- THE SECOND FORM's CARD OF 'larderlaw11.ValidWords'. -/
def validWordsUptoCard : Claim7 := { stood := { row := validWordsUptoRow, standIns := [], harness := (true, "085a1ff272b77b0cfeab36896256aab7e2fee23ef484dc0d4b126409cb226d96"), looks := false }, kinds := [], alts := [], laidByText := true, laidKinds := [.data, .pinned], laidTests := true, laidLooks := .later }
def ValidWordsUptoCardSaid : Prop := Claim7.holds Tryd.pinned (.plain (OpenSpec.upto validWordsSpec)) validWordsUptoCard
end Rows
end Go.Proofs.YtkobcopjgmojlaaDoor
