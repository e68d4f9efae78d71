/-
  DERIVED. GIVEN WITH THE SEED: THE CARDS: each row of YtelimcknhaflfaaGreatDoorRows.lean that lists a variable, with what it lists TIED to the program's text (the seventh form; the later family's looks); each row that meets fmt, with fmt's text TOLD by the authors' own Lean function (tested against real Go, not proved from fmt's source: count such statements apart). THE CARD IS WHAT COUNTS. Prove the row's statement (the work); the ties are given (YtelimcknhaflfaaGreatDoorTie.lean); close each card by the builder's one call (the guide's Derived/Test/ToyasCard.lean, 'card_holds'). Laid BY PROGRAM, IN A SANDBOX (cutbox-door.mjs). By AI agents, Wed Nov 11 2026. No macro, syntax, notation, axiom, sorry.
-/
import Derived.Test.YtelimcknhaflfaaGreatDoorRows
import GoSem.ClaimSeven
namespace Go.Proofs.YtelimcknhaflfaaGreatDoor
namespace Rows

/-- THE TIED CARD OF 'laws.FnExactDiffText'. -/
def fnExactDiffTextCard : Claim7 := { stood := { row := fnExactDiffTextRow, standIns := [], harness := (true, "ce4f3ac93db915b4720ff6b618a2d72f6e63b20727702bbc8546c230a201626a"), looks := false }, kinds := [], alts := [], laidByText := true, laidKinds := [.data, .data, .data], laidTests := true, laidLooks := .later }
def FnExactDiffTextCardSaid : Prop := Claim7.holds Tryz.pinned (.plain (OpenSpec.ofChange fnExactDiffTextSpec)) fnExactDiffTextCard

/-- THE SECOND FORM's CARD OF 'laws.FnExactDiffText'. -/
def fnExactDiffTextUptoCard : Claim7 := { stood := { row := fnExactDiffTextUptoRow, standIns := [], harness := (true, "ce4f3ac93db915b4720ff6b618a2d72f6e63b20727702bbc8546c230a201626a"), looks := false }, kinds := [], alts := [], laidByText := true, laidKinds := [.data, .data, .data], laidTests := true, laidLooks := .later }
def FnExactDiffTextUptoCardSaid : Prop := Claim7.holds Tryz.pinned (.plain (OpenSpec.upto fnExactDiffTextSpec)) fnExactDiffTextUptoCard
end Rows
end Go.Proofs.YtelimcknhaflfaaGreatDoor
