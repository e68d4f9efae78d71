/-
  DERIVED. GIVEN WITH THE SEED: THE CARDS: each row of YthkfofldpcbjiaaDoorRows.lean that lists a variable, with what it lists TIED to the program's text (the seventh form; the later family's looks); each row that meets fmt, with fmt's text TOLD by the authors' own Lean function (tested against real Go, not proved from fmt's source: count such statements apart). THE CARD IS WHAT COUNTS. Prove the row's statement (the work); the ties are given (YthkfofldpcbjiaaDoorTie.lean); close each card by the builder's one call (the guide's Derived/Test/ToyasCard.lean, 'card_holds'). Laid BY PROGRAM, IN A SANDBOX (cutbox-door.mjs). By AI agents, Wed Nov 11 2026. No macro, syntax, notation, axiom, sorry.
-/
import Derived.Test.YthkfofldpcbjiaaDoorRows
import GoSem.ClaimSeven
namespace Go.Proofs.YthkfofldpcbjiaaDoor
namespace Rows

/-- THE TIED CARD OF 'laws.FnExactShapeText'. -/
def fnExactShapeTextCard : Claim7 := { stood := { row := fnExactShapeTextRow, standIns := [], harness := (true, "109df3598f560ce1f4c9856b52ed372311afce97ba7462ff3d31e5065baf2815"), looks := true }, kinds := [], alts := [], laidByText := true, laidKinds := [.data, .data, .data], laidTests := true, laidLooks := .later }
def FnExactShapeTextCardSaid : Prop := Claim7.holds Tryd.pinned (.plain (OpenSpec.ofChange fnExactShapeTextSpec)) fnExactShapeTextCard

/-- THE TIED CARD OF 'laws.FnExactShapeRead'. -/
def fnExactShapeReadCard : Claim7 := { stood := { row := fnExactShapeReadRow, standIns := [], harness := (true, "109df3598f560ce1f4c9856b52ed372311afce97ba7462ff3d31e5065baf2815"), looks := true }, kinds := [], alts := [], laidByText := true, laidKinds := [.data, .data, .data, .data, .sentinel, .sentinel, .pinned], laidTests := true, laidLooks := .later }
def FnExactShapeReadCardSaid : Prop := Claim7.holds Tryd.pinned (.plain (OpenSpec.ofChange fnExactShapeReadSpec)) fnExactShapeReadCard

/-- THE TIED CARD OF 'laws.FnExactFeatText'. -/
def fnExactFeatTextCard : Claim7 := { stood := { row := fnExactFeatTextRow, standIns := [], harness := (true, "109df3598f560ce1f4c9856b52ed372311afce97ba7462ff3d31e5065baf2815"), looks := true }, kinds := [], alts := [], laidByText := true, laidKinds := [.data, .data, .data], laidTests := true, laidLooks := .later }
def FnExactFeatTextCardSaid : Prop := Claim7.holds Tryd.pinned (.plain (OpenSpec.ofChange fnExactFeatTextSpec)) fnExactFeatTextCard

/-- THE SECOND FORM's CARD OF 'laws.FnExactShapeText'. -/
def fnExactShapeTextUptoCard : Claim7 := { stood := { row := fnExactShapeTextUptoRow, standIns := [], harness := (true, "109df3598f560ce1f4c9856b52ed372311afce97ba7462ff3d31e5065baf2815"), looks := true }, kinds := [], alts := [], laidByText := true, laidKinds := [.data, .data, .data], laidTests := true, laidLooks := .later }
def FnExactShapeTextUptoCardSaid : Prop := Claim7.holds Tryd.pinned (.plain (OpenSpec.upto fnExactShapeTextSpec)) fnExactShapeTextUptoCard

/-- THE SECOND FORM's CARD OF 'laws.FnExactShapeRead'. -/
def fnExactShapeReadUptoCard : Claim7 := { stood := { row := fnExactShapeReadUptoRow, standIns := [], harness := (true, "109df3598f560ce1f4c9856b52ed372311afce97ba7462ff3d31e5065baf2815"), looks := true }, kinds := [], alts := [], laidByText := true, laidKinds := [.data, .data, .data, .data, .sentinel, .sentinel, .pinned], laidTests := true, laidLooks := .later }
def FnExactShapeReadUptoCardSaid : Prop := Claim7.holds Tryd.pinned (.plain (OpenSpec.upto fnExactShapeReadSpec)) fnExactShapeReadUptoCard

/-- THE SECOND FORM's CARD OF 'laws.FnExactFeatText'. -/
def fnExactFeatTextUptoCard : Claim7 := { stood := { row := fnExactFeatTextUptoRow, standIns := [], harness := (true, "109df3598f560ce1f4c9856b52ed372311afce97ba7462ff3d31e5065baf2815"), looks := true }, kinds := [], alts := [], laidByText := true, laidKinds := [.data, .data, .data], laidTests := true, laidLooks := .later }
def FnExactFeatTextUptoCardSaid : Prop := Claim7.holds Tryd.pinned (.plain (OpenSpec.upto fnExactFeatTextSpec)) fnExactFeatTextUptoCard
end Rows
end Go.Proofs.YthkfofldpcbjiaaDoor
