/-
  No cell of these rows narrows 'for every input' (looked for: loops, veiled, ifaces, maps, wideKeys, modest, calm, conditions, laid).
  DERIVED. THE GIVEN ROWS OF THIS SEAT. 9 by the template 'for every input the law returns true; each argument reads behind the call as it read before'; 0 by the template 'total and deterministic' (their statements: YtopbpokcffdjnaaTotals.lean).
  GIVEN WITH THE SEED: the statements are not yours to turn. If you find one false, say at which input.
  Laid BY PROGRAM, IN A SANDBOX (cutbox-rows.mjs): the forced cells as the released guide's own fill.sh prints them over the translation fbc3d7ba5ac31c23… (all of the seat's roots in one cut). By AI agents, Wed Nov 11 2026. No macro, syntax, notation, axiom, sorry.
-/
import Derived.Test.YtopbpokcffdjnaaChecked
import GoSem.Claim
import GoSem.ClaimJoined
import GoSem.ClaimMapViews
import Derived.JoinedTies
import Derived.KernelRfl
namespace Go.Proofs.Ytopbpokcffdjnaa
/- THE CELL 'sum', in the pinned program and in every row, IS THE sha256 OF THE DUMP (.gsa) THAT YtopbpokcffdjnaaProg.lean LOADS. Nothing in Lean hashes anything: it is a label: what it is worth is what the hold of that sum in a sandbox is worth. -/
noncomputable def Try.pinned : Pinned := { name := "ytopbpokcffdjnaa", sum := "fbc3d7ba5ac31c2340ba16ef2c23e265f5c262d9b5ca1306d0bfa09579383e66", checked := Try.checked }
namespace Rows
def none {H : Type} : Left H := { results := [], args := [] }

/-- 'laws.FnShapeBox': WHATEVER THE INPUT: true; the input reads as it did. -/
def fnShapeBoxSpec : ChangeSpec := { name := "fnShapeBox", fn := fun _ => fun
  | [d] => { results := [.lit (.bool true)], args := [d] }
  | _ => none }
def fnShapeBoxRow : OpenClaim := { program := "ytopbpokcffdjnaa", sum := "fbc3d7ba5ac31c2340ba16ef2c23e265f5c262d9b5ca1306d0bfa09579383e66", func := "loop.example/townland/laws.FnShapeBox", spec := "fnShapeBox", unfollowed := true, recurses := true, apart := false }
def FnShapeBoxSaid : Prop := fnShapeBoxRow.holds Try.pinned (OpenSpec.ofChange fnShapeBoxSpec)

/-- ITS FALSE NEIGHBOUR: 'it returns false'. Refute it at one input. -/
def fnShapeBoxWrong : ChangeSpec := { name := "fnShapeBox", fn := fun _ => fun
  | [d] => { results := [.lit (.bool false)], args := [d] }
  | _ => none }
def FnShapeBoxWrongFalsely : Prop := fnShapeBoxRow.holds Try.pinned (OpenSpec.ofChange fnShapeBoxWrong)

/-- 'laws.FnShapeArea': WHATEVER THE INPUT: true; the input reads as it did. -/
def fnShapeAreaSpec : ChangeSpec := { name := "fnShapeArea", fn := fun _ => fun
  | [d] => { results := [.lit (.bool true)], args := [d] }
  | _ => none }
def fnShapeAreaRow : OpenClaim := { program := "ytopbpokcffdjnaa", sum := "fbc3d7ba5ac31c2340ba16ef2c23e265f5c262d9b5ca1306d0bfa09579383e66", func := "loop.example/townland/laws.FnShapeArea", spec := "fnShapeArea", unfollowed := true, recurses := true, apart := false }
def FnShapeAreaSaid : Prop := fnShapeAreaRow.holds Try.pinned (OpenSpec.ofChange fnShapeAreaSpec)

/-- ITS FALSE NEIGHBOUR: 'it returns false'. Refute it at one input. -/
def fnShapeAreaWrong : ChangeSpec := { name := "fnShapeArea", fn := fun _ => fun
  | [d] => { results := [.lit (.bool false)], args := [d] }
  | _ => none }
def FnShapeAreaWrongFalsely : Prop := fnShapeAreaRow.holds Try.pinned (OpenSpec.ofChange fnShapeAreaWrong)

/-- 'laws.FnExactShapeOk': WHATEVER THE INPUT: true; the input reads as it did. -/
def fnExactShapeOkSpec : ChangeSpec := { name := "fnExactShapeOk", fn := fun _ => fun
  | [d] => { results := [.lit (.bool true)], args := [d] }
  | _ => none }
def fnExactShapeOkRow : OpenClaim := { program := "ytopbpokcffdjnaa", sum := "fbc3d7ba5ac31c2340ba16ef2c23e265f5c262d9b5ca1306d0bfa09579383e66", func := "loop.example/townland/laws.FnExactShapeOk", spec := "fnExactShapeOk", unfollowed := true, recurses := true, apart := false }
def FnExactShapeOkSaid : Prop := fnExactShapeOkRow.holds Try.pinned (OpenSpec.ofChange fnExactShapeOkSpec)

/-- ITS FALSE NEIGHBOUR: 'it returns false'. Refute it at one input. -/
def fnExactShapeOkWrong : ChangeSpec := { name := "fnExactShapeOk", fn := fun _ => fun
  | [d] => { results := [.lit (.bool false)], args := [d] }
  | _ => none }
def FnExactShapeOkWrongFalsely : Prop := fnExactShapeOkRow.holds Try.pinned (OpenSpec.ofChange fnExactShapeOkWrong)

/-- 'laws.FnExactShapeSame': WHATEVER THE INPUT: true; the input reads as it did. -/
def fnExactShapeSameSpec : ChangeSpec := { name := "fnExactShapeSame", fn := fun _ => fun
  | [d1, d2] => { results := [.lit (.bool true)], args := [d1, d2] }
  | _ => none }
def fnExactShapeSameRow : OpenClaim := { program := "ytopbpokcffdjnaa", sum := "fbc3d7ba5ac31c2340ba16ef2c23e265f5c262d9b5ca1306d0bfa09579383e66", func := "loop.example/townland/laws.FnExactShapeSame", spec := "fnExactShapeSame", apart := false }
def FnExactShapeSameSaid : Prop := fnExactShapeSameRow.holds Try.pinned (OpenSpec.ofChange fnExactShapeSameSpec)

/-- ITS FALSE NEIGHBOUR: 'it returns false'. Refute it at one input. -/
def fnExactShapeSameWrong : ChangeSpec := { name := "fnExactShapeSame", fn := fun _ => fun
  | [d1, d2] => { results := [.lit (.bool false)], args := [d1, d2] }
  | _ => none }
def FnExactShapeSameWrongFalsely : Prop := fnExactShapeSameRow.holds Try.pinned (OpenSpec.ofChange fnExactShapeSameWrong)

/-- 'laws.FnExactShapeMove': WHATEVER THE INPUT: true; the input reads as it did. -/
def fnExactShapeMoveSpec : ChangeSpec := { name := "fnExactShapeMove", fn := fun _ => fun
  | [d1, d2, d3] => { results := [.lit (.bool true)], args := [d1, d2, d3] }
  | _ => none }
def fnExactShapeMoveRow : OpenClaim := { program := "ytopbpokcffdjnaa", sum := "fbc3d7ba5ac31c2340ba16ef2c23e265f5c262d9b5ca1306d0bfa09579383e66", func := "loop.example/townland/laws.FnExactShapeMove", spec := "fnExactShapeMove", unfollowed := true, recurses := true, apart := false }
def FnExactShapeMoveSaid : Prop := fnExactShapeMoveRow.holds Try.pinned (OpenSpec.ofChange fnExactShapeMoveSpec)

/-- ITS FALSE NEIGHBOUR: 'it returns false'. Refute it at one input. -/
def fnExactShapeMoveWrong : ChangeSpec := { name := "fnExactShapeMove", fn := fun _ => fun
  | [d1, d2, d3] => { results := [.lit (.bool false)], args := [d1, d2, d3] }
  | _ => none }
def FnExactShapeMoveWrongFalsely : Prop := fnExactShapeMoveRow.holds Try.pinned (OpenSpec.ofChange fnExactShapeMoveWrong)

/-- 'laws.FnExactShapeBack': WHATEVER THE INPUT: true; the input reads as it did. -/
def fnExactShapeBackSpec : ChangeSpec := { name := "fnExactShapeBack", fn := fun _ => fun
  | [d] => { results := [.lit (.bool true)], args := [d] }
  | _ => none }
def fnExactShapeBackRow : OpenClaim := { program := "ytopbpokcffdjnaa", sum := "fbc3d7ba5ac31c2340ba16ef2c23e265f5c262d9b5ca1306d0bfa09579383e66", func := "loop.example/townland/laws.FnExactShapeBack", spec := "fnExactShapeBack", unfollowed := true, recurses := true, apart := false }
def FnExactShapeBackSaid : Prop := fnExactShapeBackRow.holds Try.pinned (OpenSpec.ofChange fnExactShapeBackSpec)

/-- ITS FALSE NEIGHBOUR: 'it returns false'. Refute it at one input. -/
def fnExactShapeBackWrong : ChangeSpec := { name := "fnExactShapeBack", fn := fun _ => fun
  | [d] => { results := [.lit (.bool false)], args := [d] }
  | _ => none }
def FnExactShapeBackWrongFalsely : Prop := fnExactShapeBackRow.holds Try.pinned (OpenSpec.ofChange fnExactShapeBackWrong)

/-- 'laws.FnExactShapeTurn': WHATEVER THE INPUT: true; the input reads as it did. -/
def fnExactShapeTurnSpec : ChangeSpec := { name := "fnExactShapeTurn", fn := fun _ => fun
  | [d] => { results := [.lit (.bool true)], args := [d] }
  | _ => none }
def fnExactShapeTurnRow : OpenClaim := { program := "ytopbpokcffdjnaa", sum := "fbc3d7ba5ac31c2340ba16ef2c23e265f5c262d9b5ca1306d0bfa09579383e66", func := "loop.example/townland/laws.FnExactShapeTurn", spec := "fnExactShapeTurn", unfollowed := true, recurses := true, apart := false }
def FnExactShapeTurnSaid : Prop := fnExactShapeTurnRow.holds Try.pinned (OpenSpec.ofChange fnExactShapeTurnSpec)

/-- ITS FALSE NEIGHBOUR: 'it returns false'. Refute it at one input. -/
def fnExactShapeTurnWrong : ChangeSpec := { name := "fnExactShapeTurn", fn := fun _ => fun
  | [d] => { results := [.lit (.bool false)], args := [d] }
  | _ => none }
def FnExactShapeTurnWrongFalsely : Prop := fnExactShapeTurnRow.holds Try.pinned (OpenSpec.ofChange fnExactShapeTurnWrong)

/-- 'laws.FnExactShapeArea': WHATEVER THE INPUT: true; the input reads as it did. -/
def fnExactShapeAreaSpec : ChangeSpec := { name := "fnExactShapeArea", fn := fun _ => fun
  | [d] => { results := [.lit (.bool true)], args := [d] }
  | _ => none }
def fnExactShapeAreaRow : OpenClaim := { program := "ytopbpokcffdjnaa", sum := "fbc3d7ba5ac31c2340ba16ef2c23e265f5c262d9b5ca1306d0bfa09579383e66", func := "loop.example/townland/laws.FnExactShapeArea", spec := "fnExactShapeArea", unfollowed := true, recurses := true, apart := false }
def FnExactShapeAreaSaid : Prop := fnExactShapeAreaRow.holds Try.pinned (OpenSpec.ofChange fnExactShapeAreaSpec)

/-- ITS FALSE NEIGHBOUR: 'it returns false'. Refute it at one input. -/
def fnExactShapeAreaWrong : ChangeSpec := { name := "fnExactShapeArea", fn := fun _ => fun
  | [d] => { results := [.lit (.bool false)], args := [d] }
  | _ => none }
def FnExactShapeAreaWrongFalsely : Prop := fnExactShapeAreaRow.holds Try.pinned (OpenSpec.ofChange fnExactShapeAreaWrong)

/-- 'laws.FnExactShapeBox': WHATEVER THE INPUT: true; the input reads as it did. -/
def fnExactShapeBoxSpec : ChangeSpec := { name := "fnExactShapeBox", fn := fun _ => fun
  | [d] => { results := [.lit (.bool true)], args := [d] }
  | _ => none }
def fnExactShapeBoxRow : OpenClaim := { program := "ytopbpokcffdjnaa", sum := "fbc3d7ba5ac31c2340ba16ef2c23e265f5c262d9b5ca1306d0bfa09579383e66", func := "loop.example/townland/laws.FnExactShapeBox", spec := "fnExactShapeBox", unfollowed := true, recurses := true, apart := false }
def FnExactShapeBoxSaid : Prop := fnExactShapeBoxRow.holds Try.pinned (OpenSpec.ofChange fnExactShapeBoxSpec)

/-- ITS FALSE NEIGHBOUR: 'it returns false'. Refute it at one input. -/
def fnExactShapeBoxWrong : ChangeSpec := { name := "fnExactShapeBox", fn := fun _ => fun
  | [d] => { results := [.lit (.bool false)], args := [d] }
  | _ => none }
def FnExactShapeBoxWrongFalsely : Prop := fnExactShapeBoxRow.holds Try.pinned (OpenSpec.ofChange fnExactShapeBoxWrong)

/- THE SECOND FORM. 'bulk': how many values and letters a reading holds, each counted each time it is reached (what is shared counts as often as it is met; a slice's spare places count too). A statement '..UptoSaid' is the law's where the arguments, and the package variables that the reading takes, are together of bulk at most 1048576: NARROWER than '..Said'. Prove '..Said' where nothing that the law and all that it calls make is longer than what came in: it says more and counts as full. Else prove '..UptoSaid'. A law counts once. -/
mutual
def uptoBulk {H : Type} : DataW H → Nat
  | .lit (.string bytes) => bytes.length + 1
  | .lit _ => 1
  | .nil => 1
  | .ptr d => uptoBulk d + 1
  | .slice elems spare => uptoBulkAll elems + uptoBulkAll spare + 1
  | .agg parts => uptoBulkAll parts + 1
  | .iface _ d => uptoBulk d + 1
  | .map entries => uptoBulkEntries entries + 1
  | .held _ => 1
def uptoBulkAll {H : Type} : List (DataW H) → Nat
  | [] => 0
  | d :: r => uptoBulk d + uptoBulkAll r
def uptoBulkEntries {H : Type} : List (Lit × DataW H) → Nat
  | [] => 0
  | x :: r => uptoBulkEntry x + uptoBulkEntries r
def uptoBulkEntry {H : Type} : Lit × DataW H → Nat
  | (.string bytes, d) => bytes.length + uptoBulk d + 1
  | (_, d) => uptoBulk d + 1
 end
def uptoSmall : (H : Type) → List (DataW H) → Bool := fun _ ds => decide (uptoBulkAll ds ≤ 1048576)
def OpenSpec.upto (s : _root_.Go.ChangeSpec) : _root_.Go.OpenSpec := { _root_.Go.OpenSpec.ofChange s with cond := some uptoSmall }

/-- 'laws.FnShapeBox', WHERE WHAT IT READS IS OF BULK AT MOST 1048576: true; the input reads as it did. -/
def fnShapeBoxUptoRow : OpenClaim := { program := "ytopbpokcffdjnaa", sum := "fbc3d7ba5ac31c2340ba16ef2c23e265f5c262d9b5ca1306d0bfa09579383e66", func := "loop.example/townland/laws.FnShapeBox", spec := "fnShapeBox", unfollowed := true, recurses := true, apart := false, narrowed := true }
def FnShapeBoxUptoSaid : Prop := fnShapeBoxUptoRow.holds Try.pinned (OpenSpec.upto fnShapeBoxSpec)

/-- 'laws.FnShapeArea', WHERE WHAT IT READS IS OF BULK AT MOST 1048576: true; the input reads as it did. -/
def fnShapeAreaUptoRow : OpenClaim := { program := "ytopbpokcffdjnaa", sum := "fbc3d7ba5ac31c2340ba16ef2c23e265f5c262d9b5ca1306d0bfa09579383e66", func := "loop.example/townland/laws.FnShapeArea", spec := "fnShapeArea", unfollowed := true, recurses := true, apart := false, narrowed := true }
def FnShapeAreaUptoSaid : Prop := fnShapeAreaUptoRow.holds Try.pinned (OpenSpec.upto fnShapeAreaSpec)

/-- 'laws.FnExactShapeOk', WHERE WHAT IT READS IS OF BULK AT MOST 1048576: true; the input reads as it did. -/
def fnExactShapeOkUptoRow : OpenClaim := { program := "ytopbpokcffdjnaa", sum := "fbc3d7ba5ac31c2340ba16ef2c23e265f5c262d9b5ca1306d0bfa09579383e66", func := "loop.example/townland/laws.FnExactShapeOk", spec := "fnExactShapeOk", unfollowed := true, recurses := true, apart := false, narrowed := true }
def FnExactShapeOkUptoSaid : Prop := fnExactShapeOkUptoRow.holds Try.pinned (OpenSpec.upto fnExactShapeOkSpec)

/-- 'laws.FnExactShapeSame', WHERE WHAT IT READS IS OF BULK AT MOST 1048576: true; the input reads as it did. -/
def fnExactShapeSameUptoRow : OpenClaim := { program := "ytopbpokcffdjnaa", sum := "fbc3d7ba5ac31c2340ba16ef2c23e265f5c262d9b5ca1306d0bfa09579383e66", func := "loop.example/townland/laws.FnExactShapeSame", spec := "fnExactShapeSame", apart := false, narrowed := true }
def FnExactShapeSameUptoSaid : Prop := fnExactShapeSameUptoRow.holds Try.pinned (OpenSpec.upto fnExactShapeSameSpec)

/-- 'laws.FnExactShapeMove', WHERE WHAT IT READS IS OF BULK AT MOST 1048576: true; the input reads as it did. -/
def fnExactShapeMoveUptoRow : OpenClaim := { program := "ytopbpokcffdjnaa", sum := "fbc3d7ba5ac31c2340ba16ef2c23e265f5c262d9b5ca1306d0bfa09579383e66", func := "loop.example/townland/laws.FnExactShapeMove", spec := "fnExactShapeMove", unfollowed := true, recurses := true, apart := false, narrowed := true }
def FnExactShapeMoveUptoSaid : Prop := fnExactShapeMoveUptoRow.holds Try.pinned (OpenSpec.upto fnExactShapeMoveSpec)

/-- 'laws.FnExactShapeBack', WHERE WHAT IT READS IS OF BULK AT MOST 1048576: true; the input reads as it did. -/
def fnExactShapeBackUptoRow : OpenClaim := { program := "ytopbpokcffdjnaa", sum := "fbc3d7ba5ac31c2340ba16ef2c23e265f5c262d9b5ca1306d0bfa09579383e66", func := "loop.example/townland/laws.FnExactShapeBack", spec := "fnExactShapeBack", unfollowed := true, recurses := true, apart := false, narrowed := true }
def FnExactShapeBackUptoSaid : Prop := fnExactShapeBackUptoRow.holds Try.pinned (OpenSpec.upto fnExactShapeBackSpec)

/-- 'laws.FnExactShapeTurn', WHERE WHAT IT READS IS OF BULK AT MOST 1048576: true; the input reads as it did. -/
def fnExactShapeTurnUptoRow : OpenClaim := { program := "ytopbpokcffdjnaa", sum := "fbc3d7ba5ac31c2340ba16ef2c23e265f5c262d9b5ca1306d0bfa09579383e66", func := "loop.example/townland/laws.FnExactShapeTurn", spec := "fnExactShapeTurn", unfollowed := true, recurses := true, apart := false, narrowed := true }
def FnExactShapeTurnUptoSaid : Prop := fnExactShapeTurnUptoRow.holds Try.pinned (OpenSpec.upto fnExactShapeTurnSpec)

/-- 'laws.FnExactShapeArea', WHERE WHAT IT READS IS OF BULK AT MOST 1048576: true; the input reads as it did. -/
def fnExactShapeAreaUptoRow : OpenClaim := { program := "ytopbpokcffdjnaa", sum := "fbc3d7ba5ac31c2340ba16ef2c23e265f5c262d9b5ca1306d0bfa09579383e66", func := "loop.example/townland/laws.FnExactShapeArea", spec := "fnExactShapeArea", unfollowed := true, recurses := true, apart := false, narrowed := true }
def FnExactShapeAreaUptoSaid : Prop := fnExactShapeAreaUptoRow.holds Try.pinned (OpenSpec.upto fnExactShapeAreaSpec)

/-- 'laws.FnExactShapeBox', WHERE WHAT IT READS IS OF BULK AT MOST 1048576: true; the input reads as it did. -/
def fnExactShapeBoxUptoRow : OpenClaim := { program := "ytopbpokcffdjnaa", sum := "fbc3d7ba5ac31c2340ba16ef2c23e265f5c262d9b5ca1306d0bfa09579383e66", func := "loop.example/townland/laws.FnExactShapeBox", spec := "fnExactShapeBox", unfollowed := true, recurses := true, apart := false, narrowed := true }
def FnExactShapeBoxUptoSaid : Prop := fnExactShapeBoxUptoRow.holds Try.pinned (OpenSpec.upto fnExactShapeBoxSpec)

end Rows
end Go.Proofs.Ytopbpokcffdjnaa
