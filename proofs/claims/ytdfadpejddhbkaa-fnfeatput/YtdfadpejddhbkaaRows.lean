/-
  No cell of these rows narrows 'for every input' (looked for: loops, veiled, ifaces, maps, wideKeys, modest, calm, conditions, laid).
  DERIVED. THE GIVEN ROWS OF THIS SEAT. 6 by the template 'for every input the law returns true; each argument reads behind the call as it read before'; 0 by the template 'total and deterministic' (their statements: YtdfadpejddhbkaaTotals.lean).
  GIVEN WITH THE SEED: the statements are not yours to turn. If you find one false, say at which input.
  Laid BY PROGRAM, IN A SANDBOX (cutbox-rows.mjs): the forced cells as the released guide's own fill.sh prints them over the translation 29098771d4f7fe79… (all of the seat's roots in one cut). By AI agents, Wed Nov 11 2026. No macro, syntax, notation, axiom, sorry.
-/
import Derived.Test.YtdfadpejddhbkaaChecked
import GoSem.Claim
import GoSem.ClaimJoined
import GoSem.ClaimMapViews
import Derived.JoinedTies
import Derived.KernelRfl
namespace Go.Proofs.Ytdfadpejddhbkaa
/- THE CELL 'sum', in the pinned program and in every row, IS THE sha256 OF THE DUMP (.gsa) THAT YtdfadpejddhbkaaProg.lean LOADS. Nothing in Lean hashes anything: it is a label: what it is worth is what the hold of that sum in a sandbox is worth. -/
noncomputable def Try.pinned : Pinned := { name := "ytdfadpejddhbkaa", sum := "29098771d4f7fe796da20bc4ea7aeda6083067ef0be4dc803be4e8d7ed05e25d", checked := Try.checked }
namespace Rows
def none {H : Type} : Left H := { results := [], args := [] }

/-- 'laws.FnShapeBack': WHATEVER THE INPUT: true; the input reads as it did. -/
def fnShapeBackSpec : ChangeSpec := { name := "fnShapeBack", fn := fun _ => fun
  | [d] => { results := [.lit (.bool true)], args := [d] }
  | _ => none }
def fnShapeBackRow : OpenClaim := { program := "ytdfadpejddhbkaa", sum := "29098771d4f7fe796da20bc4ea7aeda6083067ef0be4dc803be4e8d7ed05e25d", func := "loop.example/townland/laws.FnShapeBack", spec := "fnShapeBack", unfollowed := true, recurses := true, apart := false }
def FnShapeBackSaid : Prop := fnShapeBackRow.holds Try.pinned (OpenSpec.ofChange fnShapeBackSpec)

/-- ITS FALSE NEIGHBOUR: 'it returns false'. Refute it at one input. -/
def fnShapeBackWrong : ChangeSpec := { name := "fnShapeBack", fn := fun _ => fun
  | [d] => { results := [.lit (.bool false)], args := [d] }
  | _ => none }
def FnShapeBackWrongFalsely : Prop := fnShapeBackRow.holds Try.pinned (OpenSpec.ofChange fnShapeBackWrong)

/-- 'laws.FnShapeMove': WHATEVER THE INPUT: true; the input reads as it did. -/
def fnShapeMoveSpec : ChangeSpec := { name := "fnShapeMove", fn := fun _ => fun
  | [d] => { results := [.lit (.bool true)], args := [d] }
  | _ => none }
def fnShapeMoveRow : OpenClaim := { program := "ytdfadpejddhbkaa", sum := "29098771d4f7fe796da20bc4ea7aeda6083067ef0be4dc803be4e8d7ed05e25d", func := "loop.example/townland/laws.FnShapeMove", spec := "fnShapeMove", unfollowed := true, recurses := true, apart := false }
def FnShapeMoveSaid : Prop := fnShapeMoveRow.holds Try.pinned (OpenSpec.ofChange fnShapeMoveSpec)

/-- ITS FALSE NEIGHBOUR: 'it returns false'. Refute it at one input. -/
def fnShapeMoveWrong : ChangeSpec := { name := "fnShapeMove", fn := fun _ => fun
  | [d] => { results := [.lit (.bool false)], args := [d] }
  | _ => none }
def FnShapeMoveWrongFalsely : Prop := fnShapeMoveRow.holds Try.pinned (OpenSpec.ofChange fnShapeMoveWrong)

/-- 'laws.FnShapeTurn': WHATEVER THE INPUT: true; the input reads as it did. -/
def fnShapeTurnSpec : ChangeSpec := { name := "fnShapeTurn", fn := fun _ => fun
  | [d1, d2] => { results := [.lit (.bool true)], args := [d1, d2] }
  | _ => none }
def fnShapeTurnRow : OpenClaim := { program := "ytdfadpejddhbkaa", sum := "29098771d4f7fe796da20bc4ea7aeda6083067ef0be4dc803be4e8d7ed05e25d", func := "loop.example/townland/laws.FnShapeTurn", spec := "fnShapeTurn", unfollowed := true, recurses := true, apart := false }
def FnShapeTurnSaid : Prop := fnShapeTurnRow.holds Try.pinned (OpenSpec.ofChange fnShapeTurnSpec)

/-- ITS FALSE NEIGHBOUR: 'it returns false'. Refute it at one input. -/
def fnShapeTurnWrong : ChangeSpec := { name := "fnShapeTurn", fn := fun _ => fun
  | [d1, d2] => { results := [.lit (.bool false)], args := [d1, d2] }
  | _ => none }
def FnShapeTurnWrongFalsely : Prop := fnShapeTurnRow.holds Try.pinned (OpenSpec.ofChange fnShapeTurnWrong)

/-- 'laws.FnFeatCut': WHATEVER THE INPUT: true; the input reads as it did. -/
def fnFeatCutSpec : ChangeSpec := { name := "fnFeatCut", fn := fun _ => fun
  | [d] => { results := [.lit (.bool true)], args := [d] }
  | _ => none }
def fnFeatCutRow : OpenClaim := { program := "ytdfadpejddhbkaa", sum := "29098771d4f7fe796da20bc4ea7aeda6083067ef0be4dc803be4e8d7ed05e25d", func := "loop.example/townland/laws.FnFeatCut", spec := "fnFeatCut", unfollowed := true, recurses := true, apart := false }
def FnFeatCutSaid : Prop := fnFeatCutRow.holds Try.pinned (OpenSpec.ofChange fnFeatCutSpec)

/-- ITS FALSE NEIGHBOUR: 'it returns false'. Refute it at one input. -/
def fnFeatCutWrong : ChangeSpec := { name := "fnFeatCut", fn := fun _ => fun
  | [d] => { results := [.lit (.bool false)], args := [d] }
  | _ => none }
def FnFeatCutWrongFalsely : Prop := fnFeatCutRow.holds Try.pinned (OpenSpec.ofChange fnFeatCutWrong)

/-- 'laws.FnFeatPut': WHATEVER THE INPUT: true; the input reads as it did. -/
def fnFeatPutSpec : ChangeSpec := { name := "fnFeatPut", fn := fun _ => fun
  | [d] => { results := [.lit (.bool true)], args := [d] }
  | _ => none }
def fnFeatPutRow : OpenClaim := { program := "ytdfadpejddhbkaa", sum := "29098771d4f7fe796da20bc4ea7aeda6083067ef0be4dc803be4e8d7ed05e25d", func := "loop.example/townland/laws.FnFeatPut", spec := "fnFeatPut", unfollowed := true, recurses := true, apart := false }
def FnFeatPutSaid : Prop := fnFeatPutRow.holds Try.pinned (OpenSpec.ofChange fnFeatPutSpec)

/-- ITS FALSE NEIGHBOUR: 'it returns false'. Refute it at one input. -/
def fnFeatPutWrong : ChangeSpec := { name := "fnFeatPut", fn := fun _ => fun
  | [d] => { results := [.lit (.bool false)], args := [d] }
  | _ => none }
def FnFeatPutWrongFalsely : Prop := fnFeatPutRow.holds Try.pinned (OpenSpec.ofChange fnFeatPutWrong)

/-- 'laws.FnFeatTwo': WHATEVER THE INPUT: true; the input reads as it did. -/
def fnFeatTwoSpec : ChangeSpec := { name := "fnFeatTwo", fn := fun _ => fun
  | [d1, d2] => { results := [.lit (.bool true)], args := [d1, d2] }
  | _ => none }
def fnFeatTwoRow : OpenClaim := { program := "ytdfadpejddhbkaa", sum := "29098771d4f7fe796da20bc4ea7aeda6083067ef0be4dc803be4e8d7ed05e25d", func := "loop.example/townland/laws.FnFeatTwo", spec := "fnFeatTwo", unfollowed := true, recurses := true, apart := false }
def FnFeatTwoSaid : Prop := fnFeatTwoRow.holds Try.pinned (OpenSpec.ofChange fnFeatTwoSpec)

/-- ITS FALSE NEIGHBOUR: 'it returns false'. Refute it at one input. -/
def fnFeatTwoWrong : ChangeSpec := { name := "fnFeatTwo", fn := fun _ => fun
  | [d1, d2] => { results := [.lit (.bool false)], args := [d1, d2] }
  | _ => none }
def FnFeatTwoWrongFalsely : Prop := fnFeatTwoRow.holds Try.pinned (OpenSpec.ofChange fnFeatTwoWrong)

/- THE SECOND FORM. 'bulk': how many values and letters a reading holds, each counted each time it is reached (what is shared counts as often as it is met; a slice's spare places count too). A statement '..UptoSaid' is the law's where the arguments, and the package variables that the reading takes, are together of bulk at most 1048576: NARROWER than '..Said'. Prove '..Said' where nothing that the law and all that it calls make is longer than what came in: it says more and counts as full. Else prove '..UptoSaid'. A law counts once. -/
mutual
def uptoBulk {H : Type} : DataW H → Nat
  | .lit (.string bytes) => bytes.length + 1
  | .lit _ => 1
  | .nil => 1
  | .ptr d => uptoBulk d + 1
  | .slice elems spare => uptoBulkAll elems + uptoBulkAll spare + 1
  | .agg parts => uptoBulkAll parts + 1
  | .iface _ d => uptoBulk d + 1
  | .map entries => uptoBulkEntries entries + 1
  | .held _ => 1
def uptoBulkAll {H : Type} : List (DataW H) → Nat
  | [] => 0
  | d :: r => uptoBulk d + uptoBulkAll r
def uptoBulkEntries {H : Type} : List (Lit × DataW H) → Nat
  | [] => 0
  | x :: r => uptoBulkEntry x + uptoBulkEntries r
def uptoBulkEntry {H : Type} : Lit × DataW H → Nat
  | (.string bytes, d) => bytes.length + uptoBulk d + 1
  | (_, d) => uptoBulk d + 1
 end
def uptoSmall : (H : Type) → List (DataW H) → Bool := fun _ ds => decide (uptoBulkAll ds ≤ 1048576)
def OpenSpec.upto (s : _root_.Go.ChangeSpec) : _root_.Go.OpenSpec := { _root_.Go.OpenSpec.ofChange s with cond := some uptoSmall }

/-- 'laws.FnShapeBack', WHERE WHAT IT READS IS OF BULK AT MOST 1048576: true; the input reads as it did. -/
def fnShapeBackUptoRow : OpenClaim := { program := "ytdfadpejddhbkaa", sum := "29098771d4f7fe796da20bc4ea7aeda6083067ef0be4dc803be4e8d7ed05e25d", func := "loop.example/townland/laws.FnShapeBack", spec := "fnShapeBack", unfollowed := true, recurses := true, apart := false, narrowed := true }
def FnShapeBackUptoSaid : Prop := fnShapeBackUptoRow.holds Try.pinned (OpenSpec.upto fnShapeBackSpec)

/-- 'laws.FnShapeMove', WHERE WHAT IT READS IS OF BULK AT MOST 1048576: true; the input reads as it did. -/
def fnShapeMoveUptoRow : OpenClaim := { program := "ytdfadpejddhbkaa", sum := "29098771d4f7fe796da20bc4ea7aeda6083067ef0be4dc803be4e8d7ed05e25d", func := "loop.example/townland/laws.FnShapeMove", spec := "fnShapeMove", unfollowed := true, recurses := true, apart := false, narrowed := true }
def FnShapeMoveUptoSaid : Prop := fnShapeMoveUptoRow.holds Try.pinned (OpenSpec.upto fnShapeMoveSpec)

/-- 'laws.FnShapeTurn', WHERE WHAT IT READS IS OF BULK AT MOST 1048576: true; the input reads as it did. -/
def fnShapeTurnUptoRow : OpenClaim := { program := "ytdfadpejddhbkaa", sum := "29098771d4f7fe796da20bc4ea7aeda6083067ef0be4dc803be4e8d7ed05e25d", func := "loop.example/townland/laws.FnShapeTurn", spec := "fnShapeTurn", unfollowed := true, recurses := true, apart := false, narrowed := true }
def FnShapeTurnUptoSaid : Prop := fnShapeTurnUptoRow.holds Try.pinned (OpenSpec.upto fnShapeTurnSpec)

/-- 'laws.FnFeatCut', WHERE WHAT IT READS IS OF BULK AT MOST 1048576: true; the input reads as it did. -/
def fnFeatCutUptoRow : OpenClaim := { program := "ytdfadpejddhbkaa", sum := "29098771d4f7fe796da20bc4ea7aeda6083067ef0be4dc803be4e8d7ed05e25d", func := "loop.example/townland/laws.FnFeatCut", spec := "fnFeatCut", unfollowed := true, recurses := true, apart := false, narrowed := true }
def FnFeatCutUptoSaid : Prop := fnFeatCutUptoRow.holds Try.pinned (OpenSpec.upto fnFeatCutSpec)

/-- 'laws.FnFeatPut', WHERE WHAT IT READS IS OF BULK AT MOST 1048576: true; the input reads as it did. -/
def fnFeatPutUptoRow : OpenClaim := { program := "ytdfadpejddhbkaa", sum := "29098771d4f7fe796da20bc4ea7aeda6083067ef0be4dc803be4e8d7ed05e25d", func := "loop.example/townland/laws.FnFeatPut", spec := "fnFeatPut", unfollowed := true, recurses := true, apart := false, narrowed := true }
def FnFeatPutUptoSaid : Prop := fnFeatPutUptoRow.holds Try.pinned (OpenSpec.upto fnFeatPutSpec)

/-- 'laws.FnFeatTwo', WHERE WHAT IT READS IS OF BULK AT MOST 1048576: true; the input reads as it did. -/
def fnFeatTwoUptoRow : OpenClaim := { program := "ytdfadpejddhbkaa", sum := "29098771d4f7fe796da20bc4ea7aeda6083067ef0be4dc803be4e8d7ed05e25d", func := "loop.example/townland/laws.FnFeatTwo", spec := "fnFeatTwo", unfollowed := true, recurses := true, apart := false, narrowed := true }
def FnFeatTwoUptoSaid : Prop := fnFeatTwoUptoRow.holds Try.pinned (OpenSpec.upto fnFeatTwoSpec)

end Rows
end Go.Proofs.Ytdfadpejddhbkaa
