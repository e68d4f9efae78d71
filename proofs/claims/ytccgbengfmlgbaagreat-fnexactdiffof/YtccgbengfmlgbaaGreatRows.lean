/-
  No cell of these rows narrows 'for every input' (looked for: loops, veiled, ifaces, maps, wideKeys, modest, calm, conditions, laid).
  DERIVED. THE GIVEN ROWS OF THIS SEAT. 4 by the template 'for every input the law returns true; each argument reads behind the call as it read before'; 0 by the template 'total and deterministic' (their statements: YtccgbengfmlgbaaGreatTotals.lean).
  GIVEN WITH THE SEED: the statements are not yours to turn. If you find one false, say at which input.
  Laid BY PROGRAM, IN A SANDBOX (cutbox-rows.mjs): the forced cells as the released guide's own fill.sh prints them over the translation 61590326ef0bc7f7… (all of the seat's roots in one cut). By AI agents, Wed Nov 11 2026. No macro, syntax, notation, axiom, sorry.
-/
import Derived.Test.YtccgbengfmlgbaaGreatChecked
import GoSem.Claim
import GoSem.ClaimJoined
import GoSem.ClaimMapViews
import Derived.JoinedTies
import Derived.KernelRfl
namespace Go.Proofs.YtccgbengfmlgbaaGreat
/- THE CELL 'sum', in the pinned program and in every row, IS THE sha256 OF THE DUMP (.gsa) THAT YtccgbengfmlgbaaGreatProg.lean LOADS. Nothing in Lean hashes anything: it is a label: what it is worth is what the hold of that sum in a sandbox is worth. -/
noncomputable def Tryz.pinned : Pinned := { name := "ytccgbengfmlgbaagreat", sum := "61590326ef0bc7f7878a1635b724cec3cb083be0900f6f1be4e6087842361038", checked := Tryz.checked }
namespace Rows
def none {H : Type} : Left H := { results := [], args := [] }

/-- 'laws.FnExactFeatJoin': WHATEVER THE INPUT: true; the input reads as it did. -/
def fnExactFeatJoinSpec : ChangeSpec := { name := "fnExactFeatJoin", fn := fun _ => fun
  | [d1, d2, d3] => { results := [.lit (.bool true)], args := [d1, d2, d3] }
  | _ => none }
def fnExactFeatJoinRow : OpenClaim := { program := "ytccgbengfmlgbaagreat", sum := "61590326ef0bc7f7878a1635b724cec3cb083be0900f6f1be4e6087842361038", func := "loop.example/townland/laws.FnExactFeatJoin", spec := "fnExactFeatJoin", unfollowed := true, recurses := true, apart := false }
def FnExactFeatJoinSaid : Prop := fnExactFeatJoinRow.holds Tryz.pinned (OpenSpec.ofChange fnExactFeatJoinSpec)

/-- ITS FALSE NEIGHBOUR: 'it returns false'. Refute it at one input. -/
def fnExactFeatJoinWrong : ChangeSpec := { name := "fnExactFeatJoin", fn := fun _ => fun
  | [d1, d2, d3] => { results := [.lit (.bool false)], args := [d1, d2, d3] }
  | _ => none }
def FnExactFeatJoinWrongFalsely : Prop := fnExactFeatJoinRow.holds Tryz.pinned (OpenSpec.ofChange fnExactFeatJoinWrong)

/-- 'laws.FnExactSheetJoin': WHATEVER THE INPUT: true; the input reads as it did. -/
def fnExactSheetJoinSpec : ChangeSpec := { name := "fnExactSheetJoin", fn := fun _ => fun
  | [d1, d2, d3] => { results := [.lit (.bool true)], args := [d1, d2, d3] }
  | _ => none }
def fnExactSheetJoinRow : OpenClaim := { program := "ytccgbengfmlgbaagreat", sum := "61590326ef0bc7f7878a1635b724cec3cb083be0900f6f1be4e6087842361038", func := "loop.example/townland/laws.FnExactSheetJoin", spec := "fnExactSheetJoin", unfollowed := true, recurses := true, apart := false }
def FnExactSheetJoinSaid : Prop := fnExactSheetJoinRow.holds Tryz.pinned (OpenSpec.ofChange fnExactSheetJoinSpec)

/-- ITS FALSE NEIGHBOUR: 'it returns false'. Refute it at one input. -/
def fnExactSheetJoinWrong : ChangeSpec := { name := "fnExactSheetJoin", fn := fun _ => fun
  | [d1, d2, d3] => { results := [.lit (.bool false)], args := [d1, d2, d3] }
  | _ => none }
def FnExactSheetJoinWrongFalsely : Prop := fnExactSheetJoinRow.holds Tryz.pinned (OpenSpec.ofChange fnExactSheetJoinWrong)

/-- 'laws.FnExactDiffOf': WHATEVER THE INPUT: true; the input reads as it did. -/
def fnExactDiffOfSpec : ChangeSpec := { name := "fnExactDiffOf", fn := fun _ => fun
  | [d1, d2] => { results := [.lit (.bool true)], args := [d1, d2] }
  | _ => none }
def fnExactDiffOfRow : OpenClaim := { program := "ytccgbengfmlgbaagreat", sum := "61590326ef0bc7f7878a1635b724cec3cb083be0900f6f1be4e6087842361038", func := "loop.example/townland/laws.FnExactDiffOf", spec := "fnExactDiffOf", inPlace := ["maps.clone"], unfollowed := true, recurses := true, apart := false }
def FnExactDiffOfSaid : Prop := fnExactDiffOfRow.holds Tryz.pinned (OpenSpec.ofChange fnExactDiffOfSpec)

/-- ITS FALSE NEIGHBOUR: 'it returns false'. Refute it at one input. -/
def fnExactDiffOfWrong : ChangeSpec := { name := "fnExactDiffOf", fn := fun _ => fun
  | [d1, d2] => { results := [.lit (.bool false)], args := [d1, d2] }
  | _ => none }
def FnExactDiffOfWrongFalsely : Prop := fnExactDiffOfRow.holds Tryz.pinned (OpenSpec.ofChange fnExactDiffOfWrong)

/-- 'laws.FnExactDiffThen': WHATEVER THE INPUT: true; the input reads as it did. -/
def fnExactDiffThenSpec : ChangeSpec := { name := "fnExactDiffThen", fn := fun _ => fun
  | [d1, d2] => { results := [.lit (.bool true)], args := [d1, d2] }
  | _ => none }
def fnExactDiffThenRow : OpenClaim := { program := "ytccgbengfmlgbaagreat", sum := "61590326ef0bc7f7878a1635b724cec3cb083be0900f6f1be4e6087842361038", func := "loop.example/townland/laws.FnExactDiffThen", spec := "fnExactDiffThen", inPlace := ["maps.clone"], unfollowed := true, recurses := true, apart := false }
def FnExactDiffThenSaid : Prop := fnExactDiffThenRow.holds Tryz.pinned (OpenSpec.ofChange fnExactDiffThenSpec)

/-- ITS FALSE NEIGHBOUR: 'it returns false'. Refute it at one input. -/
def fnExactDiffThenWrong : ChangeSpec := { name := "fnExactDiffThen", fn := fun _ => fun
  | [d1, d2] => { results := [.lit (.bool false)], args := [d1, d2] }
  | _ => none }
def FnExactDiffThenWrongFalsely : Prop := fnExactDiffThenRow.holds Tryz.pinned (OpenSpec.ofChange fnExactDiffThenWrong)

/- THE SECOND FORM. 'bulk': how many values and letters a reading holds, each counted each time it is reached (what is shared counts as often as it is met; a slice's spare places count too). A statement '..UptoSaid' is the law's where the arguments, and the package variables that the reading takes, are together of bulk at most 1048576: NARROWER than '..Said'. Prove '..Said' where nothing that the law and all that it calls make is longer than what came in: it says more and counts as full. Else prove '..UptoSaid'. A law counts once. -/
mutual
def uptoBulk {H : Type} : DataW H → Nat
  | .lit (.string bytes) => bytes.length + 1
  | .lit _ => 1
  | .nil => 1
  | .ptr d => uptoBulk d + 1
  | .slice elems spare => uptoBulkAll elems + uptoBulkAll spare + 1
  | .agg parts => uptoBulkAll parts + 1
  | .iface _ d => uptoBulk d + 1
  | .map entries => uptoBulkEntries entries + 1
  | .held _ => 1
def uptoBulkAll {H : Type} : List (DataW H) → Nat
  | [] => 0
  | d :: r => uptoBulk d + uptoBulkAll r
def uptoBulkEntries {H : Type} : List (Lit × DataW H) → Nat
  | [] => 0
  | x :: r => uptoBulkEntry x + uptoBulkEntries r
def uptoBulkEntry {H : Type} : Lit × DataW H → Nat
  | (.string bytes, d) => bytes.length + uptoBulk d + 1
  | (_, d) => uptoBulk d + 1
 end
def uptoSmall : (H : Type) → List (DataW H) → Bool := fun _ ds => decide (uptoBulkAll ds ≤ 1048576)
def OpenSpec.upto (s : _root_.Go.ChangeSpec) : _root_.Go.OpenSpec := { _root_.Go.OpenSpec.ofChange s with cond := some uptoSmall }

/-- 'laws.FnExactFeatJoin', WHERE WHAT IT READS IS OF BULK AT MOST 1048576: true; the input reads as it did. -/
def fnExactFeatJoinUptoRow : OpenClaim := { program := "ytccgbengfmlgbaagreat", sum := "61590326ef0bc7f7878a1635b724cec3cb083be0900f6f1be4e6087842361038", func := "loop.example/townland/laws.FnExactFeatJoin", spec := "fnExactFeatJoin", unfollowed := true, recurses := true, apart := false, narrowed := true }
def FnExactFeatJoinUptoSaid : Prop := fnExactFeatJoinUptoRow.holds Tryz.pinned (OpenSpec.upto fnExactFeatJoinSpec)

/-- 'laws.FnExactSheetJoin', WHERE WHAT IT READS IS OF BULK AT MOST 1048576: true; the input reads as it did. -/
def fnExactSheetJoinUptoRow : OpenClaim := { program := "ytccgbengfmlgbaagreat", sum := "61590326ef0bc7f7878a1635b724cec3cb083be0900f6f1be4e6087842361038", func := "loop.example/townland/laws.FnExactSheetJoin", spec := "fnExactSheetJoin", unfollowed := true, recurses := true, apart := false, narrowed := true }
def FnExactSheetJoinUptoSaid : Prop := fnExactSheetJoinUptoRow.holds Tryz.pinned (OpenSpec.upto fnExactSheetJoinSpec)

/-- 'laws.FnExactDiffOf', WHERE WHAT IT READS IS OF BULK AT MOST 1048576: true; the input reads as it did. -/
def fnExactDiffOfUptoRow : OpenClaim := { program := "ytccgbengfmlgbaagreat", sum := "61590326ef0bc7f7878a1635b724cec3cb083be0900f6f1be4e6087842361038", func := "loop.example/townland/laws.FnExactDiffOf", spec := "fnExactDiffOf", inPlace := ["maps.clone"], unfollowed := true, recurses := true, apart := false, narrowed := true }
def FnExactDiffOfUptoSaid : Prop := fnExactDiffOfUptoRow.holds Tryz.pinned (OpenSpec.upto fnExactDiffOfSpec)

/-- 'laws.FnExactDiffThen', WHERE WHAT IT READS IS OF BULK AT MOST 1048576: true; the input reads as it did. -/
def fnExactDiffThenUptoRow : OpenClaim := { program := "ytccgbengfmlgbaagreat", sum := "61590326ef0bc7f7878a1635b724cec3cb083be0900f6f1be4e6087842361038", func := "loop.example/townland/laws.FnExactDiffThen", spec := "fnExactDiffThen", inPlace := ["maps.clone"], unfollowed := true, recurses := true, apart := false, narrowed := true }
def FnExactDiffThenUptoSaid : Prop := fnExactDiffThenUptoRow.holds Tryz.pinned (OpenSpec.upto fnExactDiffThenSpec)

end Rows
end Go.Proofs.YtccgbengfmlgbaaGreat
