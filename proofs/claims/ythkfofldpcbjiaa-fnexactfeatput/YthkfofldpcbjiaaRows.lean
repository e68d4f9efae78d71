/-
  No cell of these rows narrows 'for every input' (looked for: loops, veiled, ifaces, maps, wideKeys, modest, calm, conditions, laid).
  DERIVED. THE GIVEN ROWS OF THIS SEAT. 6 by the template 'for every input the law returns true; each argument reads behind the call as it read before'; 0 by the template 'total and deterministic' (their statements: YthkfofldpcbjiaaTotals.lean).
  GIVEN WITH THE SEED: the statements are not yours to turn. If you find one false, say at which input.
  Laid BY PROGRAM, IN A SANDBOX (cutbox-rows.mjs): the forced cells as the released guide's own fill.sh prints them over the translation 1a97e76e44c6caab… (all of the seat's roots in one cut). By AI agents, Wed Nov 11 2026. No macro, syntax, notation, axiom, sorry.
-/
import Derived.Test.YthkfofldpcbjiaaChecked
import GoSem.Claim
import GoSem.ClaimJoined
import GoSem.ClaimMapViews
import Derived.JoinedTies
import Derived.KernelRfl
namespace Go.Proofs.Ythkfofldpcbjiaa
/- THE CELL 'sum', in the pinned program and in every row, IS THE sha256 OF THE DUMP (.gsa) THAT YthkfofldpcbjiaaProg.lean LOADS. Nothing in Lean hashes anything: it is a label: what it is worth is what the hold of that sum in a sandbox is worth. -/
noncomputable def Try.pinned : Pinned := { name := "ythkfofldpcbjiaa", sum := "1a97e76e44c6caab965cbf0c3a216c5597188858aa08ecf48a406a35e11581f5", checked := Try.checked }
namespace Rows
def none {H : Type} : Left H := { results := [], args := [] }

/-- 'laws.FnExactWordOk': WHATEVER THE INPUT: true; the input reads as it did. -/
def fnExactWordOkSpec : ChangeSpec := { name := "fnExactWordOk", fn := fun _ => fun
  | [d] => { results := [.lit (.bool true)], args := [d] }
  | _ => none }
def fnExactWordOkRow : OpenClaim := { program := "ythkfofldpcbjiaa", sum := "1a97e76e44c6caab965cbf0c3a216c5597188858aa08ecf48a406a35e11581f5", func := "loop.example/townland/laws.FnExactWordOk", spec := "fnExactWordOk", apart := false }
def FnExactWordOkSaid : Prop := fnExactWordOkRow.holds Try.pinned (OpenSpec.ofChange fnExactWordOkSpec)

/-- ITS FALSE NEIGHBOUR: 'it returns false'. Refute it at one input. -/
def fnExactWordOkWrong : ChangeSpec := { name := "fnExactWordOk", fn := fun _ => fun
  | [d] => { results := [.lit (.bool false)], args := [d] }
  | _ => none }
def FnExactWordOkWrongFalsely : Prop := fnExactWordOkRow.holds Try.pinned (OpenSpec.ofChange fnExactWordOkWrong)

/-- 'laws.FnExactFeatOk': WHATEVER THE INPUT: true; the input reads as it did. -/
def fnExactFeatOkSpec : ChangeSpec := { name := "fnExactFeatOk", fn := fun _ => fun
  | [d] => { results := [.lit (.bool true)], args := [d] }
  | _ => none }
def fnExactFeatOkRow : OpenClaim := { program := "ythkfofldpcbjiaa", sum := "1a97e76e44c6caab965cbf0c3a216c5597188858aa08ecf48a406a35e11581f5", func := "loop.example/townland/laws.FnExactFeatOk", spec := "fnExactFeatOk", unfollowed := true, recurses := true, apart := false }
def FnExactFeatOkSaid : Prop := fnExactFeatOkRow.holds Try.pinned (OpenSpec.ofChange fnExactFeatOkSpec)

/-- ITS FALSE NEIGHBOUR: 'it returns false'. Refute it at one input. -/
def fnExactFeatOkWrong : ChangeSpec := { name := "fnExactFeatOk", fn := fun _ => fun
  | [d] => { results := [.lit (.bool false)], args := [d] }
  | _ => none }
def FnExactFeatOkWrongFalsely : Prop := fnExactFeatOkRow.holds Try.pinned (OpenSpec.ofChange fnExactFeatOkWrong)

/-- 'laws.FnExactFeatSame': WHATEVER THE INPUT: true; the input reads as it did. -/
def fnExactFeatSameSpec : ChangeSpec := { name := "fnExactFeatSame", fn := fun _ => fun
  | [d1, d2] => { results := [.lit (.bool true)], args := [d1, d2] }
  | _ => none }
def fnExactFeatSameRow : OpenClaim := { program := "ythkfofldpcbjiaa", sum := "1a97e76e44c6caab965cbf0c3a216c5597188858aa08ecf48a406a35e11581f5", func := "loop.example/townland/laws.FnExactFeatSame", spec := "fnExactFeatSame", apart := false }
def FnExactFeatSameSaid : Prop := fnExactFeatSameRow.holds Try.pinned (OpenSpec.ofChange fnExactFeatSameSpec)

/-- ITS FALSE NEIGHBOUR: 'it returns false'. Refute it at one input. -/
def fnExactFeatSameWrong : ChangeSpec := { name := "fnExactFeatSame", fn := fun _ => fun
  | [d1, d2] => { results := [.lit (.bool false)], args := [d1, d2] }
  | _ => none }
def FnExactFeatSameWrongFalsely : Prop := fnExactFeatSameRow.holds Try.pinned (OpenSpec.ofChange fnExactFeatSameWrong)

/-- 'laws.FnExactFeatGet': WHATEVER THE INPUT: true; the input reads as it did. -/
def fnExactFeatGetSpec : ChangeSpec := { name := "fnExactFeatGet", fn := fun _ => fun
  | [d1, d2] => { results := [.lit (.bool true)], args := [d1, d2] }
  | _ => none }
def fnExactFeatGetRow : OpenClaim := { program := "ythkfofldpcbjiaa", sum := "1a97e76e44c6caab965cbf0c3a216c5597188858aa08ecf48a406a35e11581f5", func := "loop.example/townland/laws.FnExactFeatGet", spec := "fnExactFeatGet", unfollowed := true, recurses := true, apart := false }
def FnExactFeatGetSaid : Prop := fnExactFeatGetRow.holds Try.pinned (OpenSpec.ofChange fnExactFeatGetSpec)

/-- ITS FALSE NEIGHBOUR: 'it returns false'. Refute it at one input. -/
def fnExactFeatGetWrong : ChangeSpec := { name := "fnExactFeatGet", fn := fun _ => fun
  | [d1, d2] => { results := [.lit (.bool false)], args := [d1, d2] }
  | _ => none }
def FnExactFeatGetWrongFalsely : Prop := fnExactFeatGetRow.holds Try.pinned (OpenSpec.ofChange fnExactFeatGetWrong)

/-- 'laws.FnExactFeatPut': WHATEVER THE INPUT: true; the input reads as it did. -/
def fnExactFeatPutSpec : ChangeSpec := { name := "fnExactFeatPut", fn := fun _ => fun
  | [d1, d2, d3] => { results := [.lit (.bool true)], args := [d1, d2, d3] }
  | _ => none }
def fnExactFeatPutRow : OpenClaim := { program := "ythkfofldpcbjiaa", sum := "1a97e76e44c6caab965cbf0c3a216c5597188858aa08ecf48a406a35e11581f5", func := "loop.example/townland/laws.FnExactFeatPut", spec := "fnExactFeatPut", unfollowed := true, recurses := true, apart := false }
def FnExactFeatPutSaid : Prop := fnExactFeatPutRow.holds Try.pinned (OpenSpec.ofChange fnExactFeatPutSpec)

/-- ITS FALSE NEIGHBOUR: 'it returns false'. Refute it at one input. -/
def fnExactFeatPutWrong : ChangeSpec := { name := "fnExactFeatPut", fn := fun _ => fun
  | [d1, d2, d3] => { results := [.lit (.bool false)], args := [d1, d2, d3] }
  | _ => none }
def FnExactFeatPutWrongFalsely : Prop := fnExactFeatPutRow.holds Try.pinned (OpenSpec.ofChange fnExactFeatPutWrong)

/-- 'laws.FnExactFeatCut': WHATEVER THE INPUT: true; the input reads as it did. -/
def fnExactFeatCutSpec : ChangeSpec := { name := "fnExactFeatCut", fn := fun _ => fun
  | [d1, d2] => { results := [.lit (.bool true)], args := [d1, d2] }
  | _ => none }
def fnExactFeatCutRow : OpenClaim := { program := "ythkfofldpcbjiaa", sum := "1a97e76e44c6caab965cbf0c3a216c5597188858aa08ecf48a406a35e11581f5", func := "loop.example/townland/laws.FnExactFeatCut", spec := "fnExactFeatCut", unfollowed := true, recurses := true, apart := false }
def FnExactFeatCutSaid : Prop := fnExactFeatCutRow.holds Try.pinned (OpenSpec.ofChange fnExactFeatCutSpec)

/-- ITS FALSE NEIGHBOUR: 'it returns false'. Refute it at one input. -/
def fnExactFeatCutWrong : ChangeSpec := { name := "fnExactFeatCut", fn := fun _ => fun
  | [d1, d2] => { results := [.lit (.bool false)], args := [d1, d2] }
  | _ => none }
def FnExactFeatCutWrongFalsely : Prop := fnExactFeatCutRow.holds Try.pinned (OpenSpec.ofChange fnExactFeatCutWrong)

/- THE SECOND FORM. 'bulk': how many values and letters a reading holds, each counted each time it is reached (what is shared counts as often as it is met; a slice's spare places count too). A statement '..UptoSaid' is the law's where the arguments, and the package variables that the reading takes, are together of bulk at most 1048576: NARROWER than '..Said'. Prove '..Said' where nothing that the law and all that it calls make is longer than what came in: it says more and counts as full. Else prove '..UptoSaid'. A law counts once. -/
mutual
def uptoBulk {H : Type} : DataW H → Nat
  | .lit (.string bytes) => bytes.length + 1
  | .lit _ => 1
  | .nil => 1
  | .ptr d => uptoBulk d + 1
  | .slice elems spare => uptoBulkAll elems + uptoBulkAll spare + 1
  | .agg parts => uptoBulkAll parts + 1
  | .iface _ d => uptoBulk d + 1
  | .map entries => uptoBulkEntries entries + 1
  | .held _ => 1
def uptoBulkAll {H : Type} : List (DataW H) → Nat
  | [] => 0
  | d :: r => uptoBulk d + uptoBulkAll r
def uptoBulkEntries {H : Type} : List (Lit × DataW H) → Nat
  | [] => 0
  | x :: r => uptoBulkEntry x + uptoBulkEntries r
def uptoBulkEntry {H : Type} : Lit × DataW H → Nat
  | (.string bytes, d) => bytes.length + uptoBulk d + 1
  | (_, d) => uptoBulk d + 1
 end
def uptoSmall : (H : Type) → List (DataW H) → Bool := fun _ ds => decide (uptoBulkAll ds ≤ 1048576)
def OpenSpec.upto (s : _root_.Go.ChangeSpec) : _root_.Go.OpenSpec := { _root_.Go.OpenSpec.ofChange s with cond := some uptoSmall }

/-- 'laws.FnExactWordOk', WHERE WHAT IT READS IS OF BULK AT MOST 1048576: true; the input reads as it did. -/
def fnExactWordOkUptoRow : OpenClaim := { program := "ythkfofldpcbjiaa", sum := "1a97e76e44c6caab965cbf0c3a216c5597188858aa08ecf48a406a35e11581f5", func := "loop.example/townland/laws.FnExactWordOk", spec := "fnExactWordOk", apart := false, narrowed := true }
def FnExactWordOkUptoSaid : Prop := fnExactWordOkUptoRow.holds Try.pinned (OpenSpec.upto fnExactWordOkSpec)

/-- 'laws.FnExactFeatOk', WHERE WHAT IT READS IS OF BULK AT MOST 1048576: true; the input reads as it did. -/
def fnExactFeatOkUptoRow : OpenClaim := { program := "ythkfofldpcbjiaa", sum := "1a97e76e44c6caab965cbf0c3a216c5597188858aa08ecf48a406a35e11581f5", func := "loop.example/townland/laws.FnExactFeatOk", spec := "fnExactFeatOk", unfollowed := true, recurses := true, apart := false, narrowed := true }
def FnExactFeatOkUptoSaid : Prop := fnExactFeatOkUptoRow.holds Try.pinned (OpenSpec.upto fnExactFeatOkSpec)

/-- 'laws.FnExactFeatSame', WHERE WHAT IT READS IS OF BULK AT MOST 1048576: true; the input reads as it did. -/
def fnExactFeatSameUptoRow : OpenClaim := { program := "ythkfofldpcbjiaa", sum := "1a97e76e44c6caab965cbf0c3a216c5597188858aa08ecf48a406a35e11581f5", func := "loop.example/townland/laws.FnExactFeatSame", spec := "fnExactFeatSame", apart := false, narrowed := true }
def FnExactFeatSameUptoSaid : Prop := fnExactFeatSameUptoRow.holds Try.pinned (OpenSpec.upto fnExactFeatSameSpec)

/-- 'laws.FnExactFeatGet', WHERE WHAT IT READS IS OF BULK AT MOST 1048576: true; the input reads as it did. -/
def fnExactFeatGetUptoRow : OpenClaim := { program := "ythkfofldpcbjiaa", sum := "1a97e76e44c6caab965cbf0c3a216c5597188858aa08ecf48a406a35e11581f5", func := "loop.example/townland/laws.FnExactFeatGet", spec := "fnExactFeatGet", unfollowed := true, recurses := true, apart := false, narrowed := true }
def FnExactFeatGetUptoSaid : Prop := fnExactFeatGetUptoRow.holds Try.pinned (OpenSpec.upto fnExactFeatGetSpec)

/-- 'laws.FnExactFeatPut', WHERE WHAT IT READS IS OF BULK AT MOST 1048576: true; the input reads as it did. -/
def fnExactFeatPutUptoRow : OpenClaim := { program := "ythkfofldpcbjiaa", sum := "1a97e76e44c6caab965cbf0c3a216c5597188858aa08ecf48a406a35e11581f5", func := "loop.example/townland/laws.FnExactFeatPut", spec := "fnExactFeatPut", unfollowed := true, recurses := true, apart := false, narrowed := true }
def FnExactFeatPutUptoSaid : Prop := fnExactFeatPutUptoRow.holds Try.pinned (OpenSpec.upto fnExactFeatPutSpec)

/-- 'laws.FnExactFeatCut', WHERE WHAT IT READS IS OF BULK AT MOST 1048576: true; the input reads as it did. -/
def fnExactFeatCutUptoRow : OpenClaim := { program := "ythkfofldpcbjiaa", sum := "1a97e76e44c6caab965cbf0c3a216c5597188858aa08ecf48a406a35e11581f5", func := "loop.example/townland/laws.FnExactFeatCut", spec := "fnExactFeatCut", unfollowed := true, recurses := true, apart := false, narrowed := true }
def FnExactFeatCutUptoSaid : Prop := fnExactFeatCutUptoRow.holds Try.pinned (OpenSpec.upto fnExactFeatCutSpec)

end Rows
end Go.Proofs.Ythkfofldpcbjiaa
