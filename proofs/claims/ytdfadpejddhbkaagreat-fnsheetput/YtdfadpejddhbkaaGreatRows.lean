/-
  No cell of these rows narrows 'for every input' (looked for: loops, veiled, ifaces, maps, wideKeys, modest, calm, conditions, laid).
  DERIVED. THE GIVEN ROWS OF THIS SEAT. 11 by the template 'for every input the law returns true; each argument reads behind the call as it read before'; 0 by the template 'total and deterministic' (their statements: YtdfadpejddhbkaaGreatTotals.lean).
  GIVEN WITH THE SEED: the statements are not yours to turn. If you find one false, say at which input.
  Laid BY PROGRAM, IN A SANDBOX (cutbox-rows.mjs): the forced cells as the released guide's own fill.sh prints them over the translation 440b5a81224f3fc5… (all of the seat's roots in one cut). By AI agents, Wed Nov 11 2026. No macro, syntax, notation, axiom, sorry.
-/
import Derived.Test.YtdfadpejddhbkaaGreatChecked
import GoSem.Claim
import GoSem.ClaimJoined
import GoSem.ClaimMapViews
import Derived.JoinedTies
import Derived.KernelRfl
namespace Go.Proofs.YtdfadpejddhbkaaGreat
/- THE CELL 'sum', in the pinned program and in every row, IS THE sha256 OF THE DUMP (.gsa) THAT YtdfadpejddhbkaaGreatProg.lean LOADS. Nothing in Lean hashes anything: it is a label: what it is worth is what the hold of that sum in a sandbox is worth. -/
noncomputable def Tryz.pinned : Pinned := { name := "ytdfadpejddhbkaagreat", sum := "440b5a81224f3fc5fc22403bca6299d49da0c868f522406c21cbf4112e0e43cd", checked := Tryz.checked }
namespace Rows
def none {H : Type} : Left H := { results := [], args := [] }

/-- 'laws.FnSheetCut': WHATEVER THE INPUT: true; the input reads as it did. -/
def fnSheetCutSpec : ChangeSpec := { name := "fnSheetCut", fn := fun _ => fun
  | [d] => { results := [.lit (.bool true)], args := [d] }
  | _ => none }
def fnSheetCutRow : OpenClaim := { program := "ytdfadpejddhbkaagreat", sum := "440b5a81224f3fc5fc22403bca6299d49da0c868f522406c21cbf4112e0e43cd", func := "loop.example/townland/laws.FnSheetCut", spec := "fnSheetCut", unfollowed := true, recurses := true, apart := false }
def FnSheetCutSaid : Prop := fnSheetCutRow.holds Tryz.pinned (OpenSpec.ofChange fnSheetCutSpec)

/-- ITS FALSE NEIGHBOUR: 'it returns false'. Refute it at one input. -/
def fnSheetCutWrong : ChangeSpec := { name := "fnSheetCut", fn := fun _ => fun
  | [d] => { results := [.lit (.bool false)], args := [d] }
  | _ => none }
def FnSheetCutWrongFalsely : Prop := fnSheetCutRow.holds Tryz.pinned (OpenSpec.ofChange fnSheetCutWrong)

/-- 'laws.FnSheetPut': WHATEVER THE INPUT: true; the input reads as it did. -/
def fnSheetPutSpec : ChangeSpec := { name := "fnSheetPut", fn := fun _ => fun
  | [d] => { results := [.lit (.bool true)], args := [d] }
  | _ => none }
def fnSheetPutRow : OpenClaim := { program := "ytdfadpejddhbkaagreat", sum := "440b5a81224f3fc5fc22403bca6299d49da0c868f522406c21cbf4112e0e43cd", func := "loop.example/townland/laws.FnSheetPut", spec := "fnSheetPut", unfollowed := true, recurses := true, apart := false }
def FnSheetPutSaid : Prop := fnSheetPutRow.holds Tryz.pinned (OpenSpec.ofChange fnSheetPutSpec)

/-- ITS FALSE NEIGHBOUR: 'it returns false'. Refute it at one input. -/
def fnSheetPutWrong : ChangeSpec := { name := "fnSheetPut", fn := fun _ => fun
  | [d] => { results := [.lit (.bool false)], args := [d] }
  | _ => none }
def FnSheetPutWrongFalsely : Prop := fnSheetPutRow.holds Tryz.pinned (OpenSpec.ofChange fnSheetPutWrong)

/-- 'laws.FnRepoPast': WHATEVER THE INPUT: true; the input reads as it did. -/
def fnRepoPastSpec : ChangeSpec := { name := "fnRepoPast", fn := fun _ => fun
  | [d] => { results := [.lit (.bool true)], args := [d] }
  | _ => none }
def fnRepoPastRow : OpenClaim := { program := "ytdfadpejddhbkaagreat", sum := "440b5a81224f3fc5fc22403bca6299d49da0c868f522406c21cbf4112e0e43cd", func := "loop.example/townland/laws.FnRepoPast", spec := "fnRepoPast", unfollowed := true, recurses := true, apart := false }
def FnRepoPastSaid : Prop := fnRepoPastRow.holds Tryz.pinned (OpenSpec.ofChange fnRepoPastSpec)

/-- ITS FALSE NEIGHBOUR: 'it returns false'. Refute it at one input. -/
def fnRepoPastWrong : ChangeSpec := { name := "fnRepoPast", fn := fun _ => fun
  | [d] => { results := [.lit (.bool false)], args := [d] }
  | _ => none }
def FnRepoPastWrongFalsely : Prop := fnRepoPastRow.holds Tryz.pinned (OpenSpec.ofChange fnRepoPastWrong)

/-- 'laws.FnRepoBases': WHATEVER THE INPUT: true; the input reads as it did. -/
def fnRepoBasesSpec : ChangeSpec := { name := "fnRepoBases", fn := fun _ => fun
  | [d] => { results := [.lit (.bool true)], args := [d] }
  | _ => none }
def fnRepoBasesRow : OpenClaim := { program := "ytdfadpejddhbkaagreat", sum := "440b5a81224f3fc5fc22403bca6299d49da0c868f522406c21cbf4112e0e43cd", func := "loop.example/townland/laws.FnRepoBases", spec := "fnRepoBases", unfollowed := true, recurses := true, apart := false }
def FnRepoBasesSaid : Prop := fnRepoBasesRow.holds Tryz.pinned (OpenSpec.ofChange fnRepoBasesSpec)

/-- ITS FALSE NEIGHBOUR: 'it returns false'. Refute it at one input. -/
def fnRepoBasesWrong : ChangeSpec := { name := "fnRepoBases", fn := fun _ => fun
  | [d] => { results := [.lit (.bool false)], args := [d] }
  | _ => none }
def FnRepoBasesWrongFalsely : Prop := fnRepoBasesRow.holds Tryz.pinned (OpenSpec.ofChange fnRepoBasesWrong)

/-- 'laws.FnRepoAhead': WHATEVER THE INPUT: true; the input reads as it did. -/
def fnRepoAheadSpec : ChangeSpec := { name := "fnRepoAhead", fn := fun _ => fun
  | [d1, d2] => { results := [.lit (.bool true)], args := [d1, d2] }
  | _ => none }
def fnRepoAheadRow : OpenClaim := { program := "ytdfadpejddhbkaagreat", sum := "440b5a81224f3fc5fc22403bca6299d49da0c868f522406c21cbf4112e0e43cd", func := "loop.example/townland/laws.FnRepoAhead", spec := "fnRepoAhead", unfollowed := true, recurses := true, apart := false }
def FnRepoAheadSaid : Prop := fnRepoAheadRow.holds Tryz.pinned (OpenSpec.ofChange fnRepoAheadSpec)

/-- ITS FALSE NEIGHBOUR: 'it returns false'. Refute it at one input. -/
def fnRepoAheadWrong : ChangeSpec := { name := "fnRepoAhead", fn := fun _ => fun
  | [d1, d2] => { results := [.lit (.bool false)], args := [d1, d2] }
  | _ => none }
def FnRepoAheadWrongFalsely : Prop := fnRepoAheadRow.holds Tryz.pinned (OpenSpec.ofChange fnRepoAheadWrong)

/-- 'laws.FnJoinBase': WHATEVER THE INPUT: true; the input reads as it did. -/
def fnJoinBaseSpec : ChangeSpec := { name := "fnJoinBase", fn := fun _ => fun
  | [d] => { results := [.lit (.bool true)], args := [d] }
  | _ => none }
def fnJoinBaseRow : OpenClaim := { program := "ytdfadpejddhbkaagreat", sum := "440b5a81224f3fc5fc22403bca6299d49da0c868f522406c21cbf4112e0e43cd", func := "loop.example/townland/laws.FnJoinBase", spec := "fnJoinBase", unfollowed := true, recurses := true, apart := false }
def FnJoinBaseSaid : Prop := fnJoinBaseRow.holds Tryz.pinned (OpenSpec.ofChange fnJoinBaseSpec)

/-- ITS FALSE NEIGHBOUR: 'it returns false'. Refute it at one input. -/
def fnJoinBaseWrong : ChangeSpec := { name := "fnJoinBase", fn := fun _ => fun
  | [d] => { results := [.lit (.bool false)], args := [d] }
  | _ => none }
def FnJoinBaseWrongFalsely : Prop := fnJoinBaseRow.holds Tryz.pinned (OpenSpec.ofChange fnJoinBaseWrong)

/-- 'laws.FnExactRepoAdd': WHATEVER THE INPUT: true; the input reads as it did. -/
def fnExactRepoAddSpec : ChangeSpec := { name := "fnExactRepoAdd", fn := fun _ => fun
  | [d1, d2, d3, d4] => { results := [.lit (.bool true)], args := [d1, d2, d3, d4] }
  | _ => none }
def fnExactRepoAddRow : OpenClaim := { program := "ytdfadpejddhbkaagreat", sum := "440b5a81224f3fc5fc22403bca6299d49da0c868f522406c21cbf4112e0e43cd", func := "loop.example/townland/laws.FnExactRepoAdd", spec := "fnExactRepoAdd", unfollowed := true, recurses := true, apart := false }
def FnExactRepoAddSaid : Prop := fnExactRepoAddRow.holds Tryz.pinned (OpenSpec.ofChange fnExactRepoAddSpec)

/-- ITS FALSE NEIGHBOUR: 'it returns false'. Refute it at one input. -/
def fnExactRepoAddWrong : ChangeSpec := { name := "fnExactRepoAdd", fn := fun _ => fun
  | [d1, d2, d3, d4] => { results := [.lit (.bool false)], args := [d1, d2, d3, d4] }
  | _ => none }
def FnExactRepoAddWrongFalsely : Prop := fnExactRepoAddRow.holds Tryz.pinned (OpenSpec.ofChange fnExactRepoAddWrong)

/-- 'laws.FnExactRepoBranch': WHATEVER THE INPUT: true; the input reads as it did. -/
def fnExactRepoBranchSpec : ChangeSpec := { name := "fnExactRepoBranch", fn := fun _ => fun
  | [d1, d2, d3] => { results := [.lit (.bool true)], args := [d1, d2, d3] }
  | _ => none }
def fnExactRepoBranchRow : OpenClaim := { program := "ytdfadpejddhbkaagreat", sum := "440b5a81224f3fc5fc22403bca6299d49da0c868f522406c21cbf4112e0e43cd", func := "loop.example/townland/laws.FnExactRepoBranch", spec := "fnExactRepoBranch", unfollowed := true, recurses := true, apart := false }
def FnExactRepoBranchSaid : Prop := fnExactRepoBranchRow.holds Tryz.pinned (OpenSpec.ofChange fnExactRepoBranchSpec)

/-- ITS FALSE NEIGHBOUR: 'it returns false'. Refute it at one input. -/
def fnExactRepoBranchWrong : ChangeSpec := { name := "fnExactRepoBranch", fn := fun _ => fun
  | [d1, d2, d3] => { results := [.lit (.bool false)], args := [d1, d2, d3] }
  | _ => none }
def FnExactRepoBranchWrongFalsely : Prop := fnExactRepoBranchRow.holds Tryz.pinned (OpenSpec.ofChange fnExactRepoBranchWrong)

/-- 'laws.FnExactRepoDrop': WHATEVER THE INPUT: true; the input reads as it did. -/
def fnExactRepoDropSpec : ChangeSpec := { name := "fnExactRepoDrop", fn := fun _ => fun
  | [d1, d2] => { results := [.lit (.bool true)], args := [d1, d2] }
  | _ => none }
def fnExactRepoDropRow : OpenClaim := { program := "ytdfadpejddhbkaagreat", sum := "440b5a81224f3fc5fc22403bca6299d49da0c868f522406c21cbf4112e0e43cd", func := "loop.example/townland/laws.FnExactRepoDrop", spec := "fnExactRepoDrop", unfollowed := true, recurses := true, apart := false }
def FnExactRepoDropSaid : Prop := fnExactRepoDropRow.holds Tryz.pinned (OpenSpec.ofChange fnExactRepoDropSpec)

/-- ITS FALSE NEIGHBOUR: 'it returns false'. Refute it at one input. -/
def fnExactRepoDropWrong : ChangeSpec := { name := "fnExactRepoDrop", fn := fun _ => fun
  | [d1, d2] => { results := [.lit (.bool false)], args := [d1, d2] }
  | _ => none }
def FnExactRepoDropWrongFalsely : Prop := fnExactRepoDropRow.holds Tryz.pinned (OpenSpec.ofChange fnExactRepoDropWrong)

/-- 'laws.FnExactRepoSweep': WHATEVER THE INPUT: true; the input reads as it did. -/
def fnExactRepoSweepSpec : ChangeSpec := { name := "fnExactRepoSweep", fn := fun _ => fun
  | [d] => { results := [.lit (.bool true)], args := [d] }
  | _ => none }
def fnExactRepoSweepRow : OpenClaim := { program := "ytdfadpejddhbkaagreat", sum := "440b5a81224f3fc5fc22403bca6299d49da0c868f522406c21cbf4112e0e43cd", func := "loop.example/townland/laws.FnExactRepoSweep", spec := "fnExactRepoSweep", unfollowed := true, recurses := true, apart := false }
def FnExactRepoSweepSaid : Prop := fnExactRepoSweepRow.holds Tryz.pinned (OpenSpec.ofChange fnExactRepoSweepSpec)

/-- ITS FALSE NEIGHBOUR: 'it returns false'. Refute it at one input. -/
def fnExactRepoSweepWrong : ChangeSpec := { name := "fnExactRepoSweep", fn := fun _ => fun
  | [d] => { results := [.lit (.bool false)], args := [d] }
  | _ => none }
def FnExactRepoSweepWrongFalsely : Prop := fnExactRepoSweepRow.holds Tryz.pinned (OpenSpec.ofChange fnExactRepoSweepWrong)

/-- 'laws.FnExactJoinBase': WHATEVER THE INPUT: true; the input reads as it did. -/
def fnExactJoinBaseSpec : ChangeSpec := { name := "fnExactJoinBase", fn := fun _ => fun
  | [d1, d2, d3] => { results := [.lit (.bool true)], args := [d1, d2, d3] }
  | _ => none }
def fnExactJoinBaseRow : OpenClaim := { program := "ytdfadpejddhbkaagreat", sum := "440b5a81224f3fc5fc22403bca6299d49da0c868f522406c21cbf4112e0e43cd", func := "loop.example/townland/laws.FnExactJoinBase", spec := "fnExactJoinBase", unfollowed := true, recurses := true, apart := false }
def FnExactJoinBaseSaid : Prop := fnExactJoinBaseRow.holds Tryz.pinned (OpenSpec.ofChange fnExactJoinBaseSpec)

/-- ITS FALSE NEIGHBOUR: 'it returns false'. Refute it at one input. -/
def fnExactJoinBaseWrong : ChangeSpec := { name := "fnExactJoinBase", fn := fun _ => fun
  | [d1, d2, d3] => { results := [.lit (.bool false)], args := [d1, d2, d3] }
  | _ => none }
def FnExactJoinBaseWrongFalsely : Prop := fnExactJoinBaseRow.holds Tryz.pinned (OpenSpec.ofChange fnExactJoinBaseWrong)

/- THE SECOND FORM. 'bulk': how many values and letters a reading holds, each counted each time it is reached (what is shared counts as often as it is met; a slice's spare places count too). A statement '..UptoSaid' is the law's where the arguments, and the package variables that the reading takes, are together of bulk at most 1048576: NARROWER than '..Said'. Prove '..Said' where nothing that the law and all that it calls make is longer than what came in: it says more and counts as full. Else prove '..UptoSaid'. A law counts once. -/
mutual
def uptoBulk {H : Type} : DataW H → Nat
  | .lit (.string bytes) => bytes.length + 1
  | .lit _ => 1
  | .nil => 1
  | .ptr d => uptoBulk d + 1
  | .slice elems spare => uptoBulkAll elems + uptoBulkAll spare + 1
  | .agg parts => uptoBulkAll parts + 1
  | .iface _ d => uptoBulk d + 1
  | .map entries => uptoBulkEntries entries + 1
  | .held _ => 1
def uptoBulkAll {H : Type} : List (DataW H) → Nat
  | [] => 0
  | d :: r => uptoBulk d + uptoBulkAll r
def uptoBulkEntries {H : Type} : List (Lit × DataW H) → Nat
  | [] => 0
  | x :: r => uptoBulkEntry x + uptoBulkEntries r
def uptoBulkEntry {H : Type} : Lit × DataW H → Nat
  | (.string bytes, d) => bytes.length + uptoBulk d + 1
  | (_, d) => uptoBulk d + 1
 end
def uptoSmall : (H : Type) → List (DataW H) → Bool := fun _ ds => decide (uptoBulkAll ds ≤ 1048576)
def OpenSpec.upto (s : _root_.Go.ChangeSpec) : _root_.Go.OpenSpec := { _root_.Go.OpenSpec.ofChange s with cond := some uptoSmall }

/-- 'laws.FnSheetCut', WHERE WHAT IT READS IS OF BULK AT MOST 1048576: true; the input reads as it did. -/
def fnSheetCutUptoRow : OpenClaim := { program := "ytdfadpejddhbkaagreat", sum := "440b5a81224f3fc5fc22403bca6299d49da0c868f522406c21cbf4112e0e43cd", func := "loop.example/townland/laws.FnSheetCut", spec := "fnSheetCut", unfollowed := true, recurses := true, apart := false, narrowed := true }
def FnSheetCutUptoSaid : Prop := fnSheetCutUptoRow.holds Tryz.pinned (OpenSpec.upto fnSheetCutSpec)

/-- 'laws.FnSheetPut', WHERE WHAT IT READS IS OF BULK AT MOST 1048576: true; the input reads as it did. -/
def fnSheetPutUptoRow : OpenClaim := { program := "ytdfadpejddhbkaagreat", sum := "440b5a81224f3fc5fc22403bca6299d49da0c868f522406c21cbf4112e0e43cd", func := "loop.example/townland/laws.FnSheetPut", spec := "fnSheetPut", unfollowed := true, recurses := true, apart := false, narrowed := true }
def FnSheetPutUptoSaid : Prop := fnSheetPutUptoRow.holds Tryz.pinned (OpenSpec.upto fnSheetPutSpec)

/-- 'laws.FnRepoPast', WHERE WHAT IT READS IS OF BULK AT MOST 1048576: true; the input reads as it did. -/
def fnRepoPastUptoRow : OpenClaim := { program := "ytdfadpejddhbkaagreat", sum := "440b5a81224f3fc5fc22403bca6299d49da0c868f522406c21cbf4112e0e43cd", func := "loop.example/townland/laws.FnRepoPast", spec := "fnRepoPast", unfollowed := true, recurses := true, apart := false, narrowed := true }
def FnRepoPastUptoSaid : Prop := fnRepoPastUptoRow.holds Tryz.pinned (OpenSpec.upto fnRepoPastSpec)

/-- 'laws.FnRepoBases', WHERE WHAT IT READS IS OF BULK AT MOST 1048576: true; the input reads as it did. -/
def fnRepoBasesUptoRow : OpenClaim := { program := "ytdfadpejddhbkaagreat", sum := "440b5a81224f3fc5fc22403bca6299d49da0c868f522406c21cbf4112e0e43cd", func := "loop.example/townland/laws.FnRepoBases", spec := "fnRepoBases", unfollowed := true, recurses := true, apart := false, narrowed := true }
def FnRepoBasesUptoSaid : Prop := fnRepoBasesUptoRow.holds Tryz.pinned (OpenSpec.upto fnRepoBasesSpec)

/-- 'laws.FnRepoAhead', WHERE WHAT IT READS IS OF BULK AT MOST 1048576: true; the input reads as it did. -/
def fnRepoAheadUptoRow : OpenClaim := { program := "ytdfadpejddhbkaagreat", sum := "440b5a81224f3fc5fc22403bca6299d49da0c868f522406c21cbf4112e0e43cd", func := "loop.example/townland/laws.FnRepoAhead", spec := "fnRepoAhead", unfollowed := true, recurses := true, apart := false, narrowed := true }
def FnRepoAheadUptoSaid : Prop := fnRepoAheadUptoRow.holds Tryz.pinned (OpenSpec.upto fnRepoAheadSpec)

/-- 'laws.FnJoinBase', WHERE WHAT IT READS IS OF BULK AT MOST 1048576: true; the input reads as it did. -/
def fnJoinBaseUptoRow : OpenClaim := { program := "ytdfadpejddhbkaagreat", sum := "440b5a81224f3fc5fc22403bca6299d49da0c868f522406c21cbf4112e0e43cd", func := "loop.example/townland/laws.FnJoinBase", spec := "fnJoinBase", unfollowed := true, recurses := true, apart := false, narrowed := true }
def FnJoinBaseUptoSaid : Prop := fnJoinBaseUptoRow.holds Tryz.pinned (OpenSpec.upto fnJoinBaseSpec)

/-- 'laws.FnExactRepoAdd', WHERE WHAT IT READS IS OF BULK AT MOST 1048576: true; the input reads as it did. -/
def fnExactRepoAddUptoRow : OpenClaim := { program := "ytdfadpejddhbkaagreat", sum := "440b5a81224f3fc5fc22403bca6299d49da0c868f522406c21cbf4112e0e43cd", func := "loop.example/townland/laws.FnExactRepoAdd", spec := "fnExactRepoAdd", unfollowed := true, recurses := true, apart := false, narrowed := true }
def FnExactRepoAddUptoSaid : Prop := fnExactRepoAddUptoRow.holds Tryz.pinned (OpenSpec.upto fnExactRepoAddSpec)

/-- 'laws.FnExactRepoBranch', WHERE WHAT IT READS IS OF BULK AT MOST 1048576: true; the input reads as it did. -/
def fnExactRepoBranchUptoRow : OpenClaim := { program := "ytdfadpejddhbkaagreat", sum := "440b5a81224f3fc5fc22403bca6299d49da0c868f522406c21cbf4112e0e43cd", func := "loop.example/townland/laws.FnExactRepoBranch", spec := "fnExactRepoBranch", unfollowed := true, recurses := true, apart := false, narrowed := true }
def FnExactRepoBranchUptoSaid : Prop := fnExactRepoBranchUptoRow.holds Tryz.pinned (OpenSpec.upto fnExactRepoBranchSpec)

/-- 'laws.FnExactRepoDrop', WHERE WHAT IT READS IS OF BULK AT MOST 1048576: true; the input reads as it did. -/
def fnExactRepoDropUptoRow : OpenClaim := { program := "ytdfadpejddhbkaagreat", sum := "440b5a81224f3fc5fc22403bca6299d49da0c868f522406c21cbf4112e0e43cd", func := "loop.example/townland/laws.FnExactRepoDrop", spec := "fnExactRepoDrop", unfollowed := true, recurses := true, apart := false, narrowed := true }
def FnExactRepoDropUptoSaid : Prop := fnExactRepoDropUptoRow.holds Tryz.pinned (OpenSpec.upto fnExactRepoDropSpec)

/-- 'laws.FnExactRepoSweep', WHERE WHAT IT READS IS OF BULK AT MOST 1048576: true; the input reads as it did. -/
def fnExactRepoSweepUptoRow : OpenClaim := { program := "ytdfadpejddhbkaagreat", sum := "440b5a81224f3fc5fc22403bca6299d49da0c868f522406c21cbf4112e0e43cd", func := "loop.example/townland/laws.FnExactRepoSweep", spec := "fnExactRepoSweep", unfollowed := true, recurses := true, apart := false, narrowed := true }
def FnExactRepoSweepUptoSaid : Prop := fnExactRepoSweepUptoRow.holds Tryz.pinned (OpenSpec.upto fnExactRepoSweepSpec)

/-- 'laws.FnExactJoinBase', WHERE WHAT IT READS IS OF BULK AT MOST 1048576: true; the input reads as it did. -/
def fnExactJoinBaseUptoRow : OpenClaim := { program := "ytdfadpejddhbkaagreat", sum := "440b5a81224f3fc5fc22403bca6299d49da0c868f522406c21cbf4112e0e43cd", func := "loop.example/townland/laws.FnExactJoinBase", spec := "fnExactJoinBase", unfollowed := true, recurses := true, apart := false, narrowed := true }
def FnExactJoinBaseUptoSaid : Prop := fnExactJoinBaseUptoRow.holds Tryz.pinned (OpenSpec.upto fnExactJoinBaseSpec)

end Rows
end Go.Proofs.YtdfadpejddhbkaaGreat
