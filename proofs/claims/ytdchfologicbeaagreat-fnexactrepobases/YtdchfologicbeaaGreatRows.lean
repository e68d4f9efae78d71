/-
  No cell of these rows narrows 'for every input' (looked for: loops, veiled, ifaces, maps, wideKeys, modest, calm, conditions, laid).
  DERIVED. THE GIVEN ROWS OF THIS SEAT. 10 by the template 'for every input the law returns true; each argument reads behind the call as it read before'; 0 by the template 'total and deterministic' (their statements: YtdchfologicbeaaGreatTotals.lean).
  GIVEN WITH THE SEED: the statements are not yours to turn. If you find one false, say at which input.
  Laid BY PROGRAM, IN A SANDBOX (cutbox-rows.mjs): the forced cells as the released guide's own fill.sh prints them over the translation 23defd072a9ec5dc… (all of the seat's roots in one cut). By AI agents, Wed Nov 11 2026. No macro, syntax, notation, axiom, sorry.
-/
import Derived.Test.YtdchfologicbeaaGreatChecked
import GoSem.Claim
import GoSem.ClaimJoined
import GoSem.ClaimMapViews
import Derived.JoinedTies
import Derived.KernelRfl
namespace Go.Proofs.YtdchfologicbeaaGreat
/- THE CELL 'sum', in the pinned program and in every row, IS THE sha256 OF THE DUMP (.gsa) THAT YtdchfologicbeaaGreatProg.lean LOADS. Nothing in Lean hashes anything: it is a label: what it is worth is what the hold of that sum in a sandbox is worth. -/
noncomputable def Tryz.pinned : Pinned := { name := "ytdchfologicbeaagreat", sum := "23defd072a9ec5dcdca7b4199185001180e853c889c5d0fcd2820fff2df9f1d0", checked := Tryz.checked }
namespace Rows
def none {H : Type} : Left H := { results := [], args := [] }

/-- 'laws.FnExactDiffThen': WHATEVER THE INPUT: true; the input reads as it did. -/
def fnExactDiffThenSpec : ChangeSpec := { name := "fnExactDiffThen", fn := fun _ => fun
  | [d1, d2] => { results := [.lit (.bool true)], args := [d1, d2] }
  | _ => none }
def fnExactDiffThenRow : OpenClaim := { program := "ytdchfologicbeaagreat", sum := "23defd072a9ec5dcdca7b4199185001180e853c889c5d0fcd2820fff2df9f1d0", func := "loop.example/townland/laws.FnExactDiffThen", spec := "fnExactDiffThen", inPlace := ["maps.clone"], unfollowed := true, recurses := true, apart := false }
def FnExactDiffThenSaid : Prop := fnExactDiffThenRow.holds Tryz.pinned (OpenSpec.ofChange fnExactDiffThenSpec)

/-- ITS FALSE NEIGHBOUR: 'it returns false'. Refute it at one input. -/
def fnExactDiffThenWrong : ChangeSpec := { name := "fnExactDiffThen", fn := fun _ => fun
  | [d1, d2] => { results := [.lit (.bool false)], args := [d1, d2] }
  | _ => none }
def FnExactDiffThenWrongFalsely : Prop := fnExactDiffThenRow.holds Tryz.pinned (OpenSpec.ofChange fnExactDiffThenWrong)

/-- 'laws.FnExactFeatJoin': WHATEVER THE INPUT: true; the input reads as it did. -/
def fnExactFeatJoinSpec : ChangeSpec := { name := "fnExactFeatJoin", fn := fun _ => fun
  | [d1, d2, d3] => { results := [.lit (.bool true)], args := [d1, d2, d3] }
  | _ => none }
def fnExactFeatJoinRow : OpenClaim := { program := "ytdchfologicbeaagreat", sum := "23defd072a9ec5dcdca7b4199185001180e853c889c5d0fcd2820fff2df9f1d0", func := "loop.example/townland/laws.FnExactFeatJoin", spec := "fnExactFeatJoin", unfollowed := true, recurses := true, apart := false }
def FnExactFeatJoinSaid : Prop := fnExactFeatJoinRow.holds Tryz.pinned (OpenSpec.ofChange fnExactFeatJoinSpec)

/-- ITS FALSE NEIGHBOUR: 'it returns false'. Refute it at one input. -/
def fnExactFeatJoinWrong : ChangeSpec := { name := "fnExactFeatJoin", fn := fun _ => fun
  | [d1, d2, d3] => { results := [.lit (.bool false)], args := [d1, d2, d3] }
  | _ => none }
def FnExactFeatJoinWrongFalsely : Prop := fnExactFeatJoinRow.holds Tryz.pinned (OpenSpec.ofChange fnExactFeatJoinWrong)

/-- 'laws.FnExactRepoOk': WHATEVER THE INPUT: true; the input reads as it did. -/
def fnExactRepoOkSpec : ChangeSpec := { name := "fnExactRepoOk", fn := fun _ => fun
  | [d] => { results := [.lit (.bool true)], args := [d] }
  | _ => none }
def fnExactRepoOkRow : OpenClaim := { program := "ytdchfologicbeaagreat", sum := "23defd072a9ec5dcdca7b4199185001180e853c889c5d0fcd2820fff2df9f1d0", func := "loop.example/townland/laws.FnExactRepoOk", spec := "fnExactRepoOk", unfollowed := true, recurses := true, apart := false }
def FnExactRepoOkSaid : Prop := fnExactRepoOkRow.holds Tryz.pinned (OpenSpec.ofChange fnExactRepoOkSpec)

/-- ITS FALSE NEIGHBOUR: 'it returns false'. Refute it at one input. -/
def fnExactRepoOkWrong : ChangeSpec := { name := "fnExactRepoOk", fn := fun _ => fun
  | [d] => { results := [.lit (.bool false)], args := [d] }
  | _ => none }
def FnExactRepoOkWrongFalsely : Prop := fnExactRepoOkRow.holds Tryz.pinned (OpenSpec.ofChange fnExactRepoOkWrong)

/-- 'laws.FnExactRepoAt': WHATEVER THE INPUT: true; the input reads as it did. -/
def fnExactRepoAtSpec : ChangeSpec := { name := "fnExactRepoAt", fn := fun _ => fun
  | [d1, d2] => { results := [.lit (.bool true)], args := [d1, d2] }
  | _ => none }
def fnExactRepoAtRow : OpenClaim := { program := "ytdchfologicbeaagreat", sum := "23defd072a9ec5dcdca7b4199185001180e853c889c5d0fcd2820fff2df9f1d0", func := "loop.example/townland/laws.FnExactRepoAt", spec := "fnExactRepoAt", unfollowed := true, recurses := true, apart := false }
def FnExactRepoAtSaid : Prop := fnExactRepoAtRow.holds Tryz.pinned (OpenSpec.ofChange fnExactRepoAtSpec)

/-- ITS FALSE NEIGHBOUR: 'it returns false'. Refute it at one input. -/
def fnExactRepoAtWrong : ChangeSpec := { name := "fnExactRepoAt", fn := fun _ => fun
  | [d1, d2] => { results := [.lit (.bool false)], args := [d1, d2] }
  | _ => none }
def FnExactRepoAtWrongFalsely : Prop := fnExactRepoAtRow.holds Tryz.pinned (OpenSpec.ofChange fnExactRepoAtWrong)

/-- 'laws.FnExactRepoAdd': WHATEVER THE INPUT: true; the input reads as it did. -/
def fnExactRepoAddSpec : ChangeSpec := { name := "fnExactRepoAdd", fn := fun _ => fun
  | [d1, d2, d3, d4] => { results := [.lit (.bool true)], args := [d1, d2, d3, d4] }
  | _ => none }
def fnExactRepoAddRow : OpenClaim := { program := "ytdchfologicbeaagreat", sum := "23defd072a9ec5dcdca7b4199185001180e853c889c5d0fcd2820fff2df9f1d0", func := "loop.example/townland/laws.FnExactRepoAdd", spec := "fnExactRepoAdd", unfollowed := true, recurses := true, apart := false }
def FnExactRepoAddSaid : Prop := fnExactRepoAddRow.holds Tryz.pinned (OpenSpec.ofChange fnExactRepoAddSpec)

/-- ITS FALSE NEIGHBOUR: 'it returns false'. Refute it at one input. -/
def fnExactRepoAddWrong : ChangeSpec := { name := "fnExactRepoAdd", fn := fun _ => fun
  | [d1, d2, d3, d4] => { results := [.lit (.bool false)], args := [d1, d2, d3, d4] }
  | _ => none }
def FnExactRepoAddWrongFalsely : Prop := fnExactRepoAddRow.holds Tryz.pinned (OpenSpec.ofChange fnExactRepoAddWrong)

/-- 'laws.FnExactRepoBranch': WHATEVER THE INPUT: true; the input reads as it did. -/
def fnExactRepoBranchSpec : ChangeSpec := { name := "fnExactRepoBranch", fn := fun _ => fun
  | [d1, d2, d3] => { results := [.lit (.bool true)], args := [d1, d2, d3] }
  | _ => none }
def fnExactRepoBranchRow : OpenClaim := { program := "ytdchfologicbeaagreat", sum := "23defd072a9ec5dcdca7b4199185001180e853c889c5d0fcd2820fff2df9f1d0", func := "loop.example/townland/laws.FnExactRepoBranch", spec := "fnExactRepoBranch", unfollowed := true, recurses := true, apart := false }
def FnExactRepoBranchSaid : Prop := fnExactRepoBranchRow.holds Tryz.pinned (OpenSpec.ofChange fnExactRepoBranchSpec)

/-- ITS FALSE NEIGHBOUR: 'it returns false'. Refute it at one input. -/
def fnExactRepoBranchWrong : ChangeSpec := { name := "fnExactRepoBranch", fn := fun _ => fun
  | [d1, d2, d3] => { results := [.lit (.bool false)], args := [d1, d2, d3] }
  | _ => none }
def FnExactRepoBranchWrongFalsely : Prop := fnExactRepoBranchRow.holds Tryz.pinned (OpenSpec.ofChange fnExactRepoBranchWrong)

/-- 'laws.FnExactRepoDrop': WHATEVER THE INPUT: true; the input reads as it did. -/
def fnExactRepoDropSpec : ChangeSpec := { name := "fnExactRepoDrop", fn := fun _ => fun
  | [d1, d2] => { results := [.lit (.bool true)], args := [d1, d2] }
  | _ => none }
def fnExactRepoDropRow : OpenClaim := { program := "ytdchfologicbeaagreat", sum := "23defd072a9ec5dcdca7b4199185001180e853c889c5d0fcd2820fff2df9f1d0", func := "loop.example/townland/laws.FnExactRepoDrop", spec := "fnExactRepoDrop", unfollowed := true, recurses := true, apart := false }
def FnExactRepoDropSaid : Prop := fnExactRepoDropRow.holds Tryz.pinned (OpenSpec.ofChange fnExactRepoDropSpec)

/-- ITS FALSE NEIGHBOUR: 'it returns false'. Refute it at one input. -/
def fnExactRepoDropWrong : ChangeSpec := { name := "fnExactRepoDrop", fn := fun _ => fun
  | [d1, d2] => { results := [.lit (.bool false)], args := [d1, d2] }
  | _ => none }
def FnExactRepoDropWrongFalsely : Prop := fnExactRepoDropRow.holds Tryz.pinned (OpenSpec.ofChange fnExactRepoDropWrong)

/-- 'laws.FnExactRepoPast': WHATEVER THE INPUT: true; the input reads as it did. -/
def fnExactRepoPastSpec : ChangeSpec := { name := "fnExactRepoPast", fn := fun _ => fun
  | [d1, d2] => { results := [.lit (.bool true)], args := [d1, d2] }
  | _ => none }
def fnExactRepoPastRow : OpenClaim := { program := "ytdchfologicbeaagreat", sum := "23defd072a9ec5dcdca7b4199185001180e853c889c5d0fcd2820fff2df9f1d0", func := "loop.example/townland/laws.FnExactRepoPast", spec := "fnExactRepoPast", unfollowed := true, recurses := true, apart := false }
def FnExactRepoPastSaid : Prop := fnExactRepoPastRow.holds Tryz.pinned (OpenSpec.ofChange fnExactRepoPastSpec)

/-- ITS FALSE NEIGHBOUR: 'it returns false'. Refute it at one input. -/
def fnExactRepoPastWrong : ChangeSpec := { name := "fnExactRepoPast", fn := fun _ => fun
  | [d1, d2] => { results := [.lit (.bool false)], args := [d1, d2] }
  | _ => none }
def FnExactRepoPastWrongFalsely : Prop := fnExactRepoPastRow.holds Tryz.pinned (OpenSpec.ofChange fnExactRepoPastWrong)

/-- 'laws.FnExactRepoBases': WHATEVER THE INPUT: true; the input reads as it did. -/
def fnExactRepoBasesSpec : ChangeSpec := { name := "fnExactRepoBases", fn := fun _ => fun
  | [d1, d2, d3] => { results := [.lit (.bool true)], args := [d1, d2, d3] }
  | _ => none }
def fnExactRepoBasesRow : OpenClaim := { program := "ytdchfologicbeaagreat", sum := "23defd072a9ec5dcdca7b4199185001180e853c889c5d0fcd2820fff2df9f1d0", func := "loop.example/townland/laws.FnExactRepoBases", spec := "fnExactRepoBases", unfollowed := true, recurses := true, apart := false }
def FnExactRepoBasesSaid : Prop := fnExactRepoBasesRow.holds Tryz.pinned (OpenSpec.ofChange fnExactRepoBasesSpec)

/-- ITS FALSE NEIGHBOUR: 'it returns false'. Refute it at one input. -/
def fnExactRepoBasesWrong : ChangeSpec := { name := "fnExactRepoBases", fn := fun _ => fun
  | [d1, d2, d3] => { results := [.lit (.bool false)], args := [d1, d2, d3] }
  | _ => none }
def FnExactRepoBasesWrongFalsely : Prop := fnExactRepoBasesRow.holds Tryz.pinned (OpenSpec.ofChange fnExactRepoBasesWrong)

/-- 'laws.FnExactRepoAhead': WHATEVER THE INPUT: true; the input reads as it did. -/
def fnExactRepoAheadSpec : ChangeSpec := { name := "fnExactRepoAhead", fn := fun _ => fun
  | [d1, d2, d3] => { results := [.lit (.bool true)], args := [d1, d2, d3] }
  | _ => none }
def fnExactRepoAheadRow : OpenClaim := { program := "ytdchfologicbeaagreat", sum := "23defd072a9ec5dcdca7b4199185001180e853c889c5d0fcd2820fff2df9f1d0", func := "loop.example/townland/laws.FnExactRepoAhead", spec := "fnExactRepoAhead", unfollowed := true, recurses := true, apart := false }
def FnExactRepoAheadSaid : Prop := fnExactRepoAheadRow.holds Tryz.pinned (OpenSpec.ofChange fnExactRepoAheadSpec)

/-- ITS FALSE NEIGHBOUR: 'it returns false'. Refute it at one input. -/
def fnExactRepoAheadWrong : ChangeSpec := { name := "fnExactRepoAhead", fn := fun _ => fun
  | [d1, d2, d3] => { results := [.lit (.bool false)], args := [d1, d2, d3] }
  | _ => none }
def FnExactRepoAheadWrongFalsely : Prop := fnExactRepoAheadRow.holds Tryz.pinned (OpenSpec.ofChange fnExactRepoAheadWrong)

/- THE SECOND FORM. 'bulk': how many values and letters a reading holds, each counted each time it is reached (what is shared counts as often as it is met; a slice's spare places count too). A statement '..UptoSaid' is the law's where the arguments, and the package variables that the reading takes, are together of bulk at most 1048576: NARROWER than '..Said'. Prove '..Said' where nothing that the law and all that it calls make is longer than what came in: it says more and counts as full. Else prove '..UptoSaid'. A law counts once. -/
mutual
def uptoBulk {H : Type} : DataW H → Nat
  | .lit (.string bytes) => bytes.length + 1
  | .lit _ => 1
  | .nil => 1
  | .ptr d => uptoBulk d + 1
  | .slice elems spare => uptoBulkAll elems + uptoBulkAll spare + 1
  | .agg parts => uptoBulkAll parts + 1
  | .iface _ d => uptoBulk d + 1
  | .map entries => uptoBulkEntries entries + 1
  | .held _ => 1
def uptoBulkAll {H : Type} : List (DataW H) → Nat
  | [] => 0
  | d :: r => uptoBulk d + uptoBulkAll r
def uptoBulkEntries {H : Type} : List (Lit × DataW H) → Nat
  | [] => 0
  | x :: r => uptoBulkEntry x + uptoBulkEntries r
def uptoBulkEntry {H : Type} : Lit × DataW H → Nat
  | (.string bytes, d) => bytes.length + uptoBulk d + 1
  | (_, d) => uptoBulk d + 1
 end
def uptoSmall : (H : Type) → List (DataW H) → Bool := fun _ ds => decide (uptoBulkAll ds ≤ 1048576)
def OpenSpec.upto (s : _root_.Go.ChangeSpec) : _root_.Go.OpenSpec := { _root_.Go.OpenSpec.ofChange s with cond := some uptoSmall }

/-- 'laws.FnExactDiffThen', WHERE WHAT IT READS IS OF BULK AT MOST 1048576: true; the input reads as it did. -/
def fnExactDiffThenUptoRow : OpenClaim := { program := "ytdchfologicbeaagreat", sum := "23defd072a9ec5dcdca7b4199185001180e853c889c5d0fcd2820fff2df9f1d0", func := "loop.example/townland/laws.FnExactDiffThen", spec := "fnExactDiffThen", inPlace := ["maps.clone"], unfollowed := true, recurses := true, apart := false, narrowed := true }
def FnExactDiffThenUptoSaid : Prop := fnExactDiffThenUptoRow.holds Tryz.pinned (OpenSpec.upto fnExactDiffThenSpec)

/-- 'laws.FnExactFeatJoin', WHERE WHAT IT READS IS OF BULK AT MOST 1048576: true; the input reads as it did. -/
def fnExactFeatJoinUptoRow : OpenClaim := { program := "ytdchfologicbeaagreat", sum := "23defd072a9ec5dcdca7b4199185001180e853c889c5d0fcd2820fff2df9f1d0", func := "loop.example/townland/laws.FnExactFeatJoin", spec := "fnExactFeatJoin", unfollowed := true, recurses := true, apart := false, narrowed := true }
def FnExactFeatJoinUptoSaid : Prop := fnExactFeatJoinUptoRow.holds Tryz.pinned (OpenSpec.upto fnExactFeatJoinSpec)

/-- 'laws.FnExactRepoOk', WHERE WHAT IT READS IS OF BULK AT MOST 1048576: true; the input reads as it did. -/
def fnExactRepoOkUptoRow : OpenClaim := { program := "ytdchfologicbeaagreat", sum := "23defd072a9ec5dcdca7b4199185001180e853c889c5d0fcd2820fff2df9f1d0", func := "loop.example/townland/laws.FnExactRepoOk", spec := "fnExactRepoOk", unfollowed := true, recurses := true, apart := false, narrowed := true }
def FnExactRepoOkUptoSaid : Prop := fnExactRepoOkUptoRow.holds Tryz.pinned (OpenSpec.upto fnExactRepoOkSpec)

/-- 'laws.FnExactRepoAt', WHERE WHAT IT READS IS OF BULK AT MOST 1048576: true; the input reads as it did. -/
def fnExactRepoAtUptoRow : OpenClaim := { program := "ytdchfologicbeaagreat", sum := "23defd072a9ec5dcdca7b4199185001180e853c889c5d0fcd2820fff2df9f1d0", func := "loop.example/townland/laws.FnExactRepoAt", spec := "fnExactRepoAt", unfollowed := true, recurses := true, apart := false, narrowed := true }
def FnExactRepoAtUptoSaid : Prop := fnExactRepoAtUptoRow.holds Tryz.pinned (OpenSpec.upto fnExactRepoAtSpec)

/-- 'laws.FnExactRepoAdd', WHERE WHAT IT READS IS OF BULK AT MOST 1048576: true; the input reads as it did. -/
def fnExactRepoAddUptoRow : OpenClaim := { program := "ytdchfologicbeaagreat", sum := "23defd072a9ec5dcdca7b4199185001180e853c889c5d0fcd2820fff2df9f1d0", func := "loop.example/townland/laws.FnExactRepoAdd", spec := "fnExactRepoAdd", unfollowed := true, recurses := true, apart := false, narrowed := true }
def FnExactRepoAddUptoSaid : Prop := fnExactRepoAddUptoRow.holds Tryz.pinned (OpenSpec.upto fnExactRepoAddSpec)

/-- 'laws.FnExactRepoBranch', WHERE WHAT IT READS IS OF BULK AT MOST 1048576: true; the input reads as it did. -/
def fnExactRepoBranchUptoRow : OpenClaim := { program := "ytdchfologicbeaagreat", sum := "23defd072a9ec5dcdca7b4199185001180e853c889c5d0fcd2820fff2df9f1d0", func := "loop.example/townland/laws.FnExactRepoBranch", spec := "fnExactRepoBranch", unfollowed := true, recurses := true, apart := false, narrowed := true }
def FnExactRepoBranchUptoSaid : Prop := fnExactRepoBranchUptoRow.holds Tryz.pinned (OpenSpec.upto fnExactRepoBranchSpec)

/-- 'laws.FnExactRepoDrop', WHERE WHAT IT READS IS OF BULK AT MOST 1048576: true; the input reads as it did. -/
def fnExactRepoDropUptoRow : OpenClaim := { program := "ytdchfologicbeaagreat", sum := "23defd072a9ec5dcdca7b4199185001180e853c889c5d0fcd2820fff2df9f1d0", func := "loop.example/townland/laws.FnExactRepoDrop", spec := "fnExactRepoDrop", unfollowed := true, recurses := true, apart := false, narrowed := true }
def FnExactRepoDropUptoSaid : Prop := fnExactRepoDropUptoRow.holds Tryz.pinned (OpenSpec.upto fnExactRepoDropSpec)

/-- 'laws.FnExactRepoPast', WHERE WHAT IT READS IS OF BULK AT MOST 1048576: true; the input reads as it did. -/
def fnExactRepoPastUptoRow : OpenClaim := { program := "ytdchfologicbeaagreat", sum := "23defd072a9ec5dcdca7b4199185001180e853c889c5d0fcd2820fff2df9f1d0", func := "loop.example/townland/laws.FnExactRepoPast", spec := "fnExactRepoPast", unfollowed := true, recurses := true, apart := false, narrowed := true }
def FnExactRepoPastUptoSaid : Prop := fnExactRepoPastUptoRow.holds Tryz.pinned (OpenSpec.upto fnExactRepoPastSpec)

/-- 'laws.FnExactRepoBases', WHERE WHAT IT READS IS OF BULK AT MOST 1048576: true; the input reads as it did. -/
def fnExactRepoBasesUptoRow : OpenClaim := { program := "ytdchfologicbeaagreat", sum := "23defd072a9ec5dcdca7b4199185001180e853c889c5d0fcd2820fff2df9f1d0", func := "loop.example/townland/laws.FnExactRepoBases", spec := "fnExactRepoBases", unfollowed := true, recurses := true, apart := false, narrowed := true }
def FnExactRepoBasesUptoSaid : Prop := fnExactRepoBasesUptoRow.holds Tryz.pinned (OpenSpec.upto fnExactRepoBasesSpec)

/-- 'laws.FnExactRepoAhead', WHERE WHAT IT READS IS OF BULK AT MOST 1048576: true; the input reads as it did. -/
def fnExactRepoAheadUptoRow : OpenClaim := { program := "ytdchfologicbeaagreat", sum := "23defd072a9ec5dcdca7b4199185001180e853c889c5d0fcd2820fff2df9f1d0", func := "loop.example/townland/laws.FnExactRepoAhead", spec := "fnExactRepoAhead", unfollowed := true, recurses := true, apart := false, narrowed := true }
def FnExactRepoAheadUptoSaid : Prop := fnExactRepoAheadUptoRow.holds Tryz.pinned (OpenSpec.upto fnExactRepoAheadSpec)

end Rows
end Go.Proofs.YtdchfologicbeaaGreat
