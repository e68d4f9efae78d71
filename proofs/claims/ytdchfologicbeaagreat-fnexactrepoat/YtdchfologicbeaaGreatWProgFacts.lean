/- Proved here: facts of the translated program alone that every law's claim asks for; no condition. -/
import Derived.Test.YtdchfologicbeaaGreatWArg
import Derived.Test.YtdchfologicbeaaGreatRows
namespace Go.Proofs.YtdchfologicbeaaGreat
set_option linter.unusedVariables false
open Go.ChangeShapes Go.WideShapes Go.ChangeAt Go.RowKit

theorem pf_mapsRowed : mapsRowed Tryz.prog = true := by kernel_rfl
theorem pf_mayEnter : Tryz.prog.mayEnter = true := by kernel_rfl
theorem pf_stopsHeard : Tryz.prog.stopsHeard = true := by kernel_rfl
theorem pf_plainKeys : (Rows.fnExactRepoOkRow.plainKeys == Tryz.prog.plainKeys) = true := by kernel_rfl
theorem pf_lifted : (Rows.fnExactRepoOkRow.lifted == Tryz.prog.liftsFinal) = true := by kernel_rfl
theorem pf_make : (Tryz.prog.make == some Rows.fnExactRepoOkRow.make) = true := by kernel_rfl
end Go.Proofs.YtdchfologicbeaaGreat
