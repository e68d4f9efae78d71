/- Proved here: facts of the translated program alone that every law's claim asks for; no condition. -/
import Derived.Test.YtdchfologicbeaaWArg
import Derived.Test.YtdchfologicbeaaRows
namespace Go.Proofs.Ytdchfologicbeaa
set_option linter.unusedVariables false
open Go.ChangeShapes Go.WideShapes Go.ChangeAt Go.RowKit

theorem pf_mapsRowed : mapsRowed Try.prog = true := by kernel_rfl
theorem pf_mayEnter : Try.prog.mayEnter = true := by kernel_rfl
theorem pf_stopsHeard : Try.prog.stopsHeard = true := by kernel_rfl
theorem pf_plainKeys : (Rows.fnExactRepoNewRow.plainKeys == Try.prog.plainKeys) = true := by kernel_rfl
theorem pf_lifted : (Rows.fnExactRepoNewRow.lifted == Try.prog.liftsFinal) = true := by kernel_rfl
theorem pf_make : (Try.prog.make == some Rows.fnExactRepoNewRow.make) = true := by kernel_rfl
end Go.Proofs.Ytdchfologicbeaa
