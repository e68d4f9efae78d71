/- Proved here: what the rows' condition on the library's tables gives a walk: the table of powers of ten stands; no condition. -/
import Derived.Test.YtelimcknhaflfaaGreatDoorRows
import Derived.Test.YtelimcknhaflfaaGreatDoorWItoa
import Derived.Lib.LaidTab
import Derived.LaidMore
import Derived.ProofKit
namespace Go.Proofs.YtelimcknhaflfaaGreatDoor
set_option linter.unusedVariables false
open Go.ChangeShapes Go.WideShapes Go.ChangeAt Go.RowKit

theorem gPow : (Tryz.prog.globalNamed "internal/strconv.uint64pow10").bind (fun g => (Tryz.prog.globals[g]?).map (·.type)) = some 134 := by kernel_rfl
theorem powIs : (Rows.laid_internal_strconv_uint64pow10 : DataW Unit) = Lib.tabData .u64 Lib.pow10Tab := by kernel_rfl
theorem cellsU64 : Tryz.prog.cellsOf 116 = 1 := by kernel_rfl
theorem cellsPow : Tryz.prog.cellsOf 134 = 20 := by kernel_rfl

theorem tab_of_laid {W : World} (h : laidMetH Tryz.prog Rows.fnExactDiffTextRow.laid W) : Tab W := by
  rw [MakeChecks.laidMetH_plain _ _ _ (by kernel_rfl)] at h
  obtain ⟨ps, ⟨g0, t0, cs0, f0, p0, q0, hg0, ht0, hv0, hd0, ⟨g1, t1, cs1, f1, p1, q1, hg1, ht1, hv1, hd1, ⟨g2, t2, cs2, f2, p2, q2, hg2, ht2, hv2, hd2, _, _⟩, _⟩, _⟩, _, _⟩ := h
  have e := gPow
  rw [hg2, Option.bind_some, ht2] at e
  obtain rfl := Option.some.inj e
  unfold Tab Lib.TabIs
  rw [powIs] at hd2
  rw [hv2, ← Lib.cells_of_tab Tryz.underlying134 Tryz.underlying116 cellsU64 cellsPow hd2]
end Go.Proofs.YtelimcknhaflfaaGreatDoor
