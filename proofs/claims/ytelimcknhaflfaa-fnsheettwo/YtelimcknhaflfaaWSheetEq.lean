/- Proved here: the three functions that hold two lists of things against each other answer whether they are the same lists; lists of at most 1,048,576 things, points and tags. -/
import Derived.Test.YtelimcknhaflfaaWSheet
import Derived.Test.YtelimcknhaflfaaWFeatEq
import Derived.StillTailTactics
namespace Go.Proofs.Ytelimcknhaflfaa
set_option linter.unusedVariables false
open Go.ChangeShapes Go.WideShapes Go.ChangeAt Go.RowKit

/-- two lists of things are one -/
def fsEq (fs gs : List Ft) : Bool := decide (fs = gs)

theorem featEq_fg (fs gs : List Ft) (i j : Nat) : featEq (fid fs i) (fid gs j) (fkd fs i) (fkd gs j) (fps fs i) (fps gs j) (fts fs i) (fts gs j) = decide (fg fs i = fg gs j) := by
  rw [fg_eq, fg_eq]
  unfold featEq shEq ptsEq tgsEq
  by_cases h1 : fid fs i = fid gs j <;> by_cases h2 : fkd fs i = fkd gs j <;> by_cases h3 : fps fs i = fps gs j <;> by_cases h4 : fts fs i = fts gs j <;> simp [h1, h2, h3, h4]

theorem fsEq_of {fs gs : List Ft} (hl : fs.length = gs.length) (h : ∀ j, j < fs.length → fg fs j = fg gs j) : fsEq fs gs = true := by
  unfold fsEq
  rw [decide_eq_true_iff]
  refine List.ext_getElem hl fun i h1 h2 => ?_
  have := h i h1
  rwa [fg_get h1, fg_get h2] at this

theorem fsEq_ne {fs gs : List Ft} {j : Nat} (h : ¬ fg fs j = fg gs j) : fsEq fs gs = false := by
  unfold fsEq
  rw [decide_eq_false_iff_not]
  rintro rfl
  exact h rfl

theorem fsEq_len {fs gs : List Ft} (h : fs.length ≠ gs.length) : fsEq fs gs = false := by
  unfold fsEq
  rw [decide_eq_false_iff_not]
  rintro rfl
  exact h rfl

end Go.Proofs.Ytelimcknhaflfaa
