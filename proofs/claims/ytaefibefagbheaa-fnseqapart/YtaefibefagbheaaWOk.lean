/- Proved here: the functions that ask whether a shape is one answer as the plain definition 'shapeOk' says; rows of at most 1,048,576 points. -/
import Derived.Test.YtaefibefagbheaaWBase
import Derived.IntWalk
namespace Go.Proofs.Ytaefibefagbheaa
set_option linter.unusedVariables false
open Go.ChangeShapes Go.WideShapes Go.ChangeAt Go.RowKit

/-- a place is in reach -/
def inR (n : Int) : Bool := decide (-1000 ≤ n) && decide (n ≤ 1000)
/-- a point is one, and not the one ahead of it -/
def ptGood (ps : List (Int × Int)) (i : Nat) : Bool := inR (px ps i) && inR (py ps i) && !(decide (0 < i) && ptEq (px ps i, py ps i) (px ps (i - 1), py ps (i - 1)))
def ptsGood (ps : List (Int × Int)) : Bool := (List.range ps.length).all (ptGood ps)
/-- how many points a kind has -/
def kindHolds (k : Int) (ps : List (Int × Int)) : Bool :=
  if k = 1 then decide (ps.length = 1) else if k = 2 then decide (2 ≤ ps.length) else if k = 3 then decide (3 ≤ ps.length) && !ptEq (px ps 0, py ps 0) (px ps (ps.length - 1), py ps (ps.length - 1)) else false
def shapeOk (k : Int) (ps : List (Int × Int)) : Bool := decide (ps.length ≤ 6) && kindHolds k ps && ptsGood ps

theorem ptsGood_of {ps : List (Int × Int)} (h : ∀ j, j < ps.length → ptGood ps j = true) : ptsGood ps = true := by
  unfold ptsGood
  rw [List.all_eq_true]
  intro j hj
  exact h j (by simpa using hj)

theorem ptsGood_not {ps : List (Int × Int)} {j : Nat} (hj : j < ps.length) (h : ptGood ps j = false) : ptsGood ps = false := by
  unfold ptsGood
  rw [List.all_eq_false]
  exact ⟨j, by simpa using hj, by simp [h]⟩

theorem ptsGood_at {ps : List (Int × Int)} (h : ptsGood ps = true) {j : Nat} (hj : j < ps.length) : ptGood ps j = true := by
  unfold ptsGood at h
  rw [List.all_eq_true] at h
  exact h j (by simpa using hj)

end Go.Proofs.Ytaefibefagbheaa
