/- Proved here: the model's look for a name among things answers the place of the first, or -1; lists of at most 1,048,576 things. -/
import Derived.Test.YtelimcknhaflfaaWSheetOk
namespace Go.Proofs.Ytelimcknhaflfaa
set_option linter.unusedVariables false
open Go.ChangeShapes Go.WideShapes Go.ChangeAt Go.RowKit

/-- the place of the first thing of a name; where there is none, how many there are -/
def firstF (fs : List Ft) (id : ByteArray) : Nat := fs.findIdx (fun f => decide (f.1 = id))

theorem fid_get {fs : List Ft} {i : Nat} (h : i < fs.length) : fs[i].1 = fid fs i := by unfold fid; rw [fg_get h]

theorem firstF_hit {fs : List Ft} {id : ByteArray} {k : Nat} (hk : k < fs.length) (h : fid fs k = id) (hall : ∀ j, j < k → fid fs j ≠ id) : firstF fs id = k := by
  unfold firstF
  rw [List.findIdx_eq hk]
  refine ⟨by simp [fid_get hk, h], fun j hj => ?_⟩
  have := hall j hj
  rw [← fid_get (by omega)] at this
  simpa using this

theorem firstF_miss {fs : List Ft} {id : ByteArray} (hall : ∀ j, j < fs.length → fid fs j ≠ id) : firstF fs id = fs.length := by
  unfold firstF
  rw [List.findIdx_eq_length]
  intro x hx
  obtain ⟨i, hi, rfl⟩ := List.getElem_of_mem hx
  have := hall i hi
  rw [← fid_get hi] at this
  simpa using this

theorem firstF_at {fs : List Ft} {id : ByteArray} (h : firstF fs id < fs.length) : fid fs (firstF fs id) = id := by
  have := List.findIdx_getElem (p := fun f : Ft => decide (f.1 = id)) (xs := fs) (w := h)
  rw [← fid_get h]
  exact of_decide_eq_true this

/-- what the look answers -/
def findV (fs : List Ft) (id : ByteArray) : Int := if firstF fs id < fs.length then (firstF fs id : Int) else -1

end Go.Proofs.Ytelimcknhaflfaa
