/- Proved here: whether a shape touches a box is asked as it should be, and which names of a list of things are told; no condition. -/
import Derived.Test.YtkklmdmdnehaeaaWBox
import Derived.Test.YtkklmdmdnehaeaaWSheetOkI
namespace Go.Proofs.Ytkklmdmdnehaeaa
set_option linter.unusedVariables false
open Go.ChangeShapes Go.WideShapes Go.ChangeAt Go.RowKit Go.Deep

/-- a shape's box touches a box -/
def touches (ax ay bx bY : Int) (k : Int) (ps : List (Int × Int)) : Bool := decide (boxLX k ps ≤ bx) && (decide (boxLY k ps ≤ bY) && (decide (ax ≤ boxHX k ps) && decide (ay ≤ boxHY k ps)))
/-- the names of the first things that touch it -/
def inN (ax ay bx bY : Int) (fs : List Ft) : Nat → List ByteArray
  | 0 => []
  | n + 1 => inN ax ay bx bY fs n ++ (if touches ax ay bx bY (fkd fs n) (fps fs n) then [fid fs n] else [])
/-- what is told of a list of things -/
def inAll (ax ay bx bY : Int) (fs : List Ft) : List ByteArray := if sheetOk fs then inN ax ay bx bY fs fs.length else []

theorem inN_len (ax ay bx bY : Int) (fs : List Ft) : ∀ n, (inN ax ay bx bY fs n).length ≤ n
  | 0 => Nat.le_refl _
  | n + 1 => by
    have := inN_len ax ay bx bY fs n
    unfold inN
    rw [List.length_append]
    split <;> simp <;> omega

set_option maxRecDepth 100000 in
set_option maxHeartbeats 4000000 in
theorem touchesBox_any (k : Int) (a : Option Addr) (cap : Nat) (ps : List (Int × Int)) (ax ay bx bY : Int) (w : World) (hp : PtsAt w a ps) :
    Calls Try.prog 48 #[.agg #[.int .i64 k, .slice a ps.length cap], .agg #[.int .i64 ax, .int .i64 ay], .agg #[.int .i64 bx, .int .i64 bY]] w fun e w' => e = .returned (.bool (touches ax ay bx bY k ps)) ∧ Below w.heap.size w w' := by
  have HP := Lib.hid hp
  clear hp
  have A0 : Hid (∀ o o' o'', Below w.heap.size w (((w.alloc o).alloc o').alloc o'')) := fun o o' o'' => (((Below.refl _ _).alloc (Nat.le_refl _) _).alloc (by simp) _).alloc (by simp; omega) _
  go_enter Try.func48, Try.ntmps48
  go_wp2_with fail
  refine (implShapeBox_any _ _ _ _ _ (HP.out.below (A0.out _ _ _))).mono ?_
  rintro e w1 ⟨rfl, hb1⟩
  have B1 : Hid (Below w.heap.size w w1) := (A0.out _ _ _).trans (hb1.mono (by simp; omega))
  have c0 := cell_later hb1 (a := ⟨w.heap.size + 1, 0, none⟩) (v := .int .i64 ax) (by simp [go_sem])
  have c1 := cell_later hb1 (a := ⟨w.heap.size + 1, 1, none⟩) (v := .int .i64 ay) (by simp [go_sem])
  have d0 := cell_later hb1 (a := ⟨w.heap.size + 1 + 1, 0, none⟩) (v := .int .i64 bx) (by simp [go_sem])
  have d1 := cell_later hb1 (a := ⟨w.heap.size + 1 + 1, 1, none⟩) (v := .int .i64 bY) (by simp [go_sem])
  have z1 : w.heap.size + 1 + 1 < w1.heap.size := World.block_lt_of_cell? _ _ d0
  clear hb1
  have AA : ∀ o o', Below w1.heap.size w1 ((w1.alloc o).alloc o') := fun o o' => ((Below.refl _ _).alloc (Nat.le_refl _) _).alloc (by simp) _
  have e0 : ∀ o o', ((w1.alloc o).alloc o').cell? ⟨w.heap.size + 1, 0, none⟩ = some (.int .i64 ax) := fun o o' => cell_later (AA o o') c0
  have e1 : ∀ o o', ((w1.alloc o).alloc o').cell? ⟨w.heap.size + 1, 1, none⟩ = some (.int .i64 ay) := fun o o' => cell_later (AA o o') c1
  have f0 : ∀ o o', ((w1.alloc o).alloc o').cell? ⟨w.heap.size + 1 + 1, 0, none⟩ = some (.int .i64 bx) := fun o o' => cell_later (AA o o') d0
  have f1 : ∀ o o', ((w1.alloc o).alloc o').cell? ⟨w.heap.size + 1 + 1, 1, none⟩ = some (.int .i64 bY) := fun o o' => cell_later (AA o o') d1
  clear AA c0 c1 d0 d1
  have HT : Hid (touches ax ay bx bY k ps = (decide (boxLX k ps ≤ bx) && (decide (boxLY k ps ≤ bY) && (decide (ax ≤ boxHX k ps) && decide (ay ≤ boxHY k ps))))) := rfl
  have B2 : Hid (∀ o o', Below w.heap.size w ((w1.alloc o).alloc o')) := fun o o' => (B1.out.alloc B1.out.size _).alloc (by have := B1.out.size; simp; omega) _
  by_cases h1 : boxLX k ps ≤ bx
  · by_cases h2 : boxLY k ps ≤ bY
    · by_cases h3 : ax ≤ boxHX k ps
      · by_cases h4 : ay ≤ boxHY k ps
        · go_wp2
          go_ret
          exact ⟨by rw [HT.out]; simp [h1, h2, h3, h4] <;> omega, B2.out _ _⟩
        · go_wp2
          go_ret
          exact ⟨by rw [HT.out]; simp [h1, h2, h3] <;> omega, B2.out _ _⟩
      · go_wp2
        go_ret
        exact ⟨by rw [HT.out]; simp [h1, h2] <;> omega, B2.out _ _⟩
    · go_wp2
      go_ret
      exact ⟨by rw [HT.out]; simp [h1] <;> omega, B2.out _ _⟩
  · go_wp2
    go_ret
    exact ⟨by rw [HT.out]; simp <;> omega, B2.out _ _⟩
end Go.Proofs.Ytkklmdmdnehaeaa
