/- Proved here: the kinds of shapes, which stand behind an interface, are found by their numbers, and a shape is asked for in the program's own way; no condition. -/
import Derived.Test.YtdfadpejddhbkaaWOk
namespace Go.Proofs.Ytdfadpejddhbkaa
set_option linter.unusedVariables false
open Go.ChangeShapes Go.WideShapes Go.ChangeAt Go.RowKit

set_option maxHeartbeats 400000 in
theorem shapeKinds_any (w : World) : Calls Try.prog 72 #[] w fun e w' => e = .returned (.slice (some ⟨w.heap.size, 0, none⟩) 3 3) ∧
    w' = w.alloc (.cells #[.iface 105 (.agg #[]), .iface 106 (.agg #[]), .iface 107 (.agg #[])] 64) := by
  go_enter Try.func72, Try.ntmps72
  go_wp2
  go_ret
  exact ⟨rfl, rfl⟩

theorem number_dot (w : World) : (method 255 105 (.agg #[]) "loop.example/townland/impl.number").run Try.prog w = .ok (118, .agg #[]) w := by kernel_rfl
theorem number_line (w : World) : (method 255 106 (.agg #[]) "loop.example/townland/impl.number").run Try.prog w = .ok (123, .agg #[]) w := by kernel_rfl
theorem number_ring (w : World) : (method 255 107 (.agg #[]) "loop.example/townland/impl.number").run Try.prog w = .ok (128, .agg #[]) w := by kernel_rfl

/-- the kind of a number -/
def kindVal (k : Int) : Value := if k = 1 then .iface 105 (.agg #[]) else if k = 2 then .iface 106 (.agg #[]) else if k = 3 then .iface 107 (.agg #[]) else .nilIface
def isKind (k : Int) : Bool := decide (k = 1 ∨ k = 2 ∨ k = 3)

set_option maxHeartbeats 1000000 in
theorem kindOfNumber_dot (k : Int) (w : World) (h1 : (1 == k) = true) : Calls Try.prog 60 #[.int .i64 k] w fun e w' => e = .returned (.tuple #[.iface 105 (.agg #[]), .bool true]) ∧ Below w.heap.size w w' := by
  have n1 := number_dot
  have n2 := number_line
  have n3 := number_ring
  go_enter Try.func60, Try.ntmps60
  go_wp2_with fail
  refine (shapeKinds_any _).mono ?_
  rintro e w1 ⟨rfl, rfl⟩
  go_wp2
  refine wp_loop_rounds 4 ?_
  rw [rounds_succ]
  go_wp2
  go_ret2
  exact ⟨rfl, ((Below.refl _ _).alloc (Nat.le_refl _) _).alloc (by simp) _⟩

set_option maxHeartbeats 1000000 in
theorem kindOfNumber_line (k : Int) (w : World) (h1 : (1 == k) = false) (h2 : (2 == k) = true) : Calls Try.prog 60 #[.int .i64 k] w fun e w' => e = .returned (.tuple #[.iface 106 (.agg #[]), .bool true]) ∧ Below w.heap.size w w' := by
  have n1 := number_dot
  have n2 := number_line
  have n3 := number_ring
  go_enter Try.func60, Try.ntmps60
  go_wp2_with fail
  refine (shapeKinds_any _).mono ?_
  rintro e w1 ⟨rfl, rfl⟩
  go_wp2
  refine wp_loop_rounds 4 ?_
  rw [rounds_succ]
  go_wp2
  rw [rounds_succ]
  go_wp2
  go_ret2
  exact ⟨rfl, (((Below.refl _ _).alloc (Nat.le_refl _) _).alloc (by simp) _).alloc (by simp; omega) _⟩

set_option maxHeartbeats 1000000 in
theorem kindOfNumber_ring (k : Int) (w : World) (h1 : (1 == k) = false) (h2 : (2 == k) = false) (h3 : (3 == k) = true) : Calls Try.prog 60 #[.int .i64 k] w fun e w' => e = .returned (.tuple #[.iface 107 (.agg #[]), .bool true]) ∧ Below w.heap.size w w' := by
  have n1 := number_dot
  have n2 := number_line
  have n3 := number_ring
  go_enter Try.func60, Try.ntmps60
  go_wp2_with fail
  refine (shapeKinds_any _).mono ?_
  rintro e w1 ⟨rfl, rfl⟩
  go_wp2
  refine wp_loop_rounds 4 ?_
  rw [rounds_succ]
  go_wp2
  rw [rounds_succ]
  go_wp2
  rw [rounds_succ]
  go_wp2
  go_ret2
  exact ⟨rfl, ((((Below.refl _ _).alloc (Nat.le_refl _) _).alloc (by simp) _).alloc (by simp; omega) _).alloc (by simp; omega) _⟩

set_option maxHeartbeats 1000000 in
theorem kindOfNumber_none (k : Int) (w : World) (h1 : (1 == k) = false) (h2 : (2 == k) = false) (h3 : (3 == k) = false) : Calls Try.prog 60 #[.int .i64 k] w fun e w' => e = .returned (.tuple #[.nilIface, .bool false]) ∧ Below w.heap.size w w' := by
  have n1 := number_dot
  have n2 := number_line
  have n3 := number_ring
  go_enter Try.func60, Try.ntmps60
  go_wp2_with fail
  refine (shapeKinds_any _).mono ?_
  rintro e w1 ⟨rfl, rfl⟩
  go_wp2
  refine wp_loop_rounds 4 ?_
  rw [rounds_succ]
  go_wp2
  rw [rounds_succ]
  go_wp2
  rw [rounds_succ]
  go_wp2
  rw [rounds_succ]
  go_wp2
  go_ret2
  exact ⟨rfl, ((((Below.refl _ _).alloc (Nat.le_refl _) _).alloc (by simp) _).alloc (by simp; omega) _).alloc (by simp; omega) _⟩

end Go.Proofs.Ytdfadpejddhbkaa
