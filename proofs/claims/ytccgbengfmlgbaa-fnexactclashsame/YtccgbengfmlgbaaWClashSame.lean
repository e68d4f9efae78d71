/- Proved here: the program holds two lists of clashes against each other clash by clash; lists of at most 1,048,576 clashes. -/
import Derived.Test.YtccgbengfmlgbaaWClash
namespace Go.Proofs.Ytccgbengfmlgbaa
set_option linter.unusedVariables false
open Go.ChangeShapes Go.WideShapes Go.ChangeAt Go.RowKit

set_option maxHeartbeats 1000000 in
theorem implClashSame_any (a a' : Option Addr) (cap cap' : Nat) (ts us : List Tg) (w : World) (hp : TagsAt w a ts) (hq : TagsAt w a' us) (hl : ts.length ≤ 1048576) (hl' : us.length ≤ 1048576) :
    Calls Try.prog 11 #[.slice a ts.length cap, .slice a' us.length cap'] w fun e w' => e = .returned (.bool (tgsEq ts us)) ∧ ∃ n, w' = w.drewN n := by
  have HP := Lib.hid hp
  have HQ := Lib.hid hq
  clear hp hq
  go_enter Try.func11, Try.ntmps11
  go_wp2_with fail
  refine (slicesEqualC_any _ _ _ _ _ _ _ HP.out HQ.out hl hl').mono ?_
  rintro e w1 ⟨rfl, n, rfl⟩
  go_wp2
  go_ret
  exact ⟨rfl, n, rfl⟩

end Go.Proofs.Ytccgbengfmlgbaa
