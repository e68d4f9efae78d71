/- Proved here: the size, the copy and the three comparisons of shapes answer as they should; rows of at most 1,048,576 points. -/
import Derived.Test.YtdfadpejddhbkaaWEq
namespace Go.Proofs.Ytdfadpejddhbkaa
set_option linter.unusedVariables false
open Go.ChangeShapes Go.WideShapes Go.ChangeAt Go.RowKit

/-- what 'toShape' answers: a shape whose points lie in a row of its own -/
def NewShape (w : World) (k : Int) (ps : List (Int × Int)) (e : Ending) (w' : World) : Prop :=
  ∃ b, e = .returned (.agg #[.int .i64 k, .slice (some ⟨b, 0, none⟩) ps.length ps.length]) ∧ w'.rowIs b 32 (ps.length * 2) (ptCell ps) ∧ w.heap.size ≤ b ∧ Below w.heap.size w w'

set_option maxHeartbeats 400000 in
theorem implShapeSame_any (k k' : Int) (a a' : Option Addr) (cap cap' : Nat) (ps qs : List (Int × Int)) (w : World) (hp : PtsAt w a ps) (hq : PtsAt w a' qs) (hl : ps.length ≤ 1048576) (hl' : qs.length ≤ 1048576) :
    Calls Try.prog 11 #[.agg #[.int .i64 k, .slice a ps.length cap], .agg #[.int .i64 k', .slice a' qs.length cap']] w fun e w' => e = .returned (.bool (decide (k = k') && ptsEq ps qs)) ∧ Below w.heap.size w w' := by
  have HP := Lib.hid hp
  have HQ := Lib.hid hq
  clear hp hq
  by_cases hk : k = k'
  · subst hk
    have h1 : (k == k) = true := by simp
    go_enter Try.func11, Try.ntmps11
    go_wp2_with fail
    refine (slicesEqual_any _ _ _ _ _ _ _ (HP.out.below (((Below.refl _ _).alloc (Nat.le_refl _) _).alloc (by simp) _)) (HQ.out.below (((Below.refl _ _).alloc (Nat.le_refl _) _).alloc (by simp) _)) hl hl').mono ?_
    rintro e w1 ⟨rfl, n, rfl⟩
    go_wp2
    go_ret
    exact ⟨by simp, below_drewN (((Below.refl _ _).alloc (Nat.le_refl _) _).alloc (by simp) _) n⟩
  · have h1 : (k == k') = false := by simpa using hk
    have H1 : decide (k = k') = false := by simpa using hk
    clear hk
    go_enter Try.func11, Try.ntmps11
    go_wp2
    go_ret
    exact ⟨by rw [H1]; rfl, ((Below.refl _ _).alloc (Nat.le_refl _) _).alloc (by simp) _⟩

end Go.Proofs.Ytdfadpejddhbkaa
