/- Proved here: what slices.Grow makes of no points, and slices.Concat of two rows of points: the points of the first and then of the second, in a row of its own; at most 1,048,576 points, the first row not empty. -/
import Derived.Test.YtopbpokcffdjnaaWTurnR
import Derived.Lib.AppendZeros
namespace Go.Proofs.Ytopbpokcffdjnaa
set_option linter.unusedVariables false
open Go.ChangeShapes Go.WideShapes Go.ChangeAt Go.RowKit Go.Deep

set_option maxHeartbeats 2000000 in
theorem grow_any (n : Nat) (w : World) (h0 : 0 < n) (hn : n ≤ 1048576) :
    Calls Try.prog 100 #[.slice none 0 0, .int .i64 n] w fun e w' => ∃ g cap, e = .returned (.slice (some ⟨g, 0, none⟩) 0 cap) ∧ w'.ownsRow w.heap.size 28 2 (.slice (some ⟨g, 0, none⟩) 0 cap) 0 [] ∧ Below w.heap.size w w' := by
  obtain ⟨i0, hi, hz0, hz1, hz2⟩ := info_parts infoPt
  have hr := fun ty => Lib.run_append_nil_zeros (P := Try.prog) w 23 3 ty 28 i0 _ .i64 .i64 Try.underlying23 Try.underlying3 hi hz0 n h0 (by omega) (by omega) (by rw [hz2]; omega)
  have hGn : n ≤ grownCap w n 0 28 := grownCap_ge w _ _ _
  have hG63 := grownCap_le_maxLen w n 0 28 (by unfold maxLen; omega)
  have HG63 := Lib.hid hG63
  generalize grownCap w n 0 28 = G at *
  have hG : G ≤ 9223372036854775807 := by unfold maxLen at hG63; omega
  clear hi hz0 hz1 hz2 hG63
  go_enter Try.func100, Try.ntmps100
  go_wp2_with (at_builtin; refine Lib.wpList_append_run _ rfl _ _ _ _ rfl _ _ rfl rfl _ _ (hr _) ?_)
  all_goals go_ret
  all_goals
    refine ⟨w.heap.size, G, rfl, ⟨rfl, .inr ⟨w.heap.size, G, _, rfl, Nat.le_refl _, heap_alloc_new w.drew _, Nat.zero_le _, HG63.out, ?_, by simp⟩⟩, (Below.refl _ _).drew.alloc (Nat.le_refl _) _⟩
    rw [Array.size_append, size_zeroCells, size_zeroCells]
    show n * 2 + (G - n) * 2 = G * 2
    omega
end Go.Proofs.Ytopbpokcffdjnaa
