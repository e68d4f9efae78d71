/- Proved here: the three functions that hold two rows of points against each other answer whether they are the same rows; rows of at most 1,048,576 points. -/
import Derived.Test.YtdfadpejddhbkaaWBase
import Derived.StillTailTactics
namespace Go.Proofs.Ytdfadpejddhbkaa
set_option linter.unusedVariables false
open Go.ChangeShapes Go.WideShapes Go.ChangeAt Go.RowKit

/-- two rows of points are one -/
def ptsEq (ps qs : List (Int × Int)) : Bool := decide (ps = qs)

theorem pt_of (ps : List (Int × Int)) (i : Nat) : ps.getD i (0, 0) = (px ps i, py ps i) := rfl

theorem ptsEq_of {ps qs : List (Int × Int)} (hl : ps.length = qs.length) (h : ∀ j, j < ps.length → px ps j = px qs j ∧ py ps j = py qs j) : ptsEq ps qs = true := by
  unfold ptsEq
  rw [decide_eq_true_iff]
  refine List.ext_getElem hl fun i h1 h2 => ?_
  have := h i h1
  have e1 := pt_of ps i
  have e2 := pt_of qs i
  rw [this.1, this.2, ← e2] at e1
  simpa [h1, h2] using e1

theorem ptsEq_ne {ps qs : List (Int × Int)} {j : Nat} (h : ¬ (px ps j = px qs j ∧ py ps j = py qs j)) : ptsEq ps qs = false := by
  unfold ptsEq
  rw [decide_eq_false_iff_not]
  rintro rfl
  exact h ⟨rfl, rfl⟩

theorem ptsEq_len {ps qs : List (Int × Int)} (h : ps.length ≠ qs.length) : ptsEq ps qs = false := by
  unfold ptsEq
  rw [decide_eq_false_iff_not]
  rintro rfl
  exact h rfl

set_option maxHeartbeats 400000 in
theorem slicesEqual_any (a a' : Option Addr) (cap cap' : Nat) (ps qs : List (Int × Int)) (w : World) (hp : PtsAt w a ps) (hq : PtsAt w a' qs) (hl : ps.length ≤ 1048576) (hl' : qs.length ≤ 1048576) :
    Calls Try.prog 38 #[.slice a ps.length cap, .slice a' qs.length cap'] w fun e w' => e = .returned (.bool (ptsEq ps qs)) ∧ ∃ n, w' = w.drewN n := by
  have HP := Lib.hid hp
  have HQ := Lib.hid hq
  clear hp hq
  by_cases he : ps.length = qs.length
  · have HE := Lib.hid he
    rw [← he]
    have h1 : ((ps.length : Int) != (ps.length : Int)) = false := by simp
    clear he
    go_enter Try.func38, Try.ntmps38
    go_wp2
    go_loopw [5, 13] (fun _ i wr => ∃ k n : Nat, k ≤ ps.length ∧ i = .int .i64 k ∧ wr = w.drewN n ∧ ∀ j, j < k → px ps j = px qs j ∧ py ps j = py qs j) (fun _ i _ => ps.length - (intOf i).toNat)
    case atStart => exact ⟨0, 0, Nat.zero_le _, rfl, rfl, fun j h => absurd h (Nat.not_lt_zero _)⟩
    case round =>
      obtain ⟨k, n, hk, rfl, rfl, hall⟩ := hrel
      have HA := Lib.hid hall
      clear hall
      by_cases hlt : k < ps.length
      · obtain ⟨b, off, rfl, hb, hc1, hc2⟩ := HP.out k hlt
        obtain ⟨b', off', rfl, hb', hd1, hd2⟩ := HQ.out k (by have := HE.out; omega)
        have hn := run_ptNeq
        by_cases hs : px ps k = px qs k ∧ py ps k = py qs k
        · have hb1 : ptEq (px ps k, py ps k) (px qs k, py qs k) = true := by simp [ptEq, hs]
          have HS := Lib.hid hs
          clear hs
          go_wp2
          go_quiet (fail)
          go_wp2
          go_roundw
          case rel => exact ⟨k + 1, _, by omega, by go_num, rfl, fun j hj => by by_cases e : j = k; (subst e; exact HS.out); exact HA.out j (by omega)⟩
          case measure => simp [intOf]; omega
        · have hb1 : ptEq (px ps k, py ps k) (px qs k, py qs k) = false := by simpa [ptEq] using hs
          have HS := Lib.hid (ptsEq_ne hs)
          clear hs
          go_wp2
          go_quiet (fail)
          go_wp2
          go_ret
          exact ⟨by rw [HS.out]; rfl, n + nq, by rw [World.drewN_drewN]⟩
      · obtain rfl : k = ps.length := by omega
        have HT := Lib.hid (ptsEq_of HE.out HA.out)
        go_wp2
        go_ret
        exact ⟨by rw [HT.out]; rfl, n, rfl⟩
  · have h1 : ((ps.length : Int) != (qs.length : Int)) = true := by simp; omega
    have HT := Lib.hid (ptsEq_len he)
    clear he
    go_enter Try.func38, Try.ntmps38
    go_wp2
    go_ret
    exact ⟨by rw [HT.out]; rfl, 0, rfl⟩

end Go.Proofs.Ytdfadpejddhbkaa
