/- Proved here: the three functions that hold two rows of tags against each other answer whether they are the same rows; rows of at most 1,048,576 tags. -/
import Derived.Test.YtdfadpejddhbkaaWTag
import Derived.StillTailTactics
namespace Go.Proofs.Ytdfadpejddhbkaa
set_option linter.unusedVariables false
open Go.ChangeShapes Go.WideShapes Go.ChangeAt Go.RowKit

/-- two rows of tags are one -/
def tgsEq (ts us : List Tg) : Bool := decide (ts = us)

theorem tg_of (ts : List Tg) (i : Nat) : ts.getD i (.empty, .empty) = (tk ts i, tv ts i) := rfl

theorem tgsEq_of {ts us : List Tg} (hl : ts.length = us.length) (h : ∀ j, j < ts.length → tk ts j = tk us j ∧ tv ts j = tv us j) : tgsEq ts us = true := by
  unfold tgsEq
  rw [decide_eq_true_iff]
  refine List.ext_getElem hl fun i h1 h2 => ?_
  have := h i h1
  have e1 := tg_of ts i
  have e2 := tg_of us i
  rw [this.1, this.2, ← e2] at e1
  simpa [h1, h2] using e1

theorem tgsEq_ne {ts us : List Tg} {j : Nat} (h : ¬ (tk ts j = tk us j ∧ tv ts j = tv us j)) : tgsEq ts us = false := by
  unfold tgsEq
  rw [decide_eq_false_iff_not]
  rintro rfl
  exact h ⟨rfl, rfl⟩

theorem tgsEq_len {ts us : List Tg} (h : ts.length ≠ us.length) : tgsEq ts us = false := by
  unfold tgsEq
  rw [decide_eq_false_iff_not]
  rintro rfl
  exact h rfl

set_option maxHeartbeats 400000 in
theorem slicesEqualT_any (a a' : Option Addr) (cap cap' : Nat) (ts us : List Tg) (w : World) (hp : TagsAt w a ts) (hq : TagsAt w a' us) (hl : ts.length ≤ 1048576) (hl' : us.length ≤ 1048576) :
    Calls Try.prog 52 #[.slice a ts.length cap, .slice a' us.length cap'] w fun e w' => e = .returned (.bool (tgsEq ts us)) ∧ ∃ n, w' = w.drewN n := by
  have HP := Lib.hid hp
  have HQ := Lib.hid hq
  clear hp hq
  by_cases he : ts.length = us.length
  · have HE := Lib.hid he
    rw [← he]
    have h1 : ((ts.length : Int) != (ts.length : Int)) = false := by simp
    clear he
    go_enter Try.func52, Try.ntmps52
    go_wp2
    go_loopw [5, 13] (fun _ i wr => ∃ k n : Nat, k ≤ ts.length ∧ i = .int .i64 k ∧ wr = w.drewN n ∧ ∀ j, j < k → tk ts j = tk us j ∧ tv ts j = tv us j) (fun _ i _ => ts.length - (intOf i).toNat)
    case atStart => exact ⟨0, 0, Nat.zero_le _, rfl, rfl, fun j h => absurd h (Nat.not_lt_zero _)⟩
    case round =>
      obtain ⟨k, n, hk, rfl, rfl, hall⟩ := hrel
      have HA := Lib.hid hall
      clear hall
      by_cases hlt : k < ts.length
      · obtain ⟨b, off, rfl, hb, hc1, hc2⟩ := HP.out k hlt
        obtain ⟨b', off', rfl, hb', hd1, hd2⟩ := HQ.out k (by have := HE.out; omega)
        have hn := run_tgNeq
        by_cases hs : tk ts k = tk us k ∧ tv ts k = tv us k
        · have hb1 : tgEq (tk ts k, tv ts k) (tk us k, tv us k) = true := by simp [tgEq, hs]
          have HS := Lib.hid hs
          clear hs
          go_wp2
          go_quiet (fail)
          go_wp2
          go_roundw
          case rel => exact ⟨k + 1, _, by omega, by go_num, rfl, fun j hj => by by_cases e : j = k; (subst e; exact HS.out); exact HA.out j (by omega)⟩
          case measure => simp [intOf]; omega
        · have hb1 : tgEq (tk ts k, tv ts k) (tk us k, tv us k) = false := by simpa [tgEq] using hs
          have HS := Lib.hid (tgsEq_ne hs)
          clear hs
          go_wp2
          go_quiet (fail)
          go_wp2
          go_ret
          exact ⟨by rw [HS.out]; rfl, n + nq, by rw [World.drewN_drewN]⟩
      · obtain rfl : k = ts.length := by omega
        have HT := Lib.hid (tgsEq_of HE.out HA.out)
        go_wp2
        go_ret
        exact ⟨by rw [HT.out]; rfl, n, rfl⟩
  · have h1 : ((ts.length : Int) != (us.length : Int)) = true := by simp; omega
    have HT := Lib.hid (tgsEq_len he)
    clear he
    go_enter Try.func52, Try.ntmps52
    go_wp2
    go_ret
    exact ⟨by rw [HT.out]; rfl, 0, rfl⟩

end Go.Proofs.Ytdfadpejddhbkaa
