/- Proved here: the library's function that holds two lists of texts against each other answers whether they are the same; lists of at most 1,048,577 texts. -/
import Derived.Test.YtdchfologicbeaaGreatWByName
namespace Go.Proofs.YtdchfologicbeaaGreat
set_option linter.unusedVariables false
open Go.ChangeShapes Go.WideShapes Go.ChangeAt Go.RowKit

/-- two lists of texts are one -/
def ssEq (xs ys : List ByteArray) : Bool := decide (xs = ys)

theorem ssEq_of {xs ys : List ByteArray} (hl : xs.length = ys.length) (h : ∀ j, j < xs.length → sx xs j = sx ys j) : ssEq xs ys = true := by
  unfold ssEq
  rw [decide_eq_true_iff]
  refine List.ext_getElem hl fun i h1 h2 => ?_
  simpa [sx, h1, h2] using h i h1

theorem ssEq_ne {xs ys : List ByteArray} {j : Nat} (h : ¬ sx xs j = sx ys j) : ssEq xs ys = false := by
  unfold ssEq
  rw [decide_eq_false_iff_not]
  rintro rfl
  exact h rfl

theorem ssEq_len {xs ys : List ByteArray} (h : xs.length ≠ ys.length) : ssEq xs ys = false := by
  unfold ssEq
  rw [decide_eq_false_iff_not]
  rintro rfl
  exact h rfl

set_option maxHeartbeats 1000000 in
theorem slicesEqualS_any (a a' : Option Addr) (cap cap' : Nat) (xs ys : List ByteArray) (w : World) (hp : StrsAt w a xs) (hq : StrsAt w a' ys) (hl : xs.length ≤ 1048577) (hl' : ys.length ≤ 1048577) :
    Calls Tryz.prog 172 #[.slice a xs.length cap, .slice a' ys.length cap'] w fun e w' => e = .returned (.bool (ssEq xs ys)) ∧ ∃ n, w' = w.drewN n := by
  have HP := Lib.hid hp
  have HQ := Lib.hid hq
  clear hp hq
  by_cases he : xs.length = ys.length
  · have HE := Lib.hid he
    rw [← he]
    have h1 : ((xs.length : Int) != (xs.length : Int)) = false := by simp
    clear he
    go_enter Tryz.func172, Tryz.ntmps172
    go_wp2
    go_loopw [5, 13] (fun _ i wr => ∃ k n : Nat, k ≤ xs.length ∧ i = .int .i64 k ∧ wr = w.drewN n ∧ ∀ j, j < k → sx xs j = sx ys j) (fun _ i _ => xs.length - (intOf i).toNat)
    case atStart => exact ⟨0, 0, Nat.zero_le _, rfl, rfl, fun j h => absurd h (Nat.not_lt_zero _)⟩
    case round =>
      obtain ⟨k, n, hk, rfl, rfl, hall⟩ := hrel
      have HA := Lib.hid hall
      clear hall
      by_cases hlt : k < xs.length
      · obtain ⟨b, off, rfl, hb, hc1⟩ := HP.out k hlt
        obtain ⟨b', off', rfl, hb', hd1⟩ := HQ.out k (by have := HE.out; omega)
        have hbq := bytes_beq (sx xs k) (sx ys k)
        by_cases hs : sx xs k = sx ys k
        · rw [decide_eq_true hs] at hbq
          have HS := Lib.hid hs
          clear hs
          go_wp2
          go_quiet (fail)
          go_wp2
          go_roundw
          case rel => exact ⟨k + 1, _, by omega, by go_num, rfl, fun j hj => by by_cases e : j = k; (subst e; exact HS.out); exact HA.out j (by omega)⟩
          case measure => simp [intOf]; omega
        · rw [decide_eq_false hs] at hbq
          have HS := Lib.hid (ssEq_ne hs)
          clear hs
          go_wp2
          go_quiet (fail)
          go_wp2
          go_ret
          exact ⟨by rw [HS.out]; rfl, n + nq, by rw [World.drewN_drewN]⟩
      · obtain rfl : k = xs.length := by omega
        have HT := Lib.hid (ssEq_of HE.out HA.out)
        go_wp2
        go_ret
        exact ⟨by rw [HT.out]; rfl, n, rfl⟩
  · have h1 : ((xs.length : Int) != (ys.length : Int)) = true := by simp; omega
    have HT := Lib.hid (ssEq_len he)
    clear he
    go_enter Tryz.func172, Tryz.ntmps172
    go_wp2
    go_ret
    exact ⟨by rw [HT.out]; rfl, 0, rfl⟩
end Go.Proofs.YtdchfologicbeaaGreat
