/- Proved here: the functions that ask whether a shape is one answer as the plain definition 'shapeOk' says; rows of at most 1,048,576 points. -/
import Derived.Test.YtdfadpejddhbkaaWBase
import Derived.IntWalk
namespace Go.Proofs.Ytdfadpejddhbkaa
set_option linter.unusedVariables false
open Go.ChangeShapes Go.WideShapes Go.ChangeAt Go.RowKit

/-- a place is in reach -/
def inR (n : Int) : Bool := decide (-1000 ≤ n) && decide (n ≤ 1000)
/-- a point is one, and not the one ahead of it -/
def ptGood (ps : List (Int × Int)) (i : Nat) : Bool := inR (px ps i) && inR (py ps i) && !(decide (0 < i) && ptEq (px ps i, py ps i) (px ps (i - 1), py ps (i - 1)))
def ptsGood (ps : List (Int × Int)) : Bool := (List.range ps.length).all (ptGood ps)
/-- how many points a kind has -/
def kindHolds (k : Int) (ps : List (Int × Int)) : Bool :=
  if k = 1 then decide (ps.length = 1) else if k = 2 then decide (2 ≤ ps.length) else if k = 3 then decide (3 ≤ ps.length) && !ptEq (px ps 0, py ps 0) (px ps (ps.length - 1), py ps (ps.length - 1)) else false
def shapeOk (k : Int) (ps : List (Int × Int)) : Bool := decide (ps.length ≤ 6) && kindHolds k ps && ptsGood ps

theorem ptsGood_of {ps : List (Int × Int)} (h : ∀ j, j < ps.length → ptGood ps j = true) : ptsGood ps = true := by
  unfold ptsGood
  rw [List.all_eq_true]
  intro j hj
  exact h j (by simpa using hj)

theorem ptsGood_not {ps : List (Int × Int)} {j : Nat} (hj : j < ps.length) (h : ptGood ps j = false) : ptsGood ps = false := by
  unfold ptsGood
  rw [List.all_eq_false]
  exact ⟨j, by simpa using hj, by simp [h]⟩

theorem ptsGood_at {ps : List (Int × Int)} (h : ptsGood ps = true) {j : Nat} (hj : j < ps.length) : ptGood ps j = true := by
  unfold ptsGood at h
  rw [List.all_eq_true] at h
  exact h j (by simpa using hj)

set_option maxHeartbeats 400000 in
theorem l1Num_any (n : Int) (w : World) : Calls Try.prog 62 #[.int .i64 n] w fun e w' => e = .returned (.bool (inR n)) ∧ w' = w := by
  by_cases h1 : -1000 ≤ n
  · by_cases h2 : n ≤ 1000
    all_goals
      go_enter Try.func62, Try.ntmps62
      go_wp2
      go_ret
      exact ⟨by simp [inR, h1, h2], rfl⟩
  · go_enter Try.func62, Try.ntmps62
    go_wp2
    go_ret
    exact ⟨by simp [inR]; omega, rfl⟩

set_option maxHeartbeats 400000 in
theorem inReach_any (n m : Int) (w : World) (hm : 0 ≤ m) (hm' : m ≤ 2000) : Calls Try.prog 42 #[.int .i64 n, .int .i64 m] w fun e w' => e = .returned (.bool (decide (-m ≤ n) && decide (n ≤ m))) ∧ w' = w := by
  by_cases h1 : -m ≤ n
  · by_cases h2 : n ≤ m
    all_goals
      go_enter Try.func42, Try.ntmps42
      go_wp2
      go_ret
      exact ⟨by simp [h1, h2], rfl⟩
  · go_enter Try.func42, Try.ntmps42
    go_wp2
    go_ret
    exact ⟨by simp; omega, rfl⟩

set_option maxHeartbeats 1000000 in
theorem l1Pts_any (a : Option Addr) (cap : Nat) (ps : List (Int × Int)) (w : World) (hp : PtsAt w a ps) (hl : ps.length ≤ 1048576) :
    Calls Try.prog 40 #[.slice a ps.length cap] w fun e w' => e = .returned (.bool (ptsGood ps && decide (ps.length ≤ 6))) ∧ ∃ n, w' = w.drewN n := by
  have HP := Lib.hid hp
  clear hp
  go_enter Try.func40, Try.ntmps40
  go_wp2
  go_loopw [3] (fun i wr => ∃ k n : Nat, k ≤ ps.length ∧ i = .int .i64 k ∧ wr = w.drewN n ∧ ∀ j, j < k → ptGood ps j = true) (fun i _ => ps.length - (intOf i).toNat)
  case atStart => exact ⟨0, 0, Nat.zero_le _, rfl, rfl, fun j h => absurd h (Nat.not_lt_zero _)⟩
  case round =>
    obtain ⟨k, n, hk, rfl, rfl, hall⟩ := hrel
    have HA := Lib.hid hall
    clear hall
    by_cases hlt : k < ps.length
    · obtain ⟨b, off, rfl, hb, hc1, hc2⟩ := HP.out k hlt
      have hn := run_ptEql
      by_cases hx : inR (px ps k) = true
      · by_cases hy : inR (py ps k) = true
        · by_cases h0 : k = 0
          · subst h0
            simp only [Nat.zero_mul, Nat.add_zero] at hc1 hc2
            have HS : Hid (ptGood ps 0 = true) := by simp [Hid, ptGood, hx, hy]
            go_wp2
            go_quiet ((go_at_call 62; exact quiet_add_same (l1Num_any _ _)))
            go_wp2
            go_roundw
            case rel => exact ⟨1, _, by omega, rfl, rfl, fun j hj => by obtain rfl : j = 0 := (by omega); exact HS.out⟩
            case measure => simp [intOf]; omega
          · obtain ⟨b', off', he, _, hd1, hd2⟩ := HP.out (k - 1) (by omega)
            obtain ⟨rfl, rfl⟩ : b = b' ∧ off = off' := by simpa using he
            clear he
            obtain ⟨j, rfl⟩ : ∃ j, k = j + 1 := ⟨k - 1, by omega⟩
            simp only [Nat.add_sub_cancel] at hd1 hd2
            have hg : decide ((0 : Int) < ((j + 1 : Nat) : Int)) = true := by simp
            have hw1 : IntKind.i64.wrap (((j + 1 : Nat) : Int) - 1) = (j : Int) := by rw [IntWalk.i64_in _ (by omega)]; omega
            by_cases hq : ptEq (px ps (j + 1), py ps (j + 1)) (px ps j, py ps j) = true
            · have HS : Hid (ptGood ps (j + 1) = false) := by simp [Hid, ptGood, hq]
              go_wp2
              go_quiet ((go_at_call 62; exact quiet_add_same (l1Num_any _ _)))
              go_wp2
              go_ret
              exact ⟨by rw [ptsGood_not hlt HS.out]; rfl, _, World.drewN_drewN _ _ _⟩
            · have hq' : ptEq (px ps (j + 1), py ps (j + 1)) (px ps j, py ps j) = false := by simpa using hq
              have HS : Hid (ptGood ps (j + 1) = true) := by simp [Hid, ptGood, hx, hy, hq']
              clear hq
              go_wp2
              go_quiet ((go_at_call 62; exact quiet_add_same (l1Num_any _ _)))
              go_wp2
              go_roundw
              case rel => exact ⟨j + 1 + 1, _, by omega, by go_num, rfl, fun i hi => by by_cases e : i = j + 1; (subst e; exact HS.out); exact HA.out i (by omega)⟩
              case measure => simp [intOf]; omega
        · have hy' : inR (py ps k) = false := by simpa using hy
          have HS : Hid (ptGood ps k = false) := by simp [Hid, ptGood, hy']
          clear hy
          go_wp2
          go_quiet ((go_at_call 62; exact quiet_add_same (l1Num_any _ _)))
          go_wp2
          go_ret
          exact ⟨by rw [ptsGood_not hlt HS.out]; rfl, _, World.drewN_drewN _ _ _⟩
      · have hx' : inR (px ps k) = false := by simpa using hx
        have HS : Hid (ptGood ps k = false) := by simp [Hid, ptGood, hx']
        clear hx
        go_wp2
        go_quiet ((go_at_call 62; exact quiet_add_same (l1Num_any _ _)))
        go_wp2
        go_ret
        exact ⟨by rw [ptsGood_not hlt HS.out]; rfl, _, World.drewN_drewN _ _ _⟩
    · obtain rfl : k = ps.length := by omega
      have HT := Lib.hid (ptsGood_of HA.out)
      go_wp2
      go_ret
      exact ⟨by rw [HT.out]; simp; omega, n, rfl⟩
end Go.Proofs.Ytdfadpejddhbkaa
