/- Proved here: the model's ShapeOk answers as the plain definition 'shapeOk' says; rows of at most 1,048,576 points. -/
import Derived.Test.YtdfadpejddhbkaaWOk
namespace Go.Proofs.Ytdfadpejddhbkaa
set_option linter.unusedVariables false
open Go.ChangeShapes Go.WideShapes Go.ChangeAt Go.RowKit

/-- the test ahead of the switch -/
def rowGood (ps : List (Int × Int)) : Bool := ptsGood ps && decide (ps.length ≤ 6)

theorem l1Pts_good (a : Option Addr) (cap : Nat) (ps : List (Int × Int)) (w : World) (hp : PtsAt w a ps) (hl : ps.length ≤ 1048576) :
    Calls Try.prog 40 #[.slice a ps.length cap] w fun e w' => e = .returned (.bool (rowGood ps)) ∧ ∃ n, w' = w.drewN n := l1Pts_any a cap ps w hp hl

theorem shapeOk_bad {k : Int} {ps : List (Int × Int)} (h : rowGood ps = false) : shapeOk k ps = false := by
  unfold rowGood at h
  unfold shapeOk
  cases h1 : ptsGood ps <;> cases h2 : decide (ps.length ≤ 6) <;> simp_all

theorem shapeOk_good {k : Int} {ps : List (Int × Int)} (h : rowGood ps = true) : shapeOk k ps = kindHolds k ps := by
  unfold rowGood at h
  unfold shapeOk
  cases h1 : ptsGood ps <;> cases h2 : decide (ps.length ≤ 6) <;> simp_all

set_option maxHeartbeats 1000000 in
theorem specShapeOk_any (k : Int) (a : Option Addr) (cap : Nat) (ps : List (Int × Int)) (w : World) (hp : PtsAt w a ps) (hl : ps.length ≤ 1048576) :
    Calls Try.prog 15 #[.agg #[.int .i64 k, .slice a ps.length cap]] w fun e w' => e = .returned (.bool (shapeOk k ps)) ∧ Below w.heap.size w w' := by
  have HP := Lib.hid hp
  clear hp
  have hn := run_ptNeq
  by_cases hg : rowGood ps = true
  · have HG := Lib.hid (shapeOk_good (k := k) hg)
    by_cases h1 : k = 1
    · subst h1
      have HK : Hid (((ps.length : Int) == 1) = kindHolds 1 ps) := by
        show _ = _
        rw [Bool.eq_iff_iff]
        simp [kindHolds]
        omega
      go_enter Try.func15, Try.ntmps15
      go_wp2_with fail
      refine (l1Pts_good _ _ _ _ (HP.out.below ((Below.refl _ _).alloc (Nat.le_refl _) _)) hl).mono ?_
      rintro e w1 ⟨rfl, n, rfl⟩
      go_wp2
      go_ret
      exact ⟨by rw [HG.out, ← HK.out]; rfl, below_drewN ((Below.refl _ _).alloc (Nat.le_refl _) _) _⟩
    · have e1 : (k == 1) = false := by simpa using h1
      by_cases h2 : k = 2
      · subst h2
        have HK : Hid (decide ((2 : Int) ≤ (ps.length : Int)) = kindHolds 2 ps) := by
          show _ = _
          rw [Bool.eq_iff_iff]
          simp [kindHolds]
          omega
        go_enter Try.func15, Try.ntmps15
        go_wp2_with fail
        refine (l1Pts_good _ _ _ _ (HP.out.below ((Below.refl _ _).alloc (Nat.le_refl _) _)) hl).mono ?_
        rintro e w1 ⟨rfl, n, rfl⟩
        go_wp2
        go_ret
        exact ⟨by rw [HG.out, ← HK.out]; rfl, below_drewN ((Below.refl _ _).alloc (Nat.le_refl _) _) _⟩
      · have e2 : (k == 2) = false := by simpa using h2
        by_cases h3 : k = 3
        · subst h3
          clear h1 h2 e1 e2
          by_cases h3 : 3 ≤ ps.length
          · obtain ⟨b, off, rfl, hb, hc1, hc2⟩ := HP.out 0 (by omega)
            obtain ⟨b', off', he, _, hd1, hd2⟩ := HP.out (ps.length - 1) (by omega)
            obtain ⟨rfl, rfl⟩ : b = b' ∧ off = off' := by simpa using he
            clear he
            have HK : Hid (kindHolds 3 ps = !ptEq (px ps 0, py ps 0) (px ps (ps.length - 1), py ps (ps.length - 1))) := by simp [Hid, kindHolds, h3]
            obtain ⟨m, hm⟩ : ∃ m, ps.length = m + 1 := ⟨ps.length - 1, by omega⟩
            have HM := Lib.hid hm
            rw [hm] at hd1 hd2 HK
            simp only [Nat.add_sub_cancel, Nat.zero_mul, Nat.add_zero] at hc1 hc2 hd1 hd2 HK
            have hg1 : decide ((3 : Int) ≤ (ps.length : Int)) = true := by simp; omega
            have hw1 : IntKind.i64.wrap ((ps.length : Int) - 1) = (m : Int) := by rw [IntWalk.i64_in _ (by omega)]; omega
            have hz : (0 : Int) < (ps.length : Int) := by omega
            have hz1 : (m : Int) < (ps.length : Int) := by omega
            clear hm h3
            go_enter Try.func15, Try.ntmps15
            go_wp2_with fail
            refine (l1Pts_good _ _ _ _ (HP.out.below ((Below.refl _ _).alloc (Nat.le_refl _) _)) hl).mono ?_
            rintro e w1 ⟨rfl, n, rfl⟩
            go_wp2
            go_quiet (fail)
            go_wp2
            go_ret
            exact ⟨by rw [HG.out, HK.out]; rfl, below_drewN (below_drewN ((Below.refl _ _).alloc (Nat.le_refl _) _) _) _⟩
          · have HK : Hid (kindHolds 3 ps = false) := by simp [Hid, kindHolds, h3]
            have hg1 : decide ((3 : Int) ≤ (ps.length : Int)) = false := by simp; omega
            clear h3
            go_enter Try.func15, Try.ntmps15
            go_wp2_with fail
            refine (l1Pts_good _ _ _ _ (HP.out.below ((Below.refl _ _).alloc (Nat.le_refl _) _)) hl).mono ?_
            rintro e w1 ⟨rfl, n, rfl⟩
            go_wp2
            go_quiet (fail)
            go_wp2
            go_ret
            exact ⟨by rw [HG.out, HK.out]; rfl, below_drewN (below_drewN ((Below.refl _ _).alloc (Nat.le_refl _) _) _) _⟩
        · have e3 : (k == 3) = false := by simpa using h3
          have HK : Hid (kindHolds k ps = false) := by simp [Hid, kindHolds, h1, h2, h3]
          clear h1 h2 h3
          go_enter Try.func15, Try.ntmps15
          go_wp2_with fail
          refine (l1Pts_good _ _ _ _ (HP.out.below ((Below.refl _ _).alloc (Nat.le_refl _) _)) hl).mono ?_
          rintro e w1 ⟨rfl, n, rfl⟩
          go_wp2
          go_ret
          exact ⟨by rw [HG.out, HK.out]; rfl, below_drewN ((Below.refl _ _).alloc (Nat.le_refl _) _) _⟩
  · have hg' : rowGood ps = false := by simpa using hg
    have HG := Lib.hid (shapeOk_bad (k := k) hg')
    clear hg
    go_enter Try.func15, Try.ntmps15
    go_wp2_with fail
    refine (l1Pts_good _ _ _ _ (HP.out.below ((Below.refl _ _).alloc (Nat.le_refl _) _)) hl).mono ?_
    rintro e w1 ⟨rfl, n, rfl⟩
    go_wp2
    go_ret
    exact ⟨by rw [HG.out]; rfl, below_drewN ((Below.refl _ _).alloc (Nat.le_refl _) _) _⟩
end Go.Proofs.Ytdfadpejddhbkaa
