/- Proved here: the size, the copy and the three comparisons of shapes answer as they should; rows of at most 1,048,576 points. -/
import Derived.Test.YtdfadpejddhbkaaGreatWEq
namespace Go.Proofs.YtdfadpejddhbkaaGreat
set_option linter.unusedVariables false
open Go.ChangeShapes Go.WideShapes Go.ChangeAt Go.RowKit

theorem szPtS_fits (a : Option Addr) (cap n : Nat) (left : Int) (w : World) (h0 : (n : Int) ≤ left) (h1 : left ≤ 1048576) :
    Calls Tryz.prog 170 #[.slice a n cap, .int .i64 left] w fun e w' => e = .returned (.int .i64 (left - n)) ∧ w = w' := by
  go_enter Tryz.func170, Tryz.ntmps170
  go_wp2
  go_ret
  exact ⟨rfl, rfl⟩

theorem szPtS_over (a : Option Addr) (cap n : Nat) (left : Int) (w : World) (h : 0 ≤ left) (h0 : left < (n : Int)) (h1 : left ≤ 1048576) (hn : n ≤ maxLen) :
    Calls Tryz.prog 170 #[.slice a n cap, .int .i64 left] w fun e w' => e = .returned (.int .i64 (-1)) ∧ w = w' := by
  unfold maxLen at hn
  go_enter Tryz.func170, Tryz.ntmps170
  go_wp2
  go_ret
  exact ⟨rfl, rfl⟩

theorem szShape_fits (k : Int) (a : Option Addr) (cap n : Nat) (left : Int) (w : World) (h0 : (n : Int) ≤ left) (h1 : left ≤ 1048576) :
    Calls Tryz.prog 137 #[.agg #[.int .i64 k, .slice a n cap], .int .i64 left] w fun e w' => e = .returned (.int .i64 (left - n)) ∧ Below w.heap.size w w' := by
  go_enter Tryz.func137, Tryz.ntmps137
  go_wp2_with fail
  refine (szPtS_fits _ _ _ _ _ h0 h1).mono ?_
  rintro e w' ⟨rfl, rfl⟩
  go_wp2
  go_ret
  exact ⟨rfl, (Below.refl _ _).alloc (Nat.le_refl _) _⟩

theorem szShape_over (k : Int) (a : Option Addr) (cap n : Nat) (left : Int) (w : World) (h : 0 ≤ left) (h0 : left < (n : Int)) (h1 : left ≤ 1048576) (hn : n ≤ maxLen) :
    Calls Tryz.prog 137 #[.agg #[.int .i64 k, .slice a n cap], .int .i64 left] w fun e w' => e = .returned (.int .i64 (-1)) ∧ Below w.heap.size w w' := by
  go_enter Tryz.func137, Tryz.ntmps137
  go_wp2_with fail
  refine (szPtS_over _ _ _ _ _ h h0 h1 hn).mono ?_
  rintro e w' ⟨rfl, rfl⟩
  go_wp2
  go_ret
  exact ⟨rfl, (Below.refl _ _).alloc (Nat.le_refl _) _⟩

/-- what 'toShape' answers: a shape whose points lie in a row of its own -/
def NewShape (w : World) (k : Int) (ps : List (Int × Int)) (e : Ending) (w' : World) : Prop :=
  ∃ b, e = .returned (.agg #[.int .i64 k, .slice (some ⟨b, 0, none⟩) ps.length ps.length]) ∧ w'.rowIs b 148 (ps.length * 2) (ptCell ps) ∧ w.heap.size ≤ b ∧ Below w.heap.size w w'

set_option maxHeartbeats 400000 in
theorem toShape_any (k : Int) (a : Option Addr) (cap : Nat) (ps : List (Int × Int)) (w : World) (hp : PtsAt w a ps) (hlen : ps.length ≤ 1048576) :
    Calls Tryz.prog 142 #[.agg #[.int .i64 k, .slice a ps.length cap]] w (NewShape w k ps) := by
  have HP := Lib.hid hp
  clear hp
  go_enter Tryz.func142, Tryz.ntmps142
  go_wp2_with fail
  refine (toPtS_any _ _ _ _ (HP.out.below ((((Below.refl _ _).alloc (Nat.le_refl _) _).alloc (by simp) _).alloc (by simp; omega) _)) hlen).mono ?_
  rintro e w1 ⟨b, rfl, hrow, hb, hbel⟩
  have HR := Lib.hid hrow
  have HB := Lib.hid hbel
  obtain ⟨hc, hf⟩ := bcell hbel
  have hz := hbel.size
  simp only [World.size_alloc] at hz hb
  clear hrow hbel
  go_wp2
  refine bodyPost_ret (v := .agg #[.int .i64 k, .slice (some ⟨b, 0, none⟩) ps.length ps.length]) (by simp [results, Tryz.results142, go_sem, hc]) rfl ?_
  refine ⟨b, rfl, ((HR.out.setOther (by simp; omega) _).setOther (by simp; omega) _).setOther (by simp; omega) _, by omega, ?_⟩
  exact ((((((Below.refl _ _).alloc (Nat.le_refl _) _).alloc (by simp) _).alloc (by simp; omega) _).trans (HB.out.mono (by simp; omega))).setCell (by simp; omega) _ |>.setCell (by simp) _).setCell (by simp) _

set_option maxHeartbeats 400000 in
theorem eqShape_any (k k' : Int) (a a' : Option Addr) (cap cap' : Nat) (ps qs : List (Int × Int)) (w : World) (hp : PtsAt w a ps) (hq : PtsAt w a' qs) (hl : ps.length ≤ 1048576) (hl' : qs.length ≤ 1048576) :
    Calls Tryz.prog 148 #[.agg #[.int .i64 k, .slice a ps.length cap], .agg #[.int .i64 k', .slice a' qs.length cap']] w fun e w' => e = .returned (.bool (decide (k = k') && ptsEq ps qs)) ∧ Below w.heap.size w w' := by
  have HP := Lib.hid hp
  have HQ := Lib.hid hq
  clear hp hq
  by_cases hk : k = k'
  · subst hk
    have h1 : (k != k) = false := by simp
    go_enter Tryz.func148, Tryz.ntmps148
    go_wp2_with fail
    refine (eqPtS_any _ _ _ _ _ _ _ (HP.out.below (((Below.refl _ _).alloc (Nat.le_refl _) _).alloc (by simp) _)) (HQ.out.below (((Below.refl _ _).alloc (Nat.le_refl _) _).alloc (by simp) _)) hl hl').mono ?_
    rintro e w1 ⟨rfl, hbel⟩
    have HB : Hid (Below w.heap.size w w1) := (((Below.refl _ _).alloc (Nat.le_refl _) _).alloc (by simp) _).trans (hbel.mono (by simp; omega))
    clear hbel
    go_wp2
    all_goals go_ret
    all_goals exact ⟨by simp_all, HB.out⟩
  · have h1 : (k != k') = true := by simpa using hk
    have H1 : decide (k = k') = false := by simpa using hk
    clear hk
    go_enter Tryz.func148, Tryz.ntmps148
    go_wp2
    go_ret
    exact ⟨by rw [H1]; rfl, ((Below.refl _ _).alloc (Nat.le_refl _) _).alloc (by simp) _⟩

set_option maxHeartbeats 400000 in
theorem specShapeSame_any (k k' : Int) (a a' : Option Addr) (cap cap' : Nat) (ps qs : List (Int × Int)) (w : World) (hp : PtsAt w a ps) (hq : PtsAt w a' qs) (hl : ps.length ≤ 1048576) (hl' : qs.length ≤ 1048576) :
    Calls Tryz.prog 172 #[.agg #[.int .i64 k, .slice a ps.length cap], .agg #[.int .i64 k', .slice a' qs.length cap']] w fun e w' => e = .returned (.bool (decide (k = k') && ptsEq ps qs)) ∧ Below w.heap.size w w' := by
  have HP := Lib.hid hp
  have HQ := Lib.hid hq
  clear hp hq
  by_cases hk : k = k'
  · subst hk
    have h1 : (k == k) = true := by simp
    go_enter Tryz.func172, Tryz.ntmps172
    go_wp2_with fail
    refine (l1Same_any _ _ _ _ _ _ _ (HP.out.below (((Below.refl _ _).alloc (Nat.le_refl _) _).alloc (by simp) _)) (HQ.out.below (((Below.refl _ _).alloc (Nat.le_refl _) _).alloc (by simp) _)) hl hl').mono ?_
    rintro e w1 ⟨rfl, n, rfl⟩
    go_wp2
    go_ret
    exact ⟨by simp, below_drewN (((Below.refl _ _).alloc (Nat.le_refl _) _).alloc (by simp) _) n⟩
  · have h1 : (k == k') = false := by simpa using hk
    have H1 : decide (k = k') = false := by simpa using hk
    clear hk
    go_enter Tryz.func172, Tryz.ntmps172
    go_wp2
    go_ret
    exact ⟨by rw [H1]; rfl, ((Below.refl _ _).alloc (Nat.le_refl _) _).alloc (by simp) _⟩

set_option maxHeartbeats 400000 in
theorem implShapeSame_any (k k' : Int) (a a' : Option Addr) (cap cap' : Nat) (ps qs : List (Int × Int)) (w : World) (hp : PtsAt w a ps) (hq : PtsAt w a' qs) (hl : ps.length ≤ 1048576) (hl' : qs.length ≤ 1048576) :
    Calls Tryz.prog 65 #[.agg #[.int .i64 k, .slice a ps.length cap], .agg #[.int .i64 k', .slice a' qs.length cap']] w fun e w' => e = .returned (.bool (decide (k = k') && ptsEq ps qs)) ∧ Below w.heap.size w w' := by
  have HP := Lib.hid hp
  have HQ := Lib.hid hq
  clear hp hq
  by_cases hk : k = k'
  · subst hk
    have h1 : (k == k) = true := by simp
    go_enter Tryz.func65, Tryz.ntmps65
    go_wp2_with fail
    refine (slicesEqual_any _ _ _ _ _ _ _ (HP.out.below (((Below.refl _ _).alloc (Nat.le_refl _) _).alloc (by simp) _)) (HQ.out.below (((Below.refl _ _).alloc (Nat.le_refl _) _).alloc (by simp) _)) hl hl').mono ?_
    rintro e w1 ⟨rfl, n, rfl⟩
    go_wp2
    go_ret
    exact ⟨by simp, below_drewN (((Below.refl _ _).alloc (Nat.le_refl _) _).alloc (by simp) _) n⟩
  · have h1 : (k == k') = false := by simpa using hk
    have H1 : decide (k = k') = false := by simpa using hk
    clear hk
    go_enter Tryz.func65, Tryz.ntmps65
    go_wp2
    go_ret
    exact ⟨by rw [H1]; rfl, ((Below.refl _ _).alloc (Nat.le_refl _) _).alloc (by simp) _⟩

end Go.Proofs.YtdfadpejddhbkaaGreat
