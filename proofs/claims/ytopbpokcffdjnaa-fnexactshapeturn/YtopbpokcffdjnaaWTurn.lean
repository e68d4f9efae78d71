/- Proved here: the model's two comparisons of points and rows, and the code's own with what it takes of cmp and slices, answer as the plain definitions 'rowAhead' and 'rowCmp' say, and that these two agree; rows of one length, of at most 1,048,576 points. -/
import Derived.Test.YtopbpokcffdjnaaWEq
import Derived.Deep.DeepCutAuto
namespace Go.Proofs.Ytopbpokcffdjnaa
set_option linter.unusedVariables false
open Go.ChangeShapes Go.WideShapes Go.ChangeAt Go.RowKit

/-- a point is ahead of another -/
def ptLess (p q : Int × Int) : Bool := decide (p.1 < q.1) || (decide (p.1 = q.1) && decide (p.2 < q.2))
def intCmp (a b : Int) : Int := if a < b then -1 else if b < a then 1 else 0
def orCmp (a b : Int) : Int := if a = 0 then b else a
def ptCmp (p q : Int × Int) : Int := orCmp (intCmp p.1 q.1) (intCmp p.2 q.2)

/-- a row is ahead of another of its length -/
def rowAhead : List (Int × Int) → List (Int × Int) → Bool
  | p :: ps, q :: qs => if p = q then rowAhead ps qs else ptLess p q
  | _, _ => false
def rowCmp : List (Int × Int) → List (Int × Int) → Int
  | p :: ps, q :: qs => if ptCmp p q = 0 then rowCmp ps qs else ptCmp p q
  | _, _ => 0

theorem ptCmp_zero {p q : Int × Int} : ptCmp p q = 0 ↔ p = q := by
  unfold ptCmp orCmp intCmp
  rw [Prod.ext_iff]
  split <;> (try split) <;> (try split) <;> (try split) <;> omega

theorem ptCmp_neg {p q : Int × Int} : decide (ptCmp p q < 0) = ptLess p q := by
  unfold ptCmp orCmp intCmp ptLess
  rw [Bool.eq_iff_iff]
  simp only [Bool.or_eq_true, Bool.and_eq_true, decide_eq_true_eq]
  repeat' split
  all_goals omega

theorem rowCmp_neg : ∀ ps qs : List (Int × Int), decide (rowCmp ps qs < 0) = rowAhead ps qs
  | [], _ => by simp [rowCmp, rowAhead]
  | _ :: _, [] => by simp [rowCmp, rowAhead]
  | p :: ps, q :: qs => by
    unfold rowCmp rowAhead
    by_cases h : p = q
    · rw [if_pos (ptCmp_zero.mpr h), if_pos h]
      exact rowCmp_neg ps qs
    · rw [if_neg (fun e => h (ptCmp_zero.mp e)), if_neg h]
      exact ptCmp_neg

theorem px_cons (p : Int × Int) (ps : List (Int × Int)) (k : Nat) : px (p :: ps) (k + 1) = px ps k := by simp [px]
theorem py_cons (p : Int × Int) (ps : List (Int × Int)) (k : Nat) : py (p :: ps) (k + 1) = py ps k := by simp [py]

theorem row_at : ∀ (k : Nat) (ps qs : List (Int × Int)), k < ps.length → k < qs.length → (∀ j, j < k → px ps j = px qs j ∧ py ps j = py qs j) → ¬ (px ps k = px qs k ∧ py ps k = py qs k) →
    rowAhead ps qs = ptLess (px ps k, py ps k) (px qs k, py qs k) ∧ rowCmp ps qs = ptCmp (px ps k, py ps k) (px qs k, py qs k)
  | _, [], _, h, _, _, _ => absurd h (Nat.not_lt_zero _)
  | _, _ :: _, [], _, h, _, _ => absurd h (Nat.not_lt_zero _)
  | 0, p :: ps, q :: qs, _, _, _, hne => by
    have e : ¬ p = q := fun e => hne (by rw [e]; exact ⟨by simp [px], by simp [py]⟩)
    unfold rowAhead rowCmp
    rw [if_neg e, if_neg (fun h => e (ptCmp_zero.mp h))]
    simp [px, py]
  | k + 1, p :: ps, q :: qs, h1, h2, hall, hne => by
    have h0 := hall 0 (Nat.succ_pos _)
    have e : p = q := Prod.ext (by simpa [px] using h0.1) (by simpa [py] using h0.2)
    have ih := row_at k ps qs (by simpa using h1) (by simpa using h2) (fun j hj => by have := hall (j + 1) (by omega); simpa only [px_cons, py_cons] using this) (by simpa only [px_cons, py_cons] using hne)
    unfold rowAhead rowCmp
    rw [if_pos e, if_pos (ptCmp_zero.mpr e)]
    simpa only [px_cons, py_cons] using ih

theorem row_same : ∀ ps : List (Int × Int), rowAhead ps ps = false ∧ rowCmp ps ps = 0
  | [] => ⟨rfl, rfl⟩
  | p :: ps => by
    unfold rowAhead rowCmp
    rw [if_pos rfl, if_pos (ptCmp_zero.mpr rfl)]
    exact row_same ps

theorem row_end {ps qs : List (Int × Int)} (hl : ps.length = qs.length) (h : ∀ j, j < ps.length → px ps j = px qs j ∧ py ps j = py qs j) : rowAhead ps qs = false ∧ rowCmp ps qs = 0 := by
  have := ptsEq_of hl h
  unfold ptsEq at this
  rw [decide_eq_true_iff] at this
  subst this
  exact row_same ps

set_option maxHeartbeats 400000 in
theorem l1Less_any (x y a b : Int) (w : World) :
    Calls Try.prog 60 #[.agg #[.int .i64 x, .int .i64 y], .agg #[.int .i64 a, .int .i64 b]] w fun e w' => e = .returned (.bool (ptLess (x, y) (a, b))) ∧ Below w.heap.size w w' := by
  by_cases h1 : x < a
  · have e1 : decide (x < a) = true := by simpa using h1
    go_enter Try.func60, Try.ntmps60
    go_wp2
    all_goals go_ret
    all_goals refine ⟨?_, ((Below.refl _ _).alloc (Nat.le_refl _) _).alloc (by simp) _⟩
    all_goals simp [ptLess, h1]
  · have e1 : decide (x < a) = false := by simpa using h1
    by_cases h2 : x = a
    · subst h2
      have e2 : (x == x) = true := by simp
      go_enter Try.func60, Try.ntmps60
      go_wp2
      all_goals go_ret
      all_goals refine ⟨?_, ((Below.refl _ _).alloc (Nat.le_refl _) _).alloc (by simp) _⟩
      all_goals simp [ptLess]
    · have e2 : (x == a) = false := by simpa using h2
      go_enter Try.func60, Try.ntmps60
      go_wp2
      all_goals go_ret
      all_goals refine ⟨?_, ((Below.refl _ _).alloc (Nat.le_refl _) _).alloc (by simp) _⟩
      all_goals simp [ptLess, h1, h2]

set_option maxHeartbeats 400000 in
theorem l1Ahead_any (a a' : Option Addr) (cap cap' : Nat) (ps qs : List (Int × Int)) (w : World) (hp : PtsAt w a ps) (hq : PtsAt w a' qs) (he : ps.length = qs.length) (hl : ps.length ≤ 1048576) :
    Calls Try.prog 52 #[.slice a ps.length cap, .slice a' qs.length cap'] w fun e w' => e = .returned (.bool (rowAhead ps qs)) ∧ Below w.heap.size w w' := by
  have HP := Lib.hid hp
  have HQ := Lib.hid hq
  have HE := Lib.hid he
  rw [← he]
  clear hp hq he
  go_enter Try.func52, Try.ntmps52
  go_wp2
  go_loopw [5] (fun i wr => ∃ k n : Nat, k ≤ ps.length ∧ i = .int .i64 k ∧ wr = w.drewN n ∧ ∀ j, j < k → px ps j = px qs j ∧ py ps j = py qs j) (fun i _ => ps.length - (intOf i).toNat)
  case atStart => exact ⟨0, 0, Nat.zero_le _, rfl, rfl, fun j h => absurd h (Nat.not_lt_zero _)⟩
  case round =>
    obtain ⟨k, n, hk, rfl, rfl, hall⟩ := hrel
    have HA := Lib.hid hall
    clear hall
    by_cases hlt : k < ps.length
    · obtain ⟨b, off, rfl, hb, hc1, hc2⟩ := HP.out k hlt
      obtain ⟨b', off', rfl, hb', hd1, hd2⟩ := HQ.out k (by have := HE.out; omega)
      have hn := run_ptNeq
      by_cases hs : px ps k = px qs k ∧ py ps k = py qs k
      · have hb1 : ptEq (px ps k, py ps k) (px qs k, py qs k) = true := by simp [ptEq, hs]
        have HS := Lib.hid hs
        clear hs
        go_wp2
        go_quiet (fail)
        go_wp2
        go_roundw
        case rel => exact ⟨k + 1, _, by omega, by go_num, rfl, fun j hj => by by_cases e : j = k; (subst e; exact HS.out); exact HA.out j (by omega)⟩
        case measure => simp [intOf]; omega
      · have hb1 : ptEq (px ps k, py ps k) (px qs k, py qs k) = false := by simpa [ptEq] using hs
        have HS := Lib.hid (row_at k ps qs hlt (by have := HE.out; omega) HA.out hs).1
        clear hs
        go_wp2
        go_quiet (fail)
        go_wp2
        have B0 : Hid (Below w.heap.size w ((w.drewN n).drewN nq)) := below_drewN (below_drewN (Below.refl _ _) _) _
        have g1 : ((w.drewN n).drewN nq).cell? ⟨b, off + k * 2, none⟩ = some (.int .i64 (px ps k)) := hc1
        have g2 : ((w.drewN n).drewN nq).cell? ⟨b, off + k * 2 + 1, none⟩ = some (.int .i64 (py ps k)) := hc2
        have g3 : ((w.drewN n).drewN nq).cell? ⟨b', off' + k * 2, none⟩ = some (.int .i64 (px qs k)) := hd1
        have g4 : ((w.drewN n).drewN nq).cell? ⟨b', off' + k * 2 + 1, none⟩ = some (.int .i64 (py qs k)) := hd2
        clear hc1 hc2 hd1 hd2
        generalize (w.drewN n).drewN nq = W at *
        have hsz := B0.out.size
        go_still_tail 8, (by kernel_rfl)
        go_wp2_with fail
        refine (l1Less_any _ _ _ _ _).mono ?_
        rintro e w1 ⟨rfl, hb2⟩
        have HB2 := Lib.hid hb2
        clear hb2
        go_wp2
        go_ret
        refine ⟨by rw [HS.out]; rfl, ?_⟩
        exact B0.out.drew.trans (HB2.out.mono hsz)
    · obtain rfl : k = ps.length := by omega
      have HT := Lib.hid (row_end HE.out HA.out).1
      go_wp2
      go_ret
      exact ⟨by rw [HT.out]; simp, below_drewN (Below.refl _ _) _⟩
end Go.Proofs.Ytopbpokcffdjnaa
