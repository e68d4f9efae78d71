/- Proved here: both functions that make one of three pieces answer that of the second hand, if the first left it, that of the first, if the second left it or both are one, and else that they clash; pieces of at most 1,048,576 points. -/
import Derived.Test.YtaefibefagbheaaWSeqRow
import Derived.Test.YtaefibefagbheaaWEq
namespace Go.Proofs.Ytaefibefagbheaa
set_option linter.unusedVariables false
open Go.ChangeShapes Go.WideShapes Go.ChangeAt Go.RowKit

/-- a slice's parts -/
abbrev Sl := Option Addr × Nat × Nat
def slV (s : Sl) : Value := .slice s.1 s.2.1 s.2.2

/-- which piece is taken -/
def pickA (o a b : List (Int × Int)) (sa sb : Sl) : Sl := if ptsEq a o = true then sb else if ptsEq b o = true then sa else if ptsEq a b = true then sa else (none, 0, 0)

def pickB (o a b : List (Int × Int)) : Bool := (pick o a b).isSome

theorem pick_eqs (o a b : List (Int × Int)) : pick o a b = if ptsEq a o = true then some b else if ptsEq b o = true then some a else if ptsEq a b = true then some a else none := by
  unfold pick ptsEq
  simp only [decide_eq_true_eq]

theorem pickA_reads {w : World} {o a b r : List (Int × Int)} {sa sb : Sl} (ha : PtsAt w sa.1 a) (hb : PtsAt w sb.1 b) (la : sa.2.1 = a.length) (lb : sb.2.1 = b.length) (h : pick o a b = some r) : PtsAt w (pickA o a b sa sb).1 r ∧ (pickA o a b sa sb).2.1 = r.length := by
  rw [pick_eqs] at h
  unfold pickA
  split at h
  · next h1 => rw [if_pos h1]; cases h; exact ⟨hb, lb⟩
  · next h1 =>
    rw [if_neg h1]
    split at h
    · next h2 => rw [if_pos h2]; cases h; exact ⟨ha, la⟩
    · next h2 =>
      rw [if_neg h2]
      split at h
      · next h3 => rw [if_pos h3]; cases h; exact ⟨ha, la⟩
      · cases h

set_option maxHeartbeats 1000000 in
theorem pieceMerge_any (so sa sb : Sl) (o a b : List (Int × Int)) (w : World) (ho : PtsAt w so.1 o) (ha : PtsAt w sa.1 a) (hb : PtsAt w sb.1 b) (lo : so.2.1 = o.length) (la : sa.2.1 = a.length) (lb : sb.2.1 = b.length) (ho' : o.length ≤ 1048576) (ha' : a.length ≤ 1048576) (hb' : b.length ≤ 1048576) :
    Calls Try.prog 43 #[.agg #[slV so, slV sa, slV sb]] w fun e w' => e = .returned (.tuple #[slV (pickA o a b sa sb), .bool (pickB o a b)]) ∧ Below w.heap.size w w' := by
  obtain ⟨po, no, co⟩ := so
  obtain ⟨pa, na, ca⟩ := sa
  obtain ⟨pb, nb, cb⟩ := sb
  simp only at ho ha hb lo la lb
  subst lo la lb
  have HO := Lib.hid ho
  have HA := Lib.hid ha
  have HB := Lib.hid hb
  clear ho ha hb
  unfold slV
  have Bw : ∀ ob : Obj, Below w.heap.size w (w.alloc ob) := fun ob => (Below.refl _ _).alloc (Nat.le_refl _) _
  have BW := Lib.hid Bw
  clear Bw
  by_cases h1 : ptsEq a o = true
  · have e1 : pickA o a b (pa, a.length, ca) (pb, b.length, cb) = (pb, b.length, cb) := by unfold pickA; rw [if_pos h1]
    have e2 : pickB o a b = true := by unfold pickB; rw [pick_eqs, if_pos h1]; rfl
    rw [e1, e2]
    have H1 := Lib.hid h1
    clear e1 e2 h1
    go_enter Try.func43, Try.ntmps43
    go_wp2_with fail
    refine (slicesEqual_any _ _ _ _ _ _ _ (HA.out.below (BW.out _)) (HO.out.below (BW.out _)) ha' ho').mono ?_
    rintro e w1 ⟨rfl, k, rfl⟩
    rw [H1.out]
    go_wp2
    go_ret2
    exact ⟨rfl, below_drewN (BW.out _) k⟩
  · have h1' : ptsEq a o = false := by simpa using h1
    by_cases h2 : ptsEq b o = true
    · have e1 : pickA o a b (pa, a.length, ca) (pb, b.length, cb) = (pa, a.length, ca) := by unfold pickA; rw [if_neg h1, if_pos h2]
      have e2 : pickB o a b = true := by unfold pickB; rw [pick_eqs, if_neg h1, if_pos h2]; rfl
      rw [e1, e2]
      have H1 := Lib.hid h1'
      have H2 := Lib.hid h2
      clear e1 e2 h1 h1' h2
      go_enter Try.func43, Try.ntmps43
      go_wp2_with fail
      refine (slicesEqual_any _ _ _ _ _ _ _ (HA.out.below (BW.out _)) (HO.out.below (BW.out _)) ha' ho').mono ?_
      rintro e w1 ⟨rfl, k, rfl⟩
      rw [H1.out]
      go_wp2_with fail
      refine (slicesEqual_any _ _ _ _ _ _ _ (HB.out.below (below_drewN (BW.out _) k)) (HO.out.below (below_drewN (BW.out _) k)) hb' ho').mono ?_
      rintro e w1 ⟨rfl, k', rfl⟩
      rw [H2.out]
      go_wp2
      go_ret2
      exact ⟨rfl, below_drewN (BW.out _) _⟩
    · have h2' : ptsEq b o = false := by simpa using h2
      by_cases h3 : ptsEq a b = true
      · have e1 : pickA o a b (pa, a.length, ca) (pb, b.length, cb) = (pa, a.length, ca) := by unfold pickA; rw [if_neg h1, if_neg h2, if_pos h3]
        have e2 : pickB o a b = true := by unfold pickB; rw [pick_eqs, if_neg h1, if_neg h2, if_pos h3]; rfl
        rw [e1, e2]
        have H1 := Lib.hid h1'
        have H2 := Lib.hid h2'
        have H3 := Lib.hid h3
        clear e1 e2 h1 h1' h2 h2' h3
        go_enter Try.func43, Try.ntmps43
        go_wp2_with fail
        refine (slicesEqual_any _ _ _ _ _ _ _ (HA.out.below (BW.out _)) (HO.out.below (BW.out _)) ha' ho').mono ?_
        rintro e w1 ⟨rfl, k, rfl⟩
        rw [H1.out]
        go_wp2_with fail
        refine (slicesEqual_any _ _ _ _ _ _ _ (HB.out.below (below_drewN (BW.out _) k)) (HO.out.below (below_drewN (BW.out _) k)) hb' ho').mono ?_
        rintro e w1 ⟨rfl, k', rfl⟩
        rw [H2.out]
        go_wp2_with fail
        refine (slicesEqual_any _ _ _ _ _ _ _ (HA.out.below (below_drewN (BW.out _) _)) (HB.out.below (below_drewN (BW.out _) _)) ha' hb').mono ?_
        rintro e w1 ⟨rfl, k2, rfl⟩
        rw [H3.out]
        go_wp2
        go_ret2
        exact ⟨rfl, below_drewN (BW.out _) _⟩
      · have h3' : ptsEq a b = false := by simpa using h3
        have e1 : pickA o a b (pa, a.length, ca) (pb, b.length, cb) = (none, 0, 0) := by unfold pickA; rw [if_neg h1, if_neg h2, if_neg h3]
        have e2 : pickB o a b = false := by unfold pickB; rw [pick_eqs, if_neg h1, if_neg h2, if_neg h3]; rfl
        rw [e1, e2]
        have H1 := Lib.hid h1'
        have H2 := Lib.hid h2'
        have H3 := Lib.hid h3'
        clear e1 e2 h1 h1' h2 h2' h3 h3'
        go_enter Try.func43, Try.ntmps43
        go_wp2_with fail
        refine (slicesEqual_any _ _ _ _ _ _ _ (HA.out.below (BW.out _)) (HO.out.below (BW.out _)) ha' ho').mono ?_
        rintro e w1 ⟨rfl, k, rfl⟩
        rw [H1.out]
        go_wp2_with fail
        refine (slicesEqual_any _ _ _ _ _ _ _ (HB.out.below (below_drewN (BW.out _) k)) (HO.out.below (below_drewN (BW.out _) k)) hb' ho').mono ?_
        rintro e w1 ⟨rfl, k', rfl⟩
        rw [H2.out]
        go_wp2_with fail
        refine (slicesEqual_any _ _ _ _ _ _ _ (HA.out.below (below_drewN (BW.out _) _)) (HB.out.below (below_drewN (BW.out _) _)) ha' hb').mono ?_
        rintro e w1 ⟨rfl, k2, rfl⟩
        rw [H3.out]
        go_wp2
        go_ret2
        exact ⟨rfl, below_drewN (BW.out _) _⟩
end Go.Proofs.Ytaefibefagbheaa
