/- Proved here: the model's functions beneath SeqMerge: with what a place is paired, and what two made of a piece; no condition but the bound of 1,048,576. -/
import Derived.Test.YtaefibefagbheaaWSeqPcs
import Derived.Test.YtaefibefagbheaaWSeqPlaces
import Derived.Test.YtaefibefagbheaaWSeqMergeI
namespace Go.Proofs.Ytaefibefagbheaa
set_option linter.unusedVariables false
open Go.ChangeShapes Go.WideShapes Go.ChangeAt Go.RowKit

/-- with what a place is paired, or -1 -/
def atI (ps : List (Nat × Nat)) (i : Nat) : Int := match ps.lookup i with
  | some q => (q : Int)
  | none => -1

theorem lookup_at {ps : List (Nat × Nat)} {k : Nat} (hk : k < ps.length) (h : ∀ j, (hj : j < k) → (ps[j]'(by omega)).1 ≠ ps[k].1) : ps.lookup ps[k].1 = some ps[k].2 := by
  induction ps generalizing k with
  | nil => simp at hk
  | cons p r ih =>
    obtain ⟨p1, p2⟩ := p
    cases k with
    | zero => simp [List.lookup]
    | succ k =>
      have h0 := h 0 (by omega)
      simp only [List.getElem_cons_zero, List.getElem_cons_succ, List.lookup] at h0 ⊢
      rw [beq_false_of_ne (fun e => h0 e.symm)]
      exact ih (by simpa using hk) (fun j hj => by have := h (j + 1) (by omega); simpa using this)

set_option maxHeartbeats 1000000 in
theorem l5At_any (a : Option Addr) (cap : Nat) (ps : List (Nat × Nat)) (i : Nat) (w : World) (hp : PtsAt w a (zp ps)) (hl : ps.length ≤ 1048576) :
    Calls Try.prog 53 #[.slice a (zp ps).length cap, .int .i64 (i : Int)] w fun e w' => e = .returned (.int .i64 (atI ps i)) ∧ w = w' := by
  have HP := Lib.hid hp
  rw [zp_len]
  clear hp
  go_enter Try.func53, Try.ntmps53
  go_wp2
  go_loop [5] (fun v => ∃ k : Nat, k ≤ ps.length ∧ v = .int .i64 k ∧ ∀ j, (hj : j < ps.length) → j < k → ps[j].1 ≠ i) (fun v => ps.length - (intOf v).toNat)
  case atStart => exact ⟨0, Nat.zero_le _, rfl, fun j _ h => absurd h (Nat.not_lt_zero _)⟩
  case round =>
    obtain ⟨k, hk, rfl, hall⟩ := hrel
    have HA := Lib.hid hall
    clear hall
    by_cases hlt : k < ps.length
    · obtain ⟨b, off, rfl, hb, hc1, hc2⟩ := HP.out k (by rw [zp_len]; exact hlt)
      rw [px_zp ps k hlt] at hc1
      rw [py_zp ps k hlt] at hc2
      by_cases h1 : ps[k].1 = i
      · have HG : Hid (atI ps i = (ps[k].2 : Int)) := by
          show _ = _
          have hl := lookup_at hlt (fun j hj => by rw [h1]; exact HA.out j (by omega) hj)
          unfold atI
          rw [← h1, hl]
        have e1 : ((ps[k].1 : Int) == (i : Int)) = true := by simp [h1]
        clear h1
        generalize ps[k].1 = p1 at *
        generalize ps[k].2 = p2 at *
        go_wp2
        go_ret
        exact ⟨by rw [HG.out]; rfl, rfl⟩
      · have e1 : ((ps[k].1 : Int) == (i : Int)) = false := by simp; omega
        have HN : Hid (∀ j, (hj : j < ps.length) → j < k + 1 → ps[j].1 ≠ i) := fun j hj hjk => by
          by_cases e : j = k
          · subst e; exact h1
          · exact HA.out j hj (by omega)
        clear h1
        generalize ps[k].1 = p1 at hc1 e1
        generalize ps[k].2 = p2 at hc2
        go_wp2
        go_round
        case rel => exact ⟨k + 1, by omega, by go_num, HN.out⟩
        case measure => simp [intOf]; omega
    · obtain rfl : k = ps.length := by omega
      have HG : Hid (atI ps i = -1) := by
        show _ = _
        unfold atI
        rw [lookup_none_of (fun p hp => by obtain ⟨j, hj, rfl⟩ := List.getElem_of_mem hp; exact HA.out j hj hj)]
      go_wp2
      go_ret
      exact ⟨by rw [HG.out]; rfl, rfl⟩

set_option maxHeartbeats 1000000 in
theorem l5Pick_any (so sa sb : Sl) (o a b : List (Int × Int)) (w : World) (ho : PtsAt w so.1 o) (ha : PtsAt w sa.1 a) (hb : PtsAt w sb.1 b) (lo : so.2.1 = o.length) (la : sa.2.1 = a.length) (lb : sb.2.1 = b.length) (ho' : o.length ≤ 1048576) (ha' : a.length ≤ 1048576) (hb' : b.length ≤ 1048576) :
    Calls Try.prog 54 #[slV so, slV sa, slV sb] w fun e w' => e = .returned (.tuple #[slV (pickA o a b sa sb), .bool (pickB o a b)]) ∧ ∃ n, w' = w.drewN n := by
  obtain ⟨po, no, co⟩ := so
  obtain ⟨pa, na, ca⟩ := sa
  obtain ⟨pb, nb, cb⟩ := sb
  simp only at ho ha hb lo la lb
  subst lo la lb
  have HO := Lib.hid ho
  have HA := Lib.hid ha
  have HB := Lib.hid hb
  clear ho ha hb
  unfold slV
  have Bw : ∀ n, Below w.heap.size w (w.drewN n) := fun n => below_drewN (Below.refl _ _) n
  have BW := Lib.hid Bw
  clear Bw
  by_cases h1 : ptsEq a o = true
  · have e1 : pickA o a b (pa, a.length, ca) (pb, b.length, cb) = (pb, b.length, cb) := by unfold pickA; rw [if_pos h1]
    have e2 : pickB o a b = true := by unfold pickB; rw [pick_eqs, if_pos h1]; rfl
    rw [e1, e2]
    have H1 : Hid (ptsEq a o = true) := by simpa [Hid] using h1
    clear e1 e2 h1
    go_enter Try.func54, Try.ntmps54
    go_wp2_with fail
    refine (l1Same_any _ _ _ _ _ _ _ HA.out HO.out ha' ho').mono ?_
    rintro e w1 ⟨rfl, k0, rfl⟩
    rw [H1.out]
    go_wp2
    go_ret2
    exact ⟨rfl, _, rfl⟩
  · by_cases h2 : ptsEq b o = true
    · have e1 : pickA o a b (pa, a.length, ca) (pb, b.length, cb) = (pa, a.length, ca) := by unfold pickA; rw [if_neg h1, if_pos h2]
      have e2 : pickB o a b = true := by unfold pickB; rw [pick_eqs, if_neg h1, if_pos h2]; rfl
      rw [e1, e2]
      have H1 : Hid (ptsEq a o = false) := by simpa [Hid] using h1
      have H2 : Hid (ptsEq b o = true) := by simpa [Hid] using h2
      clear e1 e2 h1 h2
      go_enter Try.func54, Try.ntmps54
      go_wp2_with fail
      refine (l1Same_any _ _ _ _ _ _ _ HA.out HO.out ha' ho').mono ?_
      rintro e w1 ⟨rfl, k0, rfl⟩
      rw [H1.out]
      go_wp2_with fail
      refine (l1Same_any _ _ _ _ _ _ _ (HB.out.below (BW.out _)) (HO.out.below (BW.out _)) hb' ho').mono ?_
      rintro e w2 ⟨rfl, k1, rfl⟩
      rw [H2.out]
      go_wp2
      go_ret2
      exact ⟨rfl, _, rfl⟩
    · by_cases h3 : ptsEq a b = true
      · have e1 : pickA o a b (pa, a.length, ca) (pb, b.length, cb) = (pa, a.length, ca) := by unfold pickA; rw [if_neg h1, if_neg h2, if_pos h3]
        have e2 : pickB o a b = true := by unfold pickB; rw [pick_eqs, if_neg h1, if_neg h2, if_pos h3]; rfl
        rw [e1, e2]
        have H1 : Hid (ptsEq a o = false) := by simpa [Hid] using h1
        have H2 : Hid (ptsEq b o = false) := by simpa [Hid] using h2
        have H3 : Hid (ptsEq a b = true) := by simpa [Hid] using h3
        clear e1 e2 h1 h2 h3
        go_enter Try.func54, Try.ntmps54
        go_wp2_with fail
        refine (l1Same_any _ _ _ _ _ _ _ HA.out HO.out ha' ho').mono ?_
        rintro e w1 ⟨rfl, k0, rfl⟩
        rw [H1.out]
        go_wp2_with fail
        refine (l1Same_any _ _ _ _ _ _ _ (HB.out.below (BW.out _)) (HO.out.below (BW.out _)) hb' ho').mono ?_
        rintro e w2 ⟨rfl, k1, rfl⟩
        rw [H2.out]
        go_wp2_with fail
        refine (l1Same_any _ _ _ _ _ _ _ (HA.out.below (BW.out _)) (HB.out.below (BW.out _)) ha' hb').mono ?_
        rintro e w3 ⟨rfl, k2, rfl⟩
        rw [H3.out]
        go_wp2
        go_ret2
        exact ⟨rfl, _, rfl⟩
      · have e1 : pickA o a b (pa, a.length, ca) (pb, b.length, cb) = (none, 0, 0) := by unfold pickA; rw [if_neg h1, if_neg h2, if_neg h3]
        have e2 : pickB o a b = false := by unfold pickB; rw [pick_eqs, if_neg h1, if_neg h2, if_neg h3]; rfl
        rw [e1, e2]
        have H1 : Hid (ptsEq a o = false) := by simpa [Hid] using h1
        have H2 : Hid (ptsEq b o = false) := by simpa [Hid] using h2
        have H3 : Hid (ptsEq a b = false) := by simpa [Hid] using h3
        clear e1 e2 h1 h2 h3
        go_enter Try.func54, Try.ntmps54
        go_wp2_with fail
        refine (l1Same_any _ _ _ _ _ _ _ HA.out HO.out ha' ho').mono ?_
        rintro e w1 ⟨rfl, k0, rfl⟩
        rw [H1.out]
        go_wp2_with fail
        refine (l1Same_any _ _ _ _ _ _ _ (HB.out.below (BW.out _)) (HO.out.below (BW.out _)) hb' ho').mono ?_
        rintro e w2 ⟨rfl, k1, rfl⟩
        rw [H2.out]
        go_wp2_with fail
        refine (l1Same_any _ _ _ _ _ _ _ (HA.out.below (BW.out _)) (HB.out.below (BW.out _)) ha' hb').mono ?_
        rintro e w3 ⟨rfl, k2, rfl⟩
        rw [H3.out]
        go_wp2
        go_ret2
        exact ⟨rfl, _, rfl⟩
end Go.Proofs.Ytaefibefagbheaa
