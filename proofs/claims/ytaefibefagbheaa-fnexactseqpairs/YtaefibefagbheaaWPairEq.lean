/- Proved here: lists of pairs are held against each other, marked, and found marked, as rows of points are; lists of at most 1,048,576 pairs. -/
import Derived.Test.YtaefibefagbheaaWSeqRow
import Derived.Test.YtaefibefagbheaaWEq
namespace Go.Proofs.Ytaefibefagbheaa
set_option linter.unusedVariables false
open Go.ChangeShapes Go.WideShapes Go.ChangeAt Go.RowKit

set_option maxHeartbeats 400000 in
theorem eqPair_any (x y a b : Int) (w : World) :
    Calls Try.prog 46 #[.agg #[.int .i64 x, .int .i64 y], .agg #[.int .i64 a, .int .i64 b]] w fun e w' => e = .returned (.bool (ptEq (x, y) (a, b))) ∧ Below w.heap.size w w' := by
  go_enter Try.func46, Try.ntmps46
  go_wp2
  all_goals go_ret
  all_goals refine ⟨?_, ((Below.refl _ _).alloc (Nat.le_refl _) _).alloc (by simp) _⟩
  all_goals simp_all [ptEq]

set_option maxRecDepth 100000 in
set_option maxHeartbeats 1000000 in
theorem eqPairS_any (a a' : Option Addr) (cap cap' : Nat) (ps qs : List (Int × Int)) (w : World) (hp : PtsAt w a ps) (hq : PtsAt w a' qs) (hl : ps.length ≤ 1048576) (hl' : qs.length ≤ 1048576) :
    Calls Try.prog 27 #[.slice a ps.length cap, .slice a' qs.length cap'] w fun e w' => e = .returned (.bool (ptsEq ps qs)) ∧ Below w.heap.size w w' := by
  have HP := Lib.hid hp
  have HQ := Lib.hid hq
  clear hp hq
  by_cases he : ps.length = qs.length
  · have HE := Lib.hid he
    rw [← he]
    have h1 : ((ps.length : Int) != (ps.length : Int)) = false := by simp
    clear he
    go_enter Try.func27, Try.ntmps27
    go_wp2
    go_loopw [5] (fun i wr => ∃ k : Nat, k ≤ ps.length ∧ i = .int .i64 k ∧ Below w.heap.size w wr ∧ ∀ j, j < k → px ps j = px qs j ∧ py ps j = py qs j) (fun i _ => ps.length - (intOf i).toNat)
    case atStart => exact ⟨0, Nat.zero_le _, rfl, Below.refl _ _, fun j h => absurd h (Nat.not_lt_zero _)⟩
    case round =>
      obtain ⟨k, hk, rfl, hbel, hall⟩ := hrel
      have HA := Lib.hid hall
      have HB := Lib.hid hbel
      have hsz := hbel.size
      clear hall
      by_cases hlt : k < ps.length
      · obtain ⟨b, off, rfl, hb, hc1, hc2⟩ := HP.out k hlt
        obtain ⟨b', off', rfl, hb', hd1, hd2⟩ := HQ.out k (by have := HE.out; omega)
        rw [← hbel.cell (p := ⟨b, _, none⟩) hb] at hc1 hc2
        rw [← hbel.cell (p := ⟨b', _, none⟩) hb'] at hd1 hd2
        clear hbel
        by_cases hs : px ps k = px qs k ∧ py ps k = py qs k
        · have hb1 : ptEq (px ps k, py ps k) (px qs k, py qs k) = true := by simp [ptEq, hs]
          have HS := Lib.hid hs
          clear hs
          go_wp2
          go_still_tail 8, (by kernel_rfl)
          go_wp2_with fail
          refine (eqPair_any _ _ _ _ _).mono ?_
          rintro e w1 ⟨rfl, hb2⟩
          have HB2 := Lib.hid hb2
          clear hb2
          go_wp2
          go_roundw
          case rel => exact ⟨k + 1, by omega, by go_num, HB.out.drew.trans (HB2.out.mono hsz), fun j hj => by by_cases e : j = k; (subst e; exact HS.out); exact HA.out j (by omega)⟩
          case measure => simp [intOf]; omega
        · have hb1 : ptEq (px ps k, py ps k) (px qs k, py qs k) = false := by simpa [ptEq] using hs
          have HS := Lib.hid (ptsEq_ne hs)
          clear hs
          go_wp2
          go_still_tail 8, (by kernel_rfl)
          go_wp2_with fail
          refine (eqPair_any _ _ _ _ _).mono ?_
          rintro e w1 ⟨rfl, hb2⟩
          have HB2 := Lib.hid hb2
          clear hb2
          go_wp2
          go_ret
          exact ⟨by rw [HS.out]; rfl, HB.out.drew.trans (HB2.out.mono hsz)⟩
      · obtain rfl : k = ps.length := by omega
        have HT := Lib.hid (ptsEq_of HE.out HA.out)
        clear hbel
        go_wp2
        go_ret
        exact ⟨by rw [HT.out]; rfl, HB.out⟩
  · have h1 : ((ps.length : Int) != (qs.length : Int)) = true := by simp; omega
    have HT := Lib.hid (ptsEq_len he)
    clear he
    go_enter Try.func27, Try.ntmps27
    go_wp2
    go_ret
    exact ⟨by rw [HT.out]; rfl, Below.refl _ _⟩

set_option maxHeartbeats 1000000 in
theorem markPairS_some (b off cap : Nat) (ps : List (Int × Int)) (k : Int) (w : World) (hp : PtsAt w (some ⟨b, off, none⟩) ps) (hs : Soft w (some ⟨b, off, none⟩) ps.length) (hl : ps.length ≤ 1048576) (h0 : 0 ≤ k) (h4 : k ≤ 1152921504606846976) :
    Calls Try.prog 30 #[.slice (some ⟨b, off, none⟩) ps.length cap, .int .i64 k] w fun e w' => e = .returned (.int .i64 (k + 2 * (ps.length : Int))) ∧ Marking w b off ps k ps.length w' := by
  have HS := Lib.hid hs
  have H0 : Hid (Marking w b off ps k 0 w) := by
    refine ⟨fun i hi => ?_, fun _ => rfl, World.grownBy.refl _ _, rfl⟩
    obtain ⟨b', off', e, _, h1, h2⟩ := hp i hi
    obtain ⟨rfl, rfl⟩ : b = b' ∧ off = off' := by simpa using e
    simpa using ⟨h1, h2⟩
  clear hp hs
  go_enter Try.func30, Try.ntmps30
  go_wp2
  go_loopw [1, 5] (fun q i wr => ∃ j : Nat, j ≤ ps.length ∧ i = .int .i64 j ∧ q = .int .i64 (k + 2 * (j : Int)) ∧ Marking w b off ps k j wr) (fun _ i _ => ps.length - (intOf i).toNat)
  case atStart => exact ⟨0, Nat.zero_le _, rfl, by simp, H0.out⟩
  case round =>
    obtain ⟨j, hj, rfl, rfl, hm⟩ := hrel
    by_cases hlt : j < ps.length
    · obtain ⟨d1, d2⟩ := hm.1 j hlt
      obtain ⟨f1, f2⟩ := HS.out j hlt b off rfl
      rw [← hm.2.1] at f1 f2
      rw [if_neg (by omega)] at d1 d2
      have HM := Lib.hid (marking_step hlt hm)
      clear hm
      go_wp2
      go_roundw
      case rel => exact ⟨j + 1, by omega, by go_num, by simp; omega, HM.out⟩
      case measure => simp [intOf]; omega
    · obtain rfl : j = ps.length := by omega
      have HM := Lib.hid hm
      clear hm
      go_wp2
      go_ret
      exact ⟨rfl, HM.out⟩

set_option maxHeartbeats 1000000 in
theorem markPairS_nil (a : Option Addr) (cap : Nat) (k : Int) (w : World) :
    Calls Try.prog 30 #[.slice a 0 cap, .int .i64 k] w fun e w' => e = .returned (.int .i64 k) ∧ w = w' := by
  go_enter Try.func30, Try.ntmps30
  go_wp2
  refine wp_loop_rounds 1 ?_
  rw [rounds_succ]
  go_wp2
  go_ret
  exact ⟨rfl, rfl⟩

theorem markPairS_any (a : Option Addr) (cap : Nat) (ps : List (Int × Int)) (k : Int) (w : World) (hp : PtsAt w a ps) (hs : Soft w a ps.length) (hl : ps.length ≤ 1048576) (h0 : 0 ≤ k) (h4 : k ≤ 1152921504606846976) :
    Calls Try.prog 30 #[.slice a ps.length cap, .int .i64 k] w fun e w' => e = .returned (.int .i64 (k + 2 * (ps.length : Int))) ∧ Marked w a ps.length k w' := by
  by_cases h : 0 < ps.length
  · obtain ⟨b, off, rfl, hb, _, _⟩ := hp 0 h
    refine (markPairS_some b off cap ps k w hp hs hl h0 h4).mono fun e w' ⟨he, hc, hf, hg, hsz⟩ => ⟨he, ?_, ?_, hg, hsz⟩
    · intro i hi
      rw [marks_len] at hi
      obtain ⟨h1, h2⟩ := hc i hi
      rw [if_pos hi] at h1 h2
      rw [marks_x k hi, marks_y k hi]
      exact ⟨b, off, rfl, by omega, h1, h2⟩
    · intro i hi b' off' e
      rw [hf, hf]
      exact hs i hi b' off' e
  · have h' : ps.length = 0 := by omega
    rw [h']
    refine (markPairS_nil a cap k w).mono fun e w' ⟨he, hw⟩ => ⟨by rw [he]; simp, ?_⟩
    subst hw
    exact ⟨PtsAt.nil w a, fun i hi => absurd hi (Nat.not_lt_zero _), World.grownBy.refl _ _, rfl⟩

set_option maxHeartbeats 1000000 in
theorem heldPairS_any (a : Option Addr) (cap n : Nat) (k : Int) (w : World) (hp : PtsAt w a (marks k n)) (hl : n ≤ 1048576) (h0 : 0 ≤ k) (h4 : k ≤ 1152921504606846976) :
    Calls Try.prog 31 #[.slice a n cap, .int .i64 k] w fun e w' => e = .returned (.int .i64 (k + 2 * (n : Int))) ∧ w = w' := by
  have HP := Lib.hid hp
  clear hp
  go_enter Try.func31, Try.ntmps31
  go_wp2
  go_loop [1, 5] (fun q i => ∃ j : Nat, j ≤ n ∧ i = .int .i64 j ∧ q = .int .i64 (k + 2 * (j : Int))) (fun _ i => n - (intOf i).toNat)
  case atStart => exact ⟨0, Nat.zero_le _, rfl, by simp⟩
  case round =>
    obtain ⟨j, hj, rfl, rfl⟩ := hrel
    by_cases hlt : j < n
    · obtain ⟨b, off, rfl, hb, d1, d2⟩ := HP.out j (by rw [marks_len]; exact hlt)
      rw [marks_x k hlt] at d1
      rw [marks_y k hlt] at d2
      have e1 : (k + 2 * (j : Int) != k + 2 * (j : Int)) = false := by simp
      have e2 : (k + 2 * (j : Int) + 1 != k + 2 * (j : Int) + 1) = false := by simp
      go_wp2
      go_round
      case rel => exact ⟨j + 1, by omega, by go_num, by simp; omega⟩
      case measure => simp [intOf]; omega
    · obtain rfl : j = n := by omega
      go_wp2
      go_ret
      exact ⟨rfl, rfl⟩

end Go.Proofs.Ytaefibefagbheaa
