/- Proved here: the law FnSeqNone answers true at every code, and leaves it as it was; no condition. -/
import Derived.Test.YtaefibefagbheaaWSeqCalls
namespace Go.Proofs.Ytaefibefagbheaa
set_option linter.unusedVariables false
open Go.ChangeShapes Go.WideShapes Go.ChangeAt Go.RowKit

set_option maxRecDepth 100000 in
set_option maxHeartbeats 2000000 in
theorem fnSeqNone_walk (a0 : Option Addr) (n0 cap0 : Nat) (w : World) (f0 : CodeAt w a0 n0) (hHC : n0 ≤ 1048576) (kHC : n0 ≤ cap0) :
    Calls Try.prog 9 #[.slice a0 n0 cap0] w fun e w' => e = .returned (.bool true) ∧ Below w.heap.size w w' := by
  have HC := Lib.hid f0
  clear f0
  go_enter Try.func9, Try.ntmps9
  go_wp2_with fail
  refine (drawSeqMerge_any _ _ _ _ HC.out hHC kHC).mono ?_
  rintro e w1 ⟨aO, cO, sO, aA, cA, sA, aB0, cB0, sB0, rfl, hO, hA, hB0, hb1⟩
  have B := Lib.hid hb1
  have PO := Lib.hid hO.pts
  have bO := hO.len
  have kO := hO.cap
  have NO := Lib.hid hO.near
  have lO : sO.length ≤ 1048576 := by omega
  have PA := Lib.hid hA.pts
  have bA := hA.len
  have kA := hA.cap
  have NA := Lib.hid hA.near
  have lA : sA.length ≤ 1048576 := by omega
  have PB0 := Lib.hid hB0.pts
  have bB0 := hB0.len
  have kB0 := hB0.cap
  have NB0 := Lib.hid hB0.near
  have lB0 : sB0.length ≤ 1048576 := by omega
  clear hO hA hB0 hb1
  have HN0 := Lib.hid (merged_none sA sB0)
  by_cases hf : sA.length ≤ 12 ∧ sB0.length ≤ 12
  · obtain ⟨hf1, hf2⟩ := hf
    have hfew : fewB [([] : List (Int × Int)).length, sA.length, sB0.length] = true := few3_mk (o := []) (Nat.zero_le _) hf1 hf2
    have HE : Hid (mergedOf [] sA sB0 = pick [] sA sB0) := by show _ = _; rw [mergedOf_few hfew, merged_none]
    have tA : ¬ (12 : Int) < (sA.length : Int) := by omega
    have tB0 : ¬ (12 : Int) < (sB0.length : Int) := by omega
    clear hfew
    by_cases hA : sA.length = 0
    · have hA' : ((sA.length : Int) == 0) = true := beq_iff_eq.2 (by omega)
      have EA : Hid (sA = []) := List.eq_nil_of_length_eq_zero hA
      clear hA
      have HM : Hid ((mergedOf [] sA sB0).getD [] = sB0) := by show _ = _; rw [HE.out, EA.out]; rfl
      have HK : Hid ((mergedOf [] sA sB0).isSome = true) := by show _ = _; rw [HE.out, EA.out]; rfl
      go_wp2_with fail
      refine (implMerge0 sB0 true _ _ _ _ (sA) (sB0) _ HM.out HK.out PA.out PB0.out lA lB0 kA kB0).mono ?_
      rintro e w2 ⟨aX, cX, rfl, h2⟩
      replace B := Lib.hid (B.out.trans (h2.bel.mono B.out.size))
      replace PO := Lib.hid (PO.out.below h2.bel)
      replace PA := Lib.hid (PA.out.below h2.bel)
      replace PB0 := Lib.hid (PB0.out.below h2.bel)
      have PX := Lib.hid h2.pts
      have lX : List.length sB0 ≤ 1048576 := lB0
      clear h2
      go_wp2_with fail
      refine (specMerge0 sB0 true _ _ _ _ (sA) (sB0) _ HM.out HK.out PA.out PB0.out lA lB0 kA kB0).mono ?_
      rintro e w3 ⟨aY, cY, rfl, h3⟩
      replace B := Lib.hid (B.out.trans (h3.bel.mono B.out.size))
      replace PO := Lib.hid (PO.out.below h3.bel)
      replace PA := Lib.hid (PA.out.below h3.bel)
      replace PB0 := Lib.hid (PB0.out.below h3.bel)
      replace PX := Lib.hid (PX.out.below h3.bel)
      have PY := Lib.hid h3.pts
      have lY : List.length sB0 ≤ 1048576 := lB0
      clear h3
      go_wp2_with fail
      refine (wsSame_any _ _ _ _ _ _ _ PX.out PY.out lX lY).mono ?_
      rintro e w4 ⟨rfl, k4, d4⟩
      have hb4 : Below w3.heap.size w3 w4 := by rw [d4]; exact below_drewN (Below.refl _ _) k4
      clear d4
      replace B := Lib.hid (B.out.trans (hb4.mono B.out.size))
      replace PO := Lib.hid (PO.out.below hb4)
      replace PA := Lib.hid (PA.out.below hb4)
      replace PB0 := Lib.hid (PB0.out.below hb4)
      replace PX := Lib.hid (PX.out.below hb4)
      replace PY := Lib.hid (PY.out.below hb4)
      clear hb4
      rw [ptsEq_one]
      go_wp2_with fail
      refine (wsSame_any _ _ _ _ _ _ _ PX.out PB0.out lX lB0).mono ?_
      rintro e w5 ⟨rfl, k5, d5⟩
      have hb5 : Below w4.heap.size w4 w5 := by rw [d5]; exact below_drewN (Below.refl _ _) k5
      clear d5
      replace B := Lib.hid (B.out.trans (hb5.mono B.out.size))
      replace PO := Lib.hid (PO.out.below hb5)
      replace PA := Lib.hid (PA.out.below hb5)
      replace PB0 := Lib.hid (PB0.out.below hb5)
      replace PX := Lib.hid (PX.out.below hb5)
      replace PY := Lib.hid (PY.out.below hb5)
      clear hb5
      rw [ptsEq_one]
      go_wp2
      go_ret
      exact ⟨rfl, B.out⟩
    · have hA' : ((sA.length : Int) == 0) = false := beq_eq_false_iff_ne.2 (by omega)
      have EA : Hid (¬ sA = []) := fun e => hA (by rw [e]; rfl)
      by_cases hB : sB0.length = 0
      · have hB' : ((sB0.length : Int) == 0) = true := beq_iff_eq.2 (by omega)
        have EB : Hid (sB0 = []) := List.eq_nil_of_length_eq_zero hB
        clear hB
        have HM : Hid ((mergedOf [] sA sB0).getD [] = sA) := by show _ = _; rw [HE.out, EB.out]; unfold pick; rw [if_neg EA.out, if_pos rfl]; rfl
        have HK : Hid ((mergedOf [] sA sB0).isSome = true) := by show _ = _; rw [HE.out, EB.out]; unfold pick; rw [if_neg EA.out, if_pos rfl]; rfl
        go_wp2_with fail
        refine (implMerge0 sA true _ _ _ _ (sA) (sB0) _ HM.out HK.out PA.out PB0.out lA lB0 kA kB0).mono ?_
        rintro e w2 ⟨aX, cX, rfl, h2⟩
        replace B := Lib.hid (B.out.trans (h2.bel.mono B.out.size))
        replace PO := Lib.hid (PO.out.below h2.bel)
        replace PA := Lib.hid (PA.out.below h2.bel)
        replace PB0 := Lib.hid (PB0.out.below h2.bel)
        have PX := Lib.hid h2.pts
        have lX : List.length sA ≤ 1048576 := lA
        clear h2
        go_wp2_with fail
        refine (specMerge0 sA true _ _ _ _ (sA) (sB0) _ HM.out HK.out PA.out PB0.out lA lB0 kA kB0).mono ?_
        rintro e w3 ⟨aY, cY, rfl, h3⟩
        replace B := Lib.hid (B.out.trans (h3.bel.mono B.out.size))
        replace PO := Lib.hid (PO.out.below h3.bel)
        replace PA := Lib.hid (PA.out.below h3.bel)
        replace PB0 := Lib.hid (PB0.out.below h3.bel)
        replace PX := Lib.hid (PX.out.below h3.bel)
        have PY := Lib.hid h3.pts
        have lY : List.length sA ≤ 1048576 := lA
        clear h3
        go_wp2_with fail
        refine (wsSame_any _ _ _ _ _ _ _ PX.out PY.out lX lY).mono ?_
        rintro e w4 ⟨rfl, k4, d4⟩
        have hb4 : Below w3.heap.size w3 w4 := by rw [d4]; exact below_drewN (Below.refl _ _) k4
        clear d4
        replace B := Lib.hid (B.out.trans (hb4.mono B.out.size))
        replace PO := Lib.hid (PO.out.below hb4)
        replace PA := Lib.hid (PA.out.below hb4)
        replace PB0 := Lib.hid (PB0.out.below hb4)
        replace PX := Lib.hid (PX.out.below hb4)
        replace PY := Lib.hid (PY.out.below hb4)
        clear hb4
        rw [ptsEq_one]
        go_wp2_with fail
        refine (wsSame_any _ _ _ _ _ _ _ PX.out PA.out lX lA).mono ?_
        rintro e w5 ⟨rfl, k5, d5⟩
        have hb5 : Below w4.heap.size w4 w5 := by rw [d5]; exact below_drewN (Below.refl _ _) k5
        clear d5
        replace B := Lib.hid (B.out.trans (hb5.mono B.out.size))
        replace PO := Lib.hid (PO.out.below hb5)
        replace PA := Lib.hid (PA.out.below hb5)
        replace PB0 := Lib.hid (PB0.out.below hb5)
        replace PX := Lib.hid (PX.out.below hb5)
        replace PY := Lib.hid (PY.out.below hb5)
        clear hb5
        rw [ptsEq_one]
        go_wp2
        go_ret
        exact ⟨rfl, B.out⟩
      · have hB' : ((sB0.length : Int) == 0) = false := beq_eq_false_iff_ne.2 (by omega)
        have EB : Hid (¬ sB0 = []) := fun e => hB (by rw [e]; rfl)
        by_cases hS : ptsEq sA sB0 = true
        · have HS := Lib.hid hS
          clear hS
          have ES : Hid (sA = sB0) := by show _ = _; simpa [ptsEq] using HS.out
          have HM : Hid ((mergedOf [] sA sB0).getD [] = sA) := by show _ = _; rw [HE.out]; unfold pick; rw [if_neg EA.out, if_neg EB.out, if_pos ES.out]; rfl
          have HK : Hid ((mergedOf [] sA sB0).isSome = true) := by show _ = _; rw [HE.out]; unfold pick; rw [if_neg EA.out, if_neg EB.out, if_pos ES.out]; rfl
          go_wp2_with fail
          refine (implMerge0 sA true _ _ _ _ (sA) (sB0) _ HM.out HK.out PA.out PB0.out lA lB0 kA kB0).mono ?_
          rintro e w2 ⟨aX, cX, rfl, h2⟩
          replace B := Lib.hid (B.out.trans (h2.bel.mono B.out.size))
          replace PO := Lib.hid (PO.out.below h2.bel)
          replace PA := Lib.hid (PA.out.below h2.bel)
          replace PB0 := Lib.hid (PB0.out.below h2.bel)
          have PX := Lib.hid h2.pts
          have lX : List.length sA ≤ 1048576 := lA
          clear h2
          go_wp2_with fail
          refine (specMerge0 sA true _ _ _ _ (sA) (sB0) _ HM.out HK.out PA.out PB0.out lA lB0 kA kB0).mono ?_
          rintro e w3 ⟨aY, cY, rfl, h3⟩
          replace B := Lib.hid (B.out.trans (h3.bel.mono B.out.size))
          replace PO := Lib.hid (PO.out.below h3.bel)
          replace PA := Lib.hid (PA.out.below h3.bel)
          replace PB0 := Lib.hid (PB0.out.below h3.bel)
          replace PX := Lib.hid (PX.out.below h3.bel)
          have PY := Lib.hid h3.pts
          have lY : List.length sA ≤ 1048576 := lA
          clear h3
          go_wp2_with fail
          refine (wsSame_any _ _ _ _ _ _ _ PX.out PY.out lX lY).mono ?_
          rintro e w4 ⟨rfl, k4, d4⟩
          have hb4 : Below w3.heap.size w3 w4 := by rw [d4]; exact below_drewN (Below.refl _ _) k4
          clear d4
          replace B := Lib.hid (B.out.trans (hb4.mono B.out.size))
          replace PO := Lib.hid (PO.out.below hb4)
          replace PA := Lib.hid (PA.out.below hb4)
          replace PB0 := Lib.hid (PB0.out.below hb4)
          replace PX := Lib.hid (PX.out.below hb4)
          replace PY := Lib.hid (PY.out.below hb4)
          clear hb4
          rw [ptsEq_one]
          go_wp2_with fail
          refine (wsSame_any _ _ _ _ _ _ _ PA.out PB0.out lA lB0).mono ?_
          rintro e w5 ⟨rfl, k5, d5⟩
          have hb5 : Below w4.heap.size w4 w5 := by rw [d5]; exact below_drewN (Below.refl _ _) k5
          clear d5
          replace B := Lib.hid (B.out.trans (hb5.mono B.out.size))
          replace PO := Lib.hid (PO.out.below hb5)
          replace PA := Lib.hid (PA.out.below hb5)
          replace PB0 := Lib.hid (PB0.out.below hb5)
          replace PX := Lib.hid (PX.out.below hb5)
          replace PY := Lib.hid (PY.out.below hb5)
          clear hb5
          rw [HS.out]
          go_wp2_with fail
          refine (wsSame_any _ _ _ _ _ _ _ PX.out PA.out lX lA).mono ?_
          rintro e w6 ⟨rfl, k6, d6⟩
          have hb6 : Below w5.heap.size w5 w6 := by rw [d6]; exact below_drewN (Below.refl _ _) k6
          clear d6
          replace B := Lib.hid (B.out.trans (hb6.mono B.out.size))
          replace PO := Lib.hid (PO.out.below hb6)
          replace PA := Lib.hid (PA.out.below hb6)
          replace PB0 := Lib.hid (PB0.out.below hb6)
          replace PX := Lib.hid (PX.out.below hb6)
          replace PY := Lib.hid (PY.out.below hb6)
          clear hb6
          rw [ptsEq_one]
          go_wp2
          go_ret
          exact ⟨rfl, B.out⟩
        · have HS : Hid (ptsEq sA sB0 = false) := by show _ = _; simpa using hS
          clear hS
          have ES : Hid (¬ sA = sB0) := by intro e; have := HS.out; rw [e, ptsEq_one] at this; cases this
          have HM : Hid ((mergedOf [] sA sB0).getD [] = []) := by show _ = _; rw [HE.out]; unfold pick; rw [if_neg EA.out, if_neg EB.out, if_neg ES.out]; rfl
          have HK : Hid ((mergedOf [] sA sB0).isSome = false) := by show _ = _; rw [HE.out]; unfold pick; rw [if_neg EA.out, if_neg EB.out, if_neg ES.out]; rfl
          go_wp2_with fail
          refine (implMerge0 ([] : List (Int × Int)) false _ _ _ _ (sA) (sB0) _ HM.out HK.out PA.out PB0.out lA lB0 kA kB0).mono ?_
          rintro e w2 ⟨aX, cX, rfl, h2⟩
          replace B := Lib.hid (B.out.trans (h2.bel.mono B.out.size))
          replace PO := Lib.hid (PO.out.below h2.bel)
          replace PA := Lib.hid (PA.out.below h2.bel)
          replace PB0 := Lib.hid (PB0.out.below h2.bel)
          have PX := Lib.hid h2.pts
          have lX : List.length ([] : List (Int × Int)) ≤ 1048576 := (Nat.zero_le _)
          clear h2
          go_wp2_with fail
          refine (specMerge0 ([] : List (Int × Int)) false _ _ _ _ (sA) (sB0) _ HM.out HK.out PA.out PB0.out lA lB0 kA kB0).mono ?_
          rintro e w3 ⟨aY, cY, rfl, h3⟩
          replace B := Lib.hid (B.out.trans (h3.bel.mono B.out.size))
          replace PO := Lib.hid (PO.out.below h3.bel)
          replace PA := Lib.hid (PA.out.below h3.bel)
          replace PB0 := Lib.hid (PB0.out.below h3.bel)
          replace PX := Lib.hid (PX.out.below h3.bel)
          have PY := Lib.hid h3.pts
          have lY : List.length ([] : List (Int × Int)) ≤ 1048576 := (Nat.zero_le _)
          clear h3
          go_wp2_with fail
          refine (wsSame_any _ _ _ _ _ _ _ PX.out PY.out lX lY).mono ?_
          rintro e w4 ⟨rfl, k4, d4⟩
          have hb4 : Below w3.heap.size w3 w4 := by rw [d4]; exact below_drewN (Below.refl _ _) k4
          clear d4
          replace B := Lib.hid (B.out.trans (hb4.mono B.out.size))
          replace PO := Lib.hid (PO.out.below hb4)
          replace PA := Lib.hid (PA.out.below hb4)
          replace PB0 := Lib.hid (PB0.out.below hb4)
          replace PX := Lib.hid (PX.out.below hb4)
          replace PY := Lib.hid (PY.out.below hb4)
          clear hb4
          rw [ptsEq_one]
          go_wp2_with fail
          refine (wsSame_any _ _ _ _ _ _ _ PA.out PB0.out lA lB0).mono ?_
          rintro e w5 ⟨rfl, k5, d5⟩
          have hb5 : Below w4.heap.size w4 w5 := by rw [d5]; exact below_drewN (Below.refl _ _) k5
          clear d5
          replace B := Lib.hid (B.out.trans (hb5.mono B.out.size))
          replace PO := Lib.hid (PO.out.below hb5)
          replace PA := Lib.hid (PA.out.below hb5)
          replace PB0 := Lib.hid (PB0.out.below hb5)
          replace PX := Lib.hid (PX.out.below hb5)
          replace PY := Lib.hid (PY.out.below hb5)
          clear hb5
          rw [HS.out]
          go_wp2
          go_ret
          exact ⟨rfl, B.out⟩
  · have hmany : fewB [([] : List (Int × Int)).length, sA.length, sB0.length] = false := by
      cases h : fewB [([] : List (Int × Int)).length, sA.length, sB0.length] with
      | false => rfl
      | true => exact absurd (few3_one (o := []) h).2 hf
    have HM : Hid ((mergedOf [] sA sB0).getD [] = []) := by show _ = _; rw [mergedOf_many hmany]; rfl
    have HK : Hid ((mergedOf [] sA sB0).isSome = false) := by show _ = _; rw [mergedOf_many hmany]; rfl
    clear hmany
    by_cases hA : sA.length ≤ 12
    · have tA : ¬ (12 : Int) < (sA.length : Int) := by omega
      have tB0 : (12 : Int) < (sB0.length : Int) := by omega
      go_wp2_with fail
      refine (implMerge0 ([] : List (Int × Int)) false _ _ _ _ (sA) (sB0) _ HM.out HK.out PA.out PB0.out lA lB0 kA kB0).mono ?_
      rintro e w2 ⟨aX, cX, rfl, h2⟩
      replace B := Lib.hid (B.out.trans (h2.bel.mono B.out.size))
      replace PO := Lib.hid (PO.out.below h2.bel)
      replace PA := Lib.hid (PA.out.below h2.bel)
      replace PB0 := Lib.hid (PB0.out.below h2.bel)
      have PX := Lib.hid h2.pts
      have lX : List.length ([] : List (Int × Int)) ≤ 1048576 := (Nat.zero_le _)
      clear h2
      go_wp2_with fail
      refine (specMerge0 ([] : List (Int × Int)) false _ _ _ _ (sA) (sB0) _ HM.out HK.out PA.out PB0.out lA lB0 kA kB0).mono ?_
      rintro e w3 ⟨aY, cY, rfl, h3⟩
      replace B := Lib.hid (B.out.trans (h3.bel.mono B.out.size))
      replace PO := Lib.hid (PO.out.below h3.bel)
      replace PA := Lib.hid (PA.out.below h3.bel)
      replace PB0 := Lib.hid (PB0.out.below h3.bel)
      replace PX := Lib.hid (PX.out.below h3.bel)
      have PY := Lib.hid h3.pts
      have lY : List.length ([] : List (Int × Int)) ≤ 1048576 := (Nat.zero_le _)
      clear h3
      go_wp2_with fail
      refine (wsSame_any _ _ _ _ _ _ _ PX.out PY.out lX lY).mono ?_
      rintro e w4 ⟨rfl, k4, d4⟩
      have hb4 : Below w3.heap.size w3 w4 := by rw [d4]; exact below_drewN (Below.refl _ _) k4
      clear d4
      replace B := Lib.hid (B.out.trans (hb4.mono B.out.size))
      replace PO := Lib.hid (PO.out.below hb4)
      replace PA := Lib.hid (PA.out.below hb4)
      replace PB0 := Lib.hid (PB0.out.below hb4)
      replace PX := Lib.hid (PX.out.below hb4)
      replace PY := Lib.hid (PY.out.below hb4)
      clear hb4
      rw [ptsEq_one]
      go_wp2_with fail
      refine (wsSame_any _ _ _ _ _ _ _ PX.out PY.out lX lY).mono ?_
      rintro e w5 ⟨rfl, k5, d5⟩
      have hb5 : Below w4.heap.size w4 w5 := by rw [d5]; exact below_drewN (Below.refl _ _) k5
      clear d5
      replace B := Lib.hid (B.out.trans (hb5.mono B.out.size))
      replace PO := Lib.hid (PO.out.below hb5)
      replace PA := Lib.hid (PA.out.below hb5)
      replace PB0 := Lib.hid (PB0.out.below hb5)
      replace PX := Lib.hid (PX.out.below hb5)
      replace PY := Lib.hid (PY.out.below hb5)
      clear hb5
      rw [ptsEq_one]
      go_wp2
      go_ret
      exact ⟨rfl, B.out⟩
    · have tA : (12 : Int) < (sA.length : Int) := by omega
      go_wp2_with fail
      refine (implMerge0 ([] : List (Int × Int)) false _ _ _ _ (sA) (sB0) _ HM.out HK.out PA.out PB0.out lA lB0 kA kB0).mono ?_
      rintro e w2 ⟨aX, cX, rfl, h2⟩
      replace B := Lib.hid (B.out.trans (h2.bel.mono B.out.size))
      replace PO := Lib.hid (PO.out.below h2.bel)
      replace PA := Lib.hid (PA.out.below h2.bel)
      replace PB0 := Lib.hid (PB0.out.below h2.bel)
      have PX := Lib.hid h2.pts
      have lX : List.length ([] : List (Int × Int)) ≤ 1048576 := (Nat.zero_le _)
      clear h2
      go_wp2_with fail
      refine (specMerge0 ([] : List (Int × Int)) false _ _ _ _ (sA) (sB0) _ HM.out HK.out PA.out PB0.out lA lB0 kA kB0).mono ?_
      rintro e w3 ⟨aY, cY, rfl, h3⟩
      replace B := Lib.hid (B.out.trans (h3.bel.mono B.out.size))
      replace PO := Lib.hid (PO.out.below h3.bel)
      replace PA := Lib.hid (PA.out.below h3.bel)
      replace PB0 := Lib.hid (PB0.out.below h3.bel)
      replace PX := Lib.hid (PX.out.below h3.bel)
      have PY := Lib.hid h3.pts
      have lY : List.length ([] : List (Int × Int)) ≤ 1048576 := (Nat.zero_le _)
      clear h3
      go_wp2_with fail
      refine (wsSame_any _ _ _ _ _ _ _ PX.out PY.out lX lY).mono ?_
      rintro e w4 ⟨rfl, k4, d4⟩
      have hb4 : Below w3.heap.size w3 w4 := by rw [d4]; exact below_drewN (Below.refl _ _) k4
      clear d4
      replace B := Lib.hid (B.out.trans (hb4.mono B.out.size))
      replace PO := Lib.hid (PO.out.below hb4)
      replace PA := Lib.hid (PA.out.below hb4)
      replace PB0 := Lib.hid (PB0.out.below hb4)
      replace PX := Lib.hid (PX.out.below hb4)
      replace PY := Lib.hid (PY.out.below hb4)
      clear hb4
      rw [ptsEq_one]
      go_wp2_with fail
      refine (wsSame_any _ _ _ _ _ _ _ PX.out PY.out lX lY).mono ?_
      rintro e w5 ⟨rfl, k5, d5⟩
      have hb5 : Below w4.heap.size w4 w5 := by rw [d5]; exact below_drewN (Below.refl _ _) k5
      clear d5
      replace B := Lib.hid (B.out.trans (hb5.mono B.out.size))
      replace PO := Lib.hid (PO.out.below hb5)
      replace PA := Lib.hid (PA.out.below hb5)
      replace PB0 := Lib.hid (PB0.out.below hb5)
      replace PX := Lib.hid (PX.out.below hb5)
      replace PY := Lib.hid (PY.out.below hb5)
      clear hb5
      rw [ptsEq_one]
      go_wp2
      go_ret
      exact ⟨rfl, B.out⟩

theorem fnSeqNone_large0 (a0 : Option Addr) (n0 cap0 : Nat) (w : World)  (hn : 1048576 < n0) :
    Calls Try.prog 9 #[.slice a0 n0 cap0] w fun e w' => e = .returned (.bool true) ∧ Below w.heap.size w w' := by
  have hn' : (1048576 : Int) < (n0 : Int) := by omega
  go_enter Try.func9, Try.ntmps9
  go_wp2
  go_ret
  exact ⟨rfl, Below.refl _ _⟩

theorem fnSeqNone_all (a0 : Option Addr) (n0 cap0 : Nat) (w : World) (f0 : CodeAt w a0 n0) (g0 : n0 ≤ cap0 ∧ n0 ≤ maxLen) :
    Calls Try.prog 9 #[.slice a0 n0 cap0] w fun e w' => e = .returned (.bool true) ∧ Below w.heap.size w w' := by
  by_cases h0 : n0 ≤ 1048576
  · exact fnSeqNone_walk a0 n0 cap0 w f0 h0 g0.1
  · exact fnSeqNone_large0 a0 n0 cap0 w (by omega)

set_option maxRecDepth 100000 in
theorem fnSeqNone_lifted (os : Os) (started : os.Started) (H : Type) (enc : TypeId × Value → H) :
    ReturnsInHanded {} Try.checked os 9 .any (Rows.fnSeqNoneSpec.pre6 enc Try.prog Try.f9 Rows.fnSeqNoneRow.domain false) (Rows.fnSeqNoneSpec.post enc Try.prog Try.f9 false true false false) := by
  refine returnsInHanded_of_change (C := Try.checked) own started (by kernel_rfl) Try.func9
    (ChangeSpec.witness6 (enc := enc) (C := Try.checked) false ⟨#[], #[.slice none 0 0], []⟩ 8 (by kernel_rfl) (by kernel_rfl) (by kernel_rfl) (by kernel_rfl)) ?_
  intro W base args ds gs before hval0 hW _ _
  have hval : ∀ (j : Nat) t v, Try.f9.params[j]? = some t → args[j]? = some v → Value.okWide Try.prog W .any base t v := hval0
  have hW' := hW
  obtain ⟨p, q, hA0, hV, rfl, _, _⟩ := hW
  have hA : DataW.TrodAll enc Try.prog W 0 (fun _ => true) true Try.f9.params.toList args.toList ds p := hA0
  rw [Try.params9] at hA hval
  obtain ⟨v0, vs0, d0, ds0, p0, q0, hargs, rfl, rfl, h0, r0⟩ := trodAll_cons hA
  obtain ⟨rfl, rfl, rfl⟩ := trodAll_nil r0
  obtain rfl : args = #[v0] := by cases args; simp_all
  obtain ⟨rfl, rfl⟩ := trodVars_none hV
  have k0 := h0
  have lt0 : ∀ x ∈ p0, x.block < W.heap.size := by obtain ⟨m, hm⟩ := k0; exact DataW.trod_lt m _ _ _ hm
  obtain ⟨a0, c0, s0, rfl, f0, g0⟩ := open_codeC (hval 0 22 v0 rfl rfl) h0
  clear hA0 hval0
  refine (fnSeqNone_all a0 c0 s0 W f0 g0).mono fun e W' ⟨he, bel⟩ => ?_
  subst he
  exact ⟨_, rfl, _, _, _, [], _, [], hW', trodAll_mk1 (shut_bool Try.underlying4 _), (trodAll_cons_mk (Below.trod laidOut (by kernel_rfl) (of_decide_eq_true (by kernel_rfl)) k0 bel lt0) trodAll_mk0), rfl, bel.frame _, fun h => by cases h⟩

theorem fnSeqNone_over : Rows.fnSeqNoneRow.holds Try.pinned (OpenSpec.ofChange Rows.fnSeqNoneSpec) :=
  OpenClaim.holds_of_wide 9 Try.f9 rfl rfl rfl rfl rfl rfl rfl ⟨rfl, rfl, rfl, rfl, rfl⟩ rfl rfl rfl rfl rfl (by kernel_rfl) Try.func9 (by kernel_rfl)
    (of_decide_eq_true (by kernel_rfl)) (by unfold Func.isWrapper; first | (rw [if_pos (by decide +kernel)]; kernel_rfl) | (rw [if_neg (by decide +kernel)]; exact ⟨rfl, rfl⟩))
    (fun os started H enc _ => fnSeqNone_lifted os started H enc)

/-- the given statement -/
theorem fnSeqNone_holds : Rows.FnSeqNoneSaid := fnSeqNone_over

end Go.Proofs.Ytaefibefagbheaa
