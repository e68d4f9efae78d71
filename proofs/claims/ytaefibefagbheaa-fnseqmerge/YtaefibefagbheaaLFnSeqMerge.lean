/- Proved here: the law FnSeqMerge answers true at every code, and leaves it as it was; no condition. -/
import Derived.Test.YtaefibefagbheaaWSeqCalls
namespace Go.Proofs.Ytaefibefagbheaa
set_option linter.unusedVariables false
open Go.ChangeShapes Go.WideShapes Go.ChangeAt Go.RowKit

set_option maxRecDepth 100000 in
set_option maxHeartbeats 2000000 in
theorem fnSeqMerge_walk (a0 : Option Addr) (n0 cap0 : Nat) (w : World) (f0 : CodeAt w a0 n0) (hHC : n0 ≤ 1048576) (kHC : n0 ≤ cap0) :
    Calls Try.prog 5 #[.slice a0 n0 cap0] w fun e w' => e = .returned (.bool true) ∧ Below w.heap.size w w' := by
  have HC := Lib.hid f0
  clear f0
  go_enter Try.func5, Try.ntmps5
  go_wp2_with fail
  refine (drawSeqMerge_any _ _ _ _ HC.out hHC kHC).mono ?_
  rintro e w1 ⟨aO, cO, sO, aA, cA, sA, aB0, cB0, sB0, rfl, hO, hA, hB0, hb1⟩
  have B := Lib.hid hb1
  have PO := Lib.hid hO.pts
  have bO := hO.len
  have kO := hO.cap
  have NO := Lib.hid hO.near
  have lO : sO.length ≤ 1048576 := by omega
  have PA := Lib.hid hA.pts
  have bA := hA.len
  have kA := hA.cap
  have NA := Lib.hid hA.near
  have lA : sA.length ≤ 1048576 := by omega
  have PB0 := Lib.hid hB0.pts
  have bB0 := hB0.len
  have kB0 := hB0.cap
  have NB0 := Lib.hid hB0.near
  have lB0 : sB0.length ≤ 1048576 := by omega
  clear hO hA hB0 hb1
  by_cases hf : fewB [sO.length, sA.length, sB0.length] = true
  · obtain ⟨fO, fA, fB⟩ := few3_one hf
    have tO : ¬ (12 : Int) < (sO.length : Int) := by omega
    have tA : ¬ (12 : Int) < (sA.length : Int) := by omega
    have tB0 : ¬ (12 : Int) < (sB0.length : Int) := by omega
    obtain ⟨ml, hm⟩ : ∃ m, (mergedOf sO sA sB0).getD [] = m := ⟨_, rfl⟩
    obtain ⟨ok, hk⟩ : ∃ k, (mergedOf sO sA sB0).isSome = k := ⟨_, rfl⟩
    have lml : ml.length ≤ 1048576 := by rw [← hm]; exact merged_short sO sA sB0
    have HM := Lib.hid hm
    have HK := Lib.hid hk
    have HM2 : Hid ((mergedOf sO sB0 sA).getD [] = ml) := by show _ = _; rw [mergedOf_swap]; exact hm
    have HK2 : Hid ((mergedOf sO sB0 sA).isSome = ok) := by show _ = _; rw [mergedOf_swap]; exact hk
    clear hm hk hf
    have hok : (ok != ok) = false := by simp
    have hok2 : (ok == ok) = true := by simp
    have HX1 : Hid ((mergedOf sO sA sO).getD [] = sA) := by show _ = _; rw [mergedOf_right fO fA]; rfl
    have HY1 : Hid ((mergedOf sO sA sO).isSome = true) := by show _ = _; rw [mergedOf_right fO fA]; rfl
    have HX2 : Hid ((mergedOf sO sO sB0).getD [] = sB0) := by show _ = _; rw [mergedOf_left fO fB]; rfl
    have HY2 : Hid ((mergedOf sO sO sB0).isSome = true) := by show _ = _; rw [mergedOf_left fO fB]; rfl
    have HX3 : Hid ((mergedOf sO sA sA).getD [] = sA) := by show _ = _; rw [mergedOf_alike fO fA]; rfl
    have HY3 : Hid ((mergedOf sO sA sA).isSome = true) := by show _ = _; rw [mergedOf_alike fO fA]; rfl
    go_wp2_with fail
    refine (implMerge ml ok _ _ _ _ _ _ (sO) (sA) (sB0) _ HM.out HK.out PO.out PA.out PB0.out lO lA lB0 kO kA kB0).mono ?_
    rintro e w2 ⟨aX, cX, rfl, h2⟩
    replace B := Lib.hid (B.out.trans (h2.bel.mono B.out.size))
    replace PO := Lib.hid (PO.out.below h2.bel)
    replace PA := Lib.hid (PA.out.below h2.bel)
    replace PB0 := Lib.hid (PB0.out.below h2.bel)
    have PX := Lib.hid h2.pts
    have lX : List.length ml ≤ 1048576 := lml
    clear h2
    go_wp2_with fail
    refine (specMerge ml ok _ _ _ _ _ _ (sO) (sA) (sB0) _ HM.out HK.out PO.out PA.out PB0.out lO lA lB0 kO kA kB0).mono ?_
    rintro e w3 ⟨aY, cY, rfl, h3⟩
    replace B := Lib.hid (B.out.trans (h3.bel.mono B.out.size))
    replace PO := Lib.hid (PO.out.below h3.bel)
    replace PA := Lib.hid (PA.out.below h3.bel)
    replace PB0 := Lib.hid (PB0.out.below h3.bel)
    replace PX := Lib.hid (PX.out.below h3.bel)
    have PY := Lib.hid h3.pts
    have lY : List.length ml ≤ 1048576 := lml
    clear h3
    go_wp2_with fail
    refine (wsSame_any _ _ _ _ _ _ _ PX.out PY.out lX lY).mono ?_
    rintro e w4 ⟨rfl, k4, d4⟩
    have hb4 : Below w3.heap.size w3 w4 := by rw [d4]; exact below_drewN (Below.refl _ _) k4
    clear d4
    replace B := Lib.hid (B.out.trans (hb4.mono B.out.size))
    replace PO := Lib.hid (PO.out.below hb4)
    replace PA := Lib.hid (PA.out.below hb4)
    replace PB0 := Lib.hid (PB0.out.below hb4)
    replace PX := Lib.hid (PX.out.below hb4)
    replace PY := Lib.hid (PY.out.below hb4)
    clear hb4
    rw [ptsEq_one]
    clear PY
    go_wp2_with fail
    refine (implMerge sA true _ _ _ _ _ _ (sO) (sA) (sO) _ HX1.out HY1.out PO.out PA.out PO.out lO lA lO kO kA kO).mono ?_
    rintro e w5 ⟨aP, cP, rfl, h5⟩
    replace B := Lib.hid (B.out.trans (h5.bel.mono B.out.size))
    replace PO := Lib.hid (PO.out.below h5.bel)
    replace PA := Lib.hid (PA.out.below h5.bel)
    replace PB0 := Lib.hid (PB0.out.below h5.bel)
    replace PX := Lib.hid (PX.out.below h5.bel)
    have PP := Lib.hid h5.pts
    have lP : List.length sA ≤ 1048576 := lA
    clear h5
    go_wp2_with fail
    refine (implMerge sB0 true _ _ _ _ _ _ (sO) (sO) (sB0) _ HX2.out HY2.out PO.out PO.out PB0.out lO lO lB0 kO kO kB0).mono ?_
    rintro e w6 ⟨aQ, cQ, rfl, h6⟩
    replace B := Lib.hid (B.out.trans (h6.bel.mono B.out.size))
    replace PO := Lib.hid (PO.out.below h6.bel)
    replace PA := Lib.hid (PA.out.below h6.bel)
    replace PB0 := Lib.hid (PB0.out.below h6.bel)
    replace PX := Lib.hid (PX.out.below h6.bel)
    replace PP := Lib.hid (PP.out.below h6.bel)
    have PQ := Lib.hid h6.pts
    have lQ : List.length sB0 ≤ 1048576 := lB0
    clear h6
    go_wp2_with fail
    refine (implMerge sA true _ _ _ _ _ _ (sO) (sA) (sA) _ HX3.out HY3.out PO.out PA.out PA.out lO lA lA kO kA kA).mono ?_
    rintro e w7 ⟨aR, cR, rfl, h7⟩
    replace B := Lib.hid (B.out.trans (h7.bel.mono B.out.size))
    replace PO := Lib.hid (PO.out.below h7.bel)
    replace PA := Lib.hid (PA.out.below h7.bel)
    replace PB0 := Lib.hid (PB0.out.below h7.bel)
    replace PX := Lib.hid (PX.out.below h7.bel)
    replace PP := Lib.hid (PP.out.below h7.bel)
    replace PQ := Lib.hid (PQ.out.below h7.bel)
    have PR := Lib.hid h7.pts
    have lR : List.length sA ≤ 1048576 := lA
    clear h7
    go_wp2_with fail
    refine (implMerge ml ok _ _ _ _ _ _ (sO) (sB0) (sA) _ HM2.out HK2.out PO.out PB0.out PA.out lO lB0 lA kO kB0 kA).mono ?_
    rintro e w8 ⟨aZ, cZ, rfl, h8⟩
    replace B := Lib.hid (B.out.trans (h8.bel.mono B.out.size))
    replace PO := Lib.hid (PO.out.below h8.bel)
    replace PA := Lib.hid (PA.out.below h8.bel)
    replace PB0 := Lib.hid (PB0.out.below h8.bel)
    replace PX := Lib.hid (PX.out.below h8.bel)
    replace PP := Lib.hid (PP.out.below h8.bel)
    replace PQ := Lib.hid (PQ.out.below h8.bel)
    replace PR := Lib.hid (PR.out.below h8.bel)
    have PZ := Lib.hid h8.pts
    have lZ : List.length ml ≤ 1048576 := lml
    clear h8
    go_wp2_with fail
    refine (wsSame_any _ _ _ _ _ _ _ PP.out PA.out lP lA).mono ?_
    rintro e w9 ⟨rfl, k9, d9⟩
    have hb9 : Below w8.heap.size w8 w9 := by rw [d9]; exact below_drewN (Below.refl _ _) k9
    clear d9
    replace B := Lib.hid (B.out.trans (hb9.mono B.out.size))
    replace PO := Lib.hid (PO.out.below hb9)
    replace PA := Lib.hid (PA.out.below hb9)
    replace PB0 := Lib.hid (PB0.out.below hb9)
    replace PX := Lib.hid (PX.out.below hb9)
    replace PP := Lib.hid (PP.out.below hb9)
    replace PQ := Lib.hid (PQ.out.below hb9)
    replace PR := Lib.hid (PR.out.below hb9)
    replace PZ := Lib.hid (PZ.out.below hb9)
    clear hb9
    rw [ptsEq_one]
    go_wp2_with fail
    refine (wsSame_any _ _ _ _ _ _ _ PQ.out PB0.out lQ lB0).mono ?_
    rintro e w10 ⟨rfl, k10, d10⟩
    have hb10 : Below w9.heap.size w9 w10 := by rw [d10]; exact below_drewN (Below.refl _ _) k10
    clear d10
    replace B := Lib.hid (B.out.trans (hb10.mono B.out.size))
    replace PO := Lib.hid (PO.out.below hb10)
    replace PA := Lib.hid (PA.out.below hb10)
    replace PB0 := Lib.hid (PB0.out.below hb10)
    replace PX := Lib.hid (PX.out.below hb10)
    replace PP := Lib.hid (PP.out.below hb10)
    replace PQ := Lib.hid (PQ.out.below hb10)
    replace PR := Lib.hid (PR.out.below hb10)
    replace PZ := Lib.hid (PZ.out.below hb10)
    clear hb10
    rw [ptsEq_one]
    go_wp2_with fail
    refine (wsSame_any _ _ _ _ _ _ _ PR.out PA.out lR lA).mono ?_
    rintro e w11 ⟨rfl, k11, d11⟩
    have hb11 : Below w10.heap.size w10 w11 := by rw [d11]; exact below_drewN (Below.refl _ _) k11
    clear d11
    replace B := Lib.hid (B.out.trans (hb11.mono B.out.size))
    replace PO := Lib.hid (PO.out.below hb11)
    replace PA := Lib.hid (PA.out.below hb11)
    replace PB0 := Lib.hid (PB0.out.below hb11)
    replace PX := Lib.hid (PX.out.below hb11)
    replace PP := Lib.hid (PP.out.below hb11)
    replace PQ := Lib.hid (PQ.out.below hb11)
    replace PR := Lib.hid (PR.out.below hb11)
    replace PZ := Lib.hid (PZ.out.below hb11)
    clear hb11
    rw [ptsEq_one]
    go_wp2_with fail
    refine (wsSame_any _ _ _ _ _ _ _ PZ.out PX.out lZ lX).mono ?_
    rintro e w12 ⟨rfl, k12, d12⟩
    have hb12 : Below w11.heap.size w11 w12 := by rw [d12]; exact below_drewN (Below.refl _ _) k12
    clear d12
    replace B := Lib.hid (B.out.trans (hb12.mono B.out.size))
    replace PO := Lib.hid (PO.out.below hb12)
    replace PA := Lib.hid (PA.out.below hb12)
    replace PB0 := Lib.hid (PB0.out.below hb12)
    replace PX := Lib.hid (PX.out.below hb12)
    replace PP := Lib.hid (PP.out.below hb12)
    replace PQ := Lib.hid (PQ.out.below hb12)
    replace PR := Lib.hid (PR.out.below hb12)
    replace PZ := Lib.hid (PZ.out.below hb12)
    clear hb12
    rw [ptsEq_one]
    go_wp2
    go_ret
    exact ⟨rfl, B.out⟩
  · have hmany : fewB [sO.length, sA.length, sB0.length] = false := by simpa using hf
    have HM : Hid ((mergedOf sO sA sB0).getD [] = []) := by show _ = _; rw [mergedOf_many hmany]; rfl
    have HK : Hid ((mergedOf sO sA sB0).isSome = false) := by show _ = _; rw [mergedOf_many hmany]; rfl
    have HL : ¬ (sO.length ≤ 12 ∧ sA.length ≤ 12 ∧ sB0.length ≤ 12) := fun h => hf (few3_mk h.1 h.2.1 h.2.2)
    clear hmany hf
    by_cases h1 : sO.length ≤ 12
    · have tO : ¬ (12 : Int) < (sO.length : Int) := by omega
      by_cases h2 : sA.length ≤ 12
      · have tA : ¬ (12 : Int) < (sA.length : Int) := by omega
        have tB0 : (12 : Int) < (sB0.length : Int) := by omega
        go_wp2_with fail
        refine (implMerge ([] : List (Int × Int)) false _ _ _ _ _ _ (sO) (sA) (sB0) _ HM.out HK.out PO.out PA.out PB0.out lO lA lB0 kO kA kB0).mono ?_
        rintro e w2 ⟨aX, cX, rfl, h2⟩
        replace B := Lib.hid (B.out.trans (h2.bel.mono B.out.size))
        replace PO := Lib.hid (PO.out.below h2.bel)
        replace PA := Lib.hid (PA.out.below h2.bel)
        replace PB0 := Lib.hid (PB0.out.below h2.bel)
        have PX := Lib.hid h2.pts
        have lX : List.length ([] : List (Int × Int)) ≤ 1048576 := (Nat.zero_le _)
        clear h2
        go_wp2_with fail
        refine (specMerge ([] : List (Int × Int)) false _ _ _ _ _ _ (sO) (sA) (sB0) _ HM.out HK.out PO.out PA.out PB0.out lO lA lB0 kO kA kB0).mono ?_
        rintro e w3 ⟨aY, cY, rfl, h3⟩
        replace B := Lib.hid (B.out.trans (h3.bel.mono B.out.size))
        replace PO := Lib.hid (PO.out.below h3.bel)
        replace PA := Lib.hid (PA.out.below h3.bel)
        replace PB0 := Lib.hid (PB0.out.below h3.bel)
        replace PX := Lib.hid (PX.out.below h3.bel)
        have PY := Lib.hid h3.pts
        have lY : List.length ([] : List (Int × Int)) ≤ 1048576 := (Nat.zero_le _)
        clear h3
        go_wp2_with fail
        refine (wsSame_any _ _ _ _ _ _ _ PX.out PY.out lX lY).mono ?_
        rintro e w4 ⟨rfl, k4, d4⟩
        have hb4 : Below w3.heap.size w3 w4 := by rw [d4]; exact below_drewN (Below.refl _ _) k4
        clear d4
        replace B := Lib.hid (B.out.trans (hb4.mono B.out.size))
        replace PO := Lib.hid (PO.out.below hb4)
        replace PA := Lib.hid (PA.out.below hb4)
        replace PB0 := Lib.hid (PB0.out.below hb4)
        replace PX := Lib.hid (PX.out.below hb4)
        replace PY := Lib.hid (PY.out.below hb4)
        clear hb4
        rw [ptsEq_one]
        go_wp2
        go_ret
        exact ⟨rfl, B.out⟩
      · have tA : (12 : Int) < (sA.length : Int) := by omega
        go_wp2_with fail
        refine (implMerge ([] : List (Int × Int)) false _ _ _ _ _ _ (sO) (sA) (sB0) _ HM.out HK.out PO.out PA.out PB0.out lO lA lB0 kO kA kB0).mono ?_
        rintro e w2 ⟨aX, cX, rfl, h2⟩
        replace B := Lib.hid (B.out.trans (h2.bel.mono B.out.size))
        replace PO := Lib.hid (PO.out.below h2.bel)
        replace PA := Lib.hid (PA.out.below h2.bel)
        replace PB0 := Lib.hid (PB0.out.below h2.bel)
        have PX := Lib.hid h2.pts
        have lX : List.length ([] : List (Int × Int)) ≤ 1048576 := (Nat.zero_le _)
        clear h2
        go_wp2_with fail
        refine (specMerge ([] : List (Int × Int)) false _ _ _ _ _ _ (sO) (sA) (sB0) _ HM.out HK.out PO.out PA.out PB0.out lO lA lB0 kO kA kB0).mono ?_
        rintro e w3 ⟨aY, cY, rfl, h3⟩
        replace B := Lib.hid (B.out.trans (h3.bel.mono B.out.size))
        replace PO := Lib.hid (PO.out.below h3.bel)
        replace PA := Lib.hid (PA.out.below h3.bel)
        replace PB0 := Lib.hid (PB0.out.below h3.bel)
        replace PX := Lib.hid (PX.out.below h3.bel)
        have PY := Lib.hid h3.pts
        have lY : List.length ([] : List (Int × Int)) ≤ 1048576 := (Nat.zero_le _)
        clear h3
        go_wp2_with fail
        refine (wsSame_any _ _ _ _ _ _ _ PX.out PY.out lX lY).mono ?_
        rintro e w4 ⟨rfl, k4, d4⟩
        have hb4 : Below w3.heap.size w3 w4 := by rw [d4]; exact below_drewN (Below.refl _ _) k4
        clear d4
        replace B := Lib.hid (B.out.trans (hb4.mono B.out.size))
        replace PO := Lib.hid (PO.out.below hb4)
        replace PA := Lib.hid (PA.out.below hb4)
        replace PB0 := Lib.hid (PB0.out.below hb4)
        replace PX := Lib.hid (PX.out.below hb4)
        replace PY := Lib.hid (PY.out.below hb4)
        clear hb4
        rw [ptsEq_one]
        go_wp2
        go_ret
        exact ⟨rfl, B.out⟩
    · have tO : (12 : Int) < (sO.length : Int) := by omega
      go_wp2_with fail
      refine (implMerge ([] : List (Int × Int)) false _ _ _ _ _ _ (sO) (sA) (sB0) _ HM.out HK.out PO.out PA.out PB0.out lO lA lB0 kO kA kB0).mono ?_
      rintro e w2 ⟨aX, cX, rfl, h2⟩
      replace B := Lib.hid (B.out.trans (h2.bel.mono B.out.size))
      replace PO := Lib.hid (PO.out.below h2.bel)
      replace PA := Lib.hid (PA.out.below h2.bel)
      replace PB0 := Lib.hid (PB0.out.below h2.bel)
      have PX := Lib.hid h2.pts
      have lX : List.length ([] : List (Int × Int)) ≤ 1048576 := (Nat.zero_le _)
      clear h2
      go_wp2_with fail
      refine (specMerge ([] : List (Int × Int)) false _ _ _ _ _ _ (sO) (sA) (sB0) _ HM.out HK.out PO.out PA.out PB0.out lO lA lB0 kO kA kB0).mono ?_
      rintro e w3 ⟨aY, cY, rfl, h3⟩
      replace B := Lib.hid (B.out.trans (h3.bel.mono B.out.size))
      replace PO := Lib.hid (PO.out.below h3.bel)
      replace PA := Lib.hid (PA.out.below h3.bel)
      replace PB0 := Lib.hid (PB0.out.below h3.bel)
      replace PX := Lib.hid (PX.out.below h3.bel)
      have PY := Lib.hid h3.pts
      have lY : List.length ([] : List (Int × Int)) ≤ 1048576 := (Nat.zero_le _)
      clear h3
      go_wp2_with fail
      refine (wsSame_any _ _ _ _ _ _ _ PX.out PY.out lX lY).mono ?_
      rintro e w4 ⟨rfl, k4, d4⟩
      have hb4 : Below w3.heap.size w3 w4 := by rw [d4]; exact below_drewN (Below.refl _ _) k4
      clear d4
      replace B := Lib.hid (B.out.trans (hb4.mono B.out.size))
      replace PO := Lib.hid (PO.out.below hb4)
      replace PA := Lib.hid (PA.out.below hb4)
      replace PB0 := Lib.hid (PB0.out.below hb4)
      replace PX := Lib.hid (PX.out.below hb4)
      replace PY := Lib.hid (PY.out.below hb4)
      clear hb4
      rw [ptsEq_one]
      go_wp2
      go_ret
      exact ⟨rfl, B.out⟩

theorem fnSeqMerge_large0 (a0 : Option Addr) (n0 cap0 : Nat) (w : World)  (hn : 1048576 < n0) :
    Calls Try.prog 5 #[.slice a0 n0 cap0] w fun e w' => e = .returned (.bool true) ∧ Below w.heap.size w w' := by
  have hn' : (1048576 : Int) < (n0 : Int) := by omega
  go_enter Try.func5, Try.ntmps5
  go_wp2
  go_ret
  exact ⟨rfl, Below.refl _ _⟩

theorem fnSeqMerge_all (a0 : Option Addr) (n0 cap0 : Nat) (w : World) (f0 : CodeAt w a0 n0) (g0 : n0 ≤ cap0 ∧ n0 ≤ maxLen) :
    Calls Try.prog 5 #[.slice a0 n0 cap0] w fun e w' => e = .returned (.bool true) ∧ Below w.heap.size w w' := by
  by_cases h0 : n0 ≤ 1048576
  · exact fnSeqMerge_walk a0 n0 cap0 w f0 h0 g0.1
  · exact fnSeqMerge_large0 a0 n0 cap0 w (by omega)

set_option maxRecDepth 100000 in
theorem fnSeqMerge_lifted (os : Os) (started : os.Started) (H : Type) (enc : TypeId × Value → H) :
    ReturnsInHanded {} Try.checked os 5 .any (Rows.fnSeqMergeSpec.pre6 enc Try.prog Try.f5 Rows.fnSeqMergeRow.domain false) (Rows.fnSeqMergeSpec.post enc Try.prog Try.f5 false true false false) := by
  refine returnsInHanded_of_change (C := Try.checked) own started (by kernel_rfl) Try.func5
    (ChangeSpec.witness6 (enc := enc) (C := Try.checked) false ⟨#[], #[.slice none 0 0], []⟩ 8 (by kernel_rfl) (by kernel_rfl) (by kernel_rfl) (by kernel_rfl)) ?_
  intro W base args ds gs before hval0 hW _ _
  have hval : ∀ (j : Nat) t v, Try.f5.params[j]? = some t → args[j]? = some v → Value.okWide Try.prog W .any base t v := hval0
  have hW' := hW
  obtain ⟨p, q, hA0, hV, rfl, _, _⟩ := hW
  have hA : DataW.TrodAll enc Try.prog W 0 (fun _ => true) true Try.f5.params.toList args.toList ds p := hA0
  rw [Try.params5] at hA hval
  obtain ⟨v0, vs0, d0, ds0, p0, q0, hargs, rfl, rfl, h0, r0⟩ := trodAll_cons hA
  obtain ⟨rfl, rfl, rfl⟩ := trodAll_nil r0
  obtain rfl : args = #[v0] := by cases args; simp_all
  obtain ⟨rfl, rfl⟩ := trodVars_none hV
  have k0 := h0
  have lt0 : ∀ x ∈ p0, x.block < W.heap.size := by obtain ⟨m, hm⟩ := k0; exact DataW.trod_lt m _ _ _ hm
  obtain ⟨a0, c0, s0, rfl, f0, g0⟩ := open_codeC (hval 0 22 v0 rfl rfl) h0
  clear hA0 hval0
  refine (fnSeqMerge_all a0 c0 s0 W f0 g0).mono fun e W' ⟨he, bel⟩ => ?_
  subst he
  exact ⟨_, rfl, _, _, _, [], _, [], hW', trodAll_mk1 (shut_bool Try.underlying4 _), (trodAll_cons_mk (Below.trod laidOut (by kernel_rfl) (of_decide_eq_true (by kernel_rfl)) k0 bel lt0) trodAll_mk0), rfl, bel.frame _, fun h => by cases h⟩

theorem fnSeqMerge_over : Rows.fnSeqMergeRow.holds Try.pinned (OpenSpec.ofChange Rows.fnSeqMergeSpec) :=
  OpenClaim.holds_of_wide 5 Try.f5 rfl rfl rfl rfl rfl rfl rfl ⟨rfl, rfl, rfl, rfl, rfl⟩ rfl rfl rfl rfl rfl (by kernel_rfl) Try.func5 (by kernel_rfl)
    (of_decide_eq_true (by kernel_rfl)) (by unfold Func.isWrapper; first | (rw [if_pos (by decide +kernel)]; kernel_rfl) | (rw [if_neg (by decide +kernel)]; exact ⟨rfl, rfl⟩))
    (fun os started H enc _ => fnSeqMerge_lifted os started H enc)

/-- the given statement -/
theorem fnSeqMerge_holds : Rows.FnSeqMergeSaid := fnSeqMerge_over

end Go.Proofs.Ytaefibefagbheaa
