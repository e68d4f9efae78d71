/- Proved here: the law FnSeqTail answers true at every code, and leaves it as it was; no condition. -/
import Derived.Test.YtaefibefagbheaaWSeqApp
namespace Go.Proofs.Ytaefibefagbheaa
set_option linter.unusedVariables false
open Go.ChangeShapes Go.WideShapes Go.ChangeAt Go.RowKit

set_option maxRecDepth 100000 in
set_option maxHeartbeats 2000000 in
theorem fnSeqTail_walk (a0 : Option Addr) (n0 cap0 : Nat) (a1 : Option Addr) (n1 cap1 : Nat) (w : World) (f0 : CodeAt w a0 n0) (hHC : n0 ≤ 1048576) (kHC : n0 ≤ cap0) (f1 : CodeAt w a1 n1) (hHD : n1 ≤ 1048576) (kHD : n1 ≤ cap1) :
    Calls Try.prog 10 #[.slice a0 n0 cap0, .slice a1 n1 cap1] w fun e w' => e = .returned (.bool true) ∧ Below w.heap.size w w' := by
  have HC := Lib.hid f0
  have HD := Lib.hid f1
  clear f0 f1
  go_enter Try.func10, Try.ntmps10
  go_wp2_with fail
  refine (drawSeqPairs_any _ _ _ _ HC.out hHC kHC).mono ?_
  rintro e w1 ⟨aA, cA, sA, aB0, cB0, sB0, rfl, hA, hB0, hb1⟩
  have B := Lib.hid hb1
  have PA := Lib.hid hA.pts
  have bA := hA.len
  have kA := hA.cap
  have NA := Lib.hid hA.near
  have lA : sA.length ≤ 1048576 := by omega
  have PB0 := Lib.hid hB0.pts
  have bB0 := hB0.len
  have kB0 := hB0.cap
  have NB0 := Lib.hid hB0.near
  have lB0 : sB0.length ≤ 1048576 := by omega
  clear hA hB0 hb1
  go_wp2_with fail
  refine (drawSeqLong_any _ _ _ _ (HD.out.below B.out) hHD kHD).mono ?_
  rintro e w2 ⟨aC, cC, sC, aD0, cD0, sD0, rfl, hC, hD0, hb2⟩
  replace B := Lib.hid (B.out.trans (hb2.mono B.out.size))
  replace PA := Lib.hid (PA.out.below hb2)
  replace PB0 := Lib.hid (PB0.out.below hb2)
  have PC := Lib.hid hC.pts
  have bC := hC.len
  have kC := hC.cap
  have NC := Lib.hid hC.near
  have lC : sC.length ≤ 1048576 := by omega
  have PD0 := Lib.hid hD0.pts
  have bD0 := hD0.len
  have kD0 := hD0.cap
  have ND0 := Lib.hid hD0.near
  have lD0 : sD0.length ≤ 1048576 := by omega
  clear hC hD0 hb2
  obtain ⟨n, hn⟩ : ∃ n, longOf sA sB0 = n := ⟨_, rfl⟩
  have hnb : 0 ≤ n ∧ n ≤ 16 := by have := longOf_bd sA sB0; omega
  have HNN := Lib.hid hn
  clear hn
  have u1 : (n != n) = false := by simp
  have u2 : (n == n) = true := by simp
  have x1 : IntKind.i64.wrap ((sA.length : Int) + (sC.length : Int)) = (sA.length : Int) + (sC.length : Int) := IntWalk.i64_in _ (by omega)
  have x2 : IntKind.i64.wrap ((sB0.length : Int) + (sC.length : Int)) = (sB0.length : Int) + (sC.length : Int) := IntWalk.i64_in _ (by omega)
  go_wp2_with fail
  refine (implLongN n _ _ _ _ (sA) (sB0) _ HNN.out PA.out PB0.out lA lB0).mono ?_
  rintro e w3 ⟨rfl, hb3⟩
  replace B := Lib.hid (B.out.trans (hb3.mono B.out.size))
  replace PA := Lib.hid (PA.out.below hb3)
  replace PB0 := Lib.hid (PB0.out.below hb3)
  replace PC := Lib.hid (PC.out.below hb3)
  replace PD0 := Lib.hid (PD0.out.below hb3)
  clear hb3
  by_cases h1 : sA.length + sC.length ≤ 12
  · have t1 : ¬ (12 : Int) < (sA.length : Int) + (sC.length : Int) := by omega
    by_cases h2 : sB0.length + sC.length ≤ 12
    · have t2 : ¬ (12 : Int) < (sB0.length : Int) + (sC.length : Int) := by omega
      go_wp2_with fail
      refine (specLongN n _ _ _ _ (sA) (sB0) _ HNN.out PA.out PB0.out lA lB0).mono ?_
      rintro e w4 ⟨rfl, hb4⟩
      replace B := Lib.hid (B.out.trans (hb4.mono B.out.size))
      replace PA := Lib.hid (PA.out.below hb4)
      replace PB0 := Lib.hid (PB0.out.below hb4)
      replace PC := Lib.hid (PC.out.below hb4)
      replace PD0 := Lib.hid (PD0.out.below hb4)
      clear hb4
      go_upto_region 10 with (at_builtin; first | (have hq := H5.out; refine wpList_growG (by rfl) _ _ (by rfl) hq (PC.out.below hq.bel) (by rfl) (by rfl) rfl (by have := HL5.out; omega) ?_; intro r6 av6 cv6 w6 hr6 H6 G6 N6; clear hq) | (refine wpList_growG (by rfl) _ _ (by rfl) (Grow.litB (Below.refl w4.heap.size w4)) (PA.out.below ((Below.refl _ _).alloc (Nat.le_refl _) _)) (by rfl) (by rfl) rfl (by show 0 + _ ≤ _; omega) ?_; intro r5 av5 cv5 w5 hr5 H5 G5 N5; have HL5 : Hid (r5.length = sA.length) := (by show _ = _; rw [hr5.out]; rfl)))
      have EX : Hid (r6 = sA ++ sC) := by show _ = _; rw [hr6.out, hr5.out]; rfl
      have LX : Hid (r6.length = sA.length + sC.length) := by show _ = _; rw [EX.out, List.length_append]
      have hb6 := H6.out.bel
      replace B := Lib.hid (B.out.trans (hb6.mono B.out.size))
      replace PA := Lib.hid (PA.out.below hb6)
      replace PB0 := Lib.hid (PB0.out.below hb6)
      replace PC := Lib.hid (PC.out.below hb6)
      replace PD0 := Lib.hid (PD0.out.below hb6)
      have PX := Lib.hid H6.out.reads.1
      have kX := H6.out.reads.2
      have lX : r6.length ≤ 1048576 := by have := LX.out; omega
      clear H6 hb6 H5 HL5 hr5 hr6 G5 N5 G6 N6
      go_upto_region 11 with (at_builtin; first | (have hq := H7.out; refine wpList_growG (by rfl) _ _ (by rfl) hq (PC.out.below hq.bel) (by rfl) (by rfl) rfl (by have := HL7.out; omega) ?_; intro r8 av8 cv8 w8 hr8 H8 G8 N8; clear hq) | (refine wpList_growG (by rfl) _ _ (by rfl) (Grow.litB (Below.refl w6.heap.size w6)) (PB0.out.below ((Below.refl _ _).alloc (Nat.le_refl _) _)) (by rfl) (by rfl) rfl (by show 0 + _ ≤ _; omega) ?_; intro r7 av7 cv7 w7 hr7 H7 G7 N7; have HL7 : Hid (r7.length = sB0.length) := (by show _ = _; rw [hr7.out]; rfl)))
      have EY : Hid (r8 = sB0 ++ sC) := by show _ = _; rw [hr8.out, hr7.out]; rfl
      have LY : Hid (r8.length = sB0.length + sC.length) := by show _ = _; rw [EY.out, List.length_append]
      have hb8 := H8.out.bel
      replace B := Lib.hid (B.out.trans (hb8.mono B.out.size))
      replace PA := Lib.hid (PA.out.below hb8)
      replace PB0 := Lib.hid (PB0.out.below hb8)
      replace PC := Lib.hid (PC.out.below hb8)
      replace PD0 := Lib.hid (PD0.out.below hb8)
      replace PX := Lib.hid (PX.out.below hb8)
      have PY := Lib.hid H8.out.reads.1
      have kY := H8.out.reads.2
      have lY : r8.length ≤ 1048576 := by have := LY.out; omega
      clear H8 hb8 H7 HL7 hr7 hr8 G7 N7 G8 N8
      have HQ1 : Hid (longOf r6 r8 = n + (sC.length : Int)) := by
        show _ = _
        rw [EX.out, EY.out, longOf_lcs (by rw [List.length_append]; exact h1) (by rw [List.length_append]; exact h2), lcs_tail, ← HNN.out, longOf_lcs (by omega) (by omega)]
        omega
      have HQ2 : Hid (longOf r6 sA = (sA.length : Int)) := by show _ = _; rw [EX.out, longOf_lcs (by rw [List.length_append]; exact h1) (by omega), lcs_begin]
      obtain ⟨pl, hpl⟩ : ∃ pl, zp (pairsOf sA r6) = pl := ⟨_, rfl⟩
      have HQ3 : ((pl.length : Int) == (sA.length : Int)) = true := by
        rw [← hpl, zp_len, EX.out, pairsOf_prs (by omega) (by rw [List.length_append]; exact h1), prs_len, lcs_comm, lcs_begin]
        simp
      have HPL := Lib.hid hpl
      clear hpl
      have x3 : IntKind.i64.wrap (n + (sC.length : Int)) = n + (sC.length : Int) := IntWalk.i64_in _ (by omega)
      have u3 : (n + (sC.length : Int) == n + (sC.length : Int)) = true := by simp
      have u4 : ((sA.length : Int) == (sA.length : Int)) = true := by simp
      go_wp2_with fail
      refine (implLongN (n + (sC.length : Int)) _ _ _ _ (r6) (r8) _ HQ1.out PX.out PY.out lX lY).mono ?_
      rintro e w9 ⟨rfl, hb9⟩
      replace B := Lib.hid (B.out.trans (hb9.mono B.out.size))
      replace PA := Lib.hid (PA.out.below hb9)
      replace PB0 := Lib.hid (PB0.out.below hb9)
      replace PC := Lib.hid (PC.out.below hb9)
      replace PD0 := Lib.hid (PD0.out.below hb9)
      replace PX := Lib.hid (PX.out.below hb9)
      replace PY := Lib.hid (PY.out.below hb9)
      clear hb9
      go_wp2_with fail
      refine (implLongN (sA.length : Int) _ _ _ _ (r6) (sA) _ HQ2.out PX.out PA.out lX lA).mono ?_
      rintro e w10 ⟨rfl, hb10⟩
      replace B := Lib.hid (B.out.trans (hb10.mono B.out.size))
      replace PA := Lib.hid (PA.out.below hb10)
      replace PB0 := Lib.hid (PB0.out.below hb10)
      replace PC := Lib.hid (PC.out.below hb10)
      replace PD0 := Lib.hid (PD0.out.below hb10)
      replace PX := Lib.hid (PX.out.below hb10)
      replace PY := Lib.hid (PY.out.below hb10)
      clear hb10
      go_wp2_with fail
      refine (implPairsN pl _ _ _ _ sA r6 _ HPL.out PA.out PX.out lA lX).mono ?_
      rintro e w11 ⟨aP, cP, rfl, h11⟩
      replace B := Lib.hid (B.out.trans (h11.bel.mono B.out.size))
      replace PA := Lib.hid (PA.out.below h11.bel)
      replace PB0 := Lib.hid (PB0.out.below h11.bel)
      replace PC := Lib.hid (PC.out.below h11.bel)
      replace PD0 := Lib.hid (PD0.out.below h11.bel)
      replace PX := Lib.hid (PX.out.below h11.bel)
      replace PY := Lib.hid (PY.out.below h11.bel)
      clear h11
      go_wp2
      go_ret
      exact ⟨rfl, B.out⟩
    · have t2 : (12 : Int) < (sB0.length : Int) + (sC.length : Int) := by omega
      go_wp2_with fail
      refine (specLongN n _ _ _ _ (sA) (sB0) _ HNN.out PA.out PB0.out lA lB0).mono ?_
      rintro e w4 ⟨rfl, hb4⟩
      replace B := Lib.hid (B.out.trans (hb4.mono B.out.size))
      replace PA := Lib.hid (PA.out.below hb4)
      replace PB0 := Lib.hid (PB0.out.below hb4)
      replace PC := Lib.hid (PC.out.below hb4)
      replace PD0 := Lib.hid (PD0.out.below hb4)
      clear hb4
      go_wp2_with fail
      refine (specLongN n _ _ _ _ (sA) (sB0) _ HNN.out PA.out PB0.out lA lB0).mono ?_
      rintro e w5 ⟨rfl, hb5⟩
      replace B := Lib.hid (B.out.trans (hb5.mono B.out.size))
      replace PA := Lib.hid (PA.out.below hb5)
      replace PB0 := Lib.hid (PB0.out.below hb5)
      replace PC := Lib.hid (PC.out.below hb5)
      replace PD0 := Lib.hid (PD0.out.below hb5)
      clear hb5
      go_wp2
      go_ret
      exact ⟨rfl, B.out⟩
  · have t1 : (12 : Int) < (sA.length : Int) + (sC.length : Int) := by omega
    go_wp2_with fail
    refine (specLongN n _ _ _ _ (sA) (sB0) _ HNN.out PA.out PB0.out lA lB0).mono ?_
    rintro e w4 ⟨rfl, hb4⟩
    replace B := Lib.hid (B.out.trans (hb4.mono B.out.size))
    replace PA := Lib.hid (PA.out.below hb4)
    replace PB0 := Lib.hid (PB0.out.below hb4)
    replace PC := Lib.hid (PC.out.below hb4)
    replace PD0 := Lib.hid (PD0.out.below hb4)
    clear hb4
    go_wp2_with fail
    refine (specLongN n _ _ _ _ (sA) (sB0) _ HNN.out PA.out PB0.out lA lB0).mono ?_
    rintro e w5 ⟨rfl, hb5⟩
    replace B := Lib.hid (B.out.trans (hb5.mono B.out.size))
    replace PA := Lib.hid (PA.out.below hb5)
    replace PB0 := Lib.hid (PB0.out.below hb5)
    replace PC := Lib.hid (PC.out.below hb5)
    replace PD0 := Lib.hid (PD0.out.below hb5)
    clear hb5
    go_wp2
    go_ret
    exact ⟨rfl, B.out⟩

theorem fnSeqTail_large0 (a0 : Option Addr) (n0 cap0 : Nat) (a1 : Option Addr) (n1 cap1 : Nat) (w : World)  (hn : 1048576 < n0) :
    Calls Try.prog 10 #[.slice a0 n0 cap0, .slice a1 n1 cap1] w fun e w' => e = .returned (.bool true) ∧ Below w.heap.size w w' := by
  have hn' : (1048576 : Int) < (n0 : Int) := by omega
  go_enter Try.func10, Try.ntmps10
  go_wp2
  go_ret
  exact ⟨rfl, Below.refl _ _⟩

theorem fnSeqTail_large1 (a0 : Option Addr) (n0 cap0 : Nat) (a1 : Option Addr) (n1 cap1 : Nat) (w : World) (g0 : n0 ≤ 1048576) (hn : 1048576 < n1) :
    Calls Try.prog 10 #[.slice a0 n0 cap0, .slice a1 n1 cap1] w fun e w' => e = .returned (.bool true) ∧ Below w.heap.size w w' := by
  have hn' : (1048576 : Int) < (n1 : Int) := by omega
  have g0' : ¬ (1048576 : Int) < (n0 : Int) := by omega
  go_enter Try.func10, Try.ntmps10
  go_wp2
  go_ret
  exact ⟨rfl, Below.refl _ _⟩

theorem fnSeqTail_all (a0 : Option Addr) (n0 cap0 : Nat) (a1 : Option Addr) (n1 cap1 : Nat) (w : World) (f0 : CodeAt w a0 n0) (g0 : n0 ≤ cap0 ∧ n0 ≤ maxLen) (f1 : CodeAt w a1 n1) (g1 : n1 ≤ cap1 ∧ n1 ≤ maxLen) :
    Calls Try.prog 10 #[.slice a0 n0 cap0, .slice a1 n1 cap1] w fun e w' => e = .returned (.bool true) ∧ Below w.heap.size w w' := by
  by_cases h0 : n0 ≤ 1048576
  · by_cases h1 : n1 ≤ 1048576
    · exact fnSeqTail_walk a0 n0 cap0 a1 n1 cap1 w f0 h0 g0.1 f1 h1 g1.1
    · exact fnSeqTail_large1 a0 n0 cap0 a1 n1 cap1 w h0 (by omega)
  · exact fnSeqTail_large0 a0 n0 cap0 a1 n1 cap1 w (by omega)

set_option maxRecDepth 100000 in
theorem fnSeqTail_lifted (os : Os) (started : os.Started) (H : Type) (enc : TypeId × Value → H) :
    ReturnsInHanded {} Try.checked os 10 .any (Rows.fnSeqTailSpec.pre6 enc Try.prog Try.f10 Rows.fnSeqTailRow.domain false) (Rows.fnSeqTailSpec.post enc Try.prog Try.f10 false true false false) := by
  refine returnsInHanded_of_change (C := Try.checked) own started (by kernel_rfl) Try.func10
    (ChangeSpec.witness6 (enc := enc) (C := Try.checked) false ⟨#[], #[.slice none 0 0, .slice none 0 0], []⟩ 8 (by kernel_rfl) (by kernel_rfl) (by kernel_rfl) (by kernel_rfl)) ?_
  intro W base args ds gs before hval0 hW _ _
  have hval : ∀ (j : Nat) t v, Try.f10.params[j]? = some t → args[j]? = some v → Value.okWide Try.prog W .any base t v := hval0
  have hW' := hW
  obtain ⟨p, q, hA0, hV, rfl, _, _⟩ := hW
  have hA : DataW.TrodAll enc Try.prog W 0 (fun _ => true) true Try.f10.params.toList args.toList ds p := hA0
  rw [Try.params10] at hA hval
  obtain ⟨v0, vs0, d0, ds0, p0, q0, hargs, rfl, rfl, h0, r0⟩ := trodAll_cons hA
  obtain ⟨v1, vs1, d1, ds1, p1, q1, rfl, rfl, rfl, h1, r1⟩ := trodAll_cons r0
  obtain ⟨rfl, rfl, rfl⟩ := trodAll_nil r1
  obtain rfl : args = #[v0, v1] := by cases args; simp_all
  obtain ⟨rfl, rfl⟩ := trodVars_none hV
  have k0 := h0
  have lt0 : ∀ x ∈ p0, x.block < W.heap.size := by obtain ⟨m, hm⟩ := k0; exact DataW.trod_lt m _ _ _ hm
  obtain ⟨a0, c0, s0, rfl, f0, g0⟩ := open_codeC (hval 0 22 v0 rfl rfl) h0
  have k1 := h1
  have lt1 : ∀ x ∈ p1, x.block < W.heap.size := by obtain ⟨m, hm⟩ := k1; exact DataW.trod_lt m _ _ _ hm
  obtain ⟨a1, c1, s1, rfl, f1, g1⟩ := open_codeC (hval 1 22 v1 rfl rfl) h1
  clear hA0 hval0
  refine (fnSeqTail_all a0 c0 s0 a1 c1 s1 W f0 g0 f1 g1).mono fun e W' ⟨he, bel⟩ => ?_
  subst he
  exact ⟨_, rfl, _, _, _, [], _, [], hW', trodAll_mk1 (shut_bool Try.underlying4 _), (trodAll_cons_mk (Below.trod laidOut (by kernel_rfl) (of_decide_eq_true (by kernel_rfl)) k0 bel lt0) (trodAll_cons_mk (Below.trod laidOut (by kernel_rfl) (of_decide_eq_true (by kernel_rfl)) k1 bel lt1) trodAll_mk0)), rfl, bel.frame _, fun h => by cases h⟩

theorem fnSeqTail_over : Rows.fnSeqTailRow.holds Try.pinned (OpenSpec.ofChange Rows.fnSeqTailSpec) :=
  OpenClaim.holds_of_wide 10 Try.f10 rfl rfl rfl rfl rfl rfl rfl ⟨rfl, rfl, rfl, rfl, rfl⟩ rfl rfl rfl rfl rfl (by kernel_rfl) Try.func10 (by kernel_rfl)
    (of_decide_eq_true (by kernel_rfl)) (by unfold Func.isWrapper; first | (rw [if_pos (by decide +kernel)]; kernel_rfl) | (rw [if_neg (by decide +kernel)]; exact ⟨rfl, rfl⟩))
    (fun os started H enc _ => fnSeqTail_lifted os started H enc)

/-- the given statement -/
theorem fnSeqTail_holds : Rows.FnSeqTailSaid := fnSeqTail_over

end Go.Proofs.Ytaefibefagbheaa
