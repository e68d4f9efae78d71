/- Proved here: the law FnSeqPairs answers true at every code, and leaves it as it was; no condition. -/
import Derived.Test.YtaefibefagbheaaWSeqCalls
namespace Go.Proofs.Ytaefibefagbheaa
set_option linter.unusedVariables false
open Go.ChangeShapes Go.WideShapes Go.ChangeAt Go.RowKit

theorem zp_at (l : List (Nat × Nat)) (i : Nat) (h : i < l.length) : px (zp l) i = (l[i].1 : Int) ∧ py (zp l) i = (l[i].2 : Int) := by
  simp [px, py, zp, h]

theorem pairs_fit {a b pl : List (Int × Int)} (h : zp (pairsOf a b) = pl) : ∀ i, i < pl.length → ∃ X Y : Nat, px pl i = (X : Int) ∧ py pl i = (Y : Int) ∧ X < a.length ∧ Y < b.length ∧ (px a X, py a X) = (px b Y, py b Y) := by
  subst h
  intro i hi
  rw [zp_len] at hi
  obtain ⟨e1, e2⟩ := zp_at _ i hi
  have hm : (pairsOf a b)[i] ∈ pairsOf a b := List.getElem_mem hi
  generalize (pairsOf a b)[i] = p at e1 e2 hm
  unfold pairsOf at hm
  split at hm
  · obtain ⟨_, _, h1, h2, h3⟩ := prs_fit 0 0 a b p hm
    simp only [Nat.sub_zero] at h1 h2 h3
    exact ⟨p.1, p.2, e1, e2, h1, h2, getD_of h3⟩
  · cases hm

theorem pairs_up {a b pl : List (Int × Int)} (h : zp (pairsOf a b) = pl) : ∀ i, i + 1 < pl.length → px pl i < px pl (i + 1) ∧ py pl i < py pl (i + 1) := by
  subst h
  intro i hi
  rw [zp_len] at hi
  obtain ⟨e1, e2⟩ := zp_at (pairsOf a b) i (by omega)
  obtain ⟨e3, e4⟩ := zp_at (pairsOf a b) (i + 1) hi
  have hu : (pairsOf a b).Pairwise Up2 := by
    unfold pairsOf
    split
    · exact prs_up 0 0 a b
    · exact List.Pairwise.nil
  have := List.pairwise_iff_getElem.1 hu i (i + 1) (by omega) hi (by omega)
  rw [e1, e2, e3, e4]
  unfold Up2 at this
  omega

theorem implLong0 (pa : Option Addr) (ca : Nat) (a : List (Int × Int)) (w : World) (hp : PtsAt w pa a) (hl : a.length ≤ 1048576) :
    Calls Try.prog 17 #[.slice pa a.length ca, .slice none 0 0] w fun e w' => e = .returned (.int .i64 0) ∧ Below w.heap.size w w' := by
  have e : longOf a [] = 0 := by unfold longOf; rw [lcs_nil']; split <;> rfl
  exact implLongN 0 pa none ca 0 a [] w e hp (PtsAt.nil _ _) hl (Nat.zero_le _)

set_option maxRecDepth 100000 in
set_option maxHeartbeats 2000000 in
theorem fnSeqPairs_walk (a0 : Option Addr) (n0 cap0 : Nat) (w : World) (f0 : CodeAt w a0 n0) (hHC : n0 ≤ 1048576) (kHC : n0 ≤ cap0) :
    Calls Try.prog 3 #[.slice a0 n0 cap0] w fun e w' => e = .returned (.bool true) ∧ Below w.heap.size w w' := by
  have HC := Lib.hid f0
  clear f0
  go_enter Try.func3, Try.ntmps3
  go_wp2_with fail
  refine (drawSeqPairs_any _ _ _ _ HC.out hHC kHC).mono ?_
  rintro e w1 ⟨aA, cA, sA, aB0, cB0, sB0, rfl, hA, hB0, hb1⟩
  have B := Lib.hid hb1
  have PA := Lib.hid hA.pts
  have bA := hA.len
  have kA := hA.cap
  have NA := Lib.hid hA.near
  have lA : sA.length ≤ 1048576 := by omega
  have PB0 := Lib.hid hB0.pts
  have bB0 := hB0.len
  have kB0 := hB0.cap
  have NB0 := Lib.hid hB0.near
  have lB0 : sB0.length ≤ 1048576 := by omega
  clear hA hB0 hb1
  obtain ⟨pl, hpl⟩ : ∃ pl, zp (pairsOf sA sB0) = pl := ⟨_, rfl⟩
  have HF := Lib.hid (pairs_fit hpl)
  have HU := Lib.hid (pairs_up hpl)
  have lpl : pl.length ≤ 16 := by rw [← hpl, zp_len]; have := longOf_bd sA sB0; rw [longOf_pairs, zp_len] at this; omega
  have HN : Hid (longOf sA sB0 = (pl.length : Int)) := by show _ = _; rw [longOf_pairs, hpl]
  have HPL := Lib.hid hpl
  clear hpl
  have u1 : ((pl.length : Int) != (pl.length : Int)) = false := by simp
  go_wp2_with fail
  refine (implPairsN pl _ _ _ _ sA sB0 _ HPL.out PA.out PB0.out lA lB0).mono ?_
  rintro e w2 ⟨aP, cP, rfl, h2⟩
  replace B := Lib.hid (B.out.trans (h2.bel.mono B.out.size))
  replace PA := Lib.hid (PA.out.below h2.bel)
  replace PB0 := Lib.hid (PB0.out.below h2.bel)
  have PP := Lib.hid h2.pts
  clear h2
  go_wp2_with fail
  refine (specPairsN pl _ _ _ _ sA sB0 _ HPL.out PA.out PB0.out lA lB0 kA kB0).mono ?_
  rintro e w3 ⟨aQ, cQ, rfl, h3⟩
  replace B := Lib.hid (B.out.trans (h3.bel.mono B.out.size))
  replace PA := Lib.hid (PA.out.below h3.bel)
  replace PB0 := Lib.hid (PB0.out.below h3.bel)
  replace PP := Lib.hid (PP.out.below h3.bel)
  have PQ := Lib.hid h3.pts
  clear h3
  go_wp2_with fail
  refine (implLongN (pl.length : Int) _ _ _ _ (sA) (sB0) _ HN.out PA.out PB0.out lA lB0).mono ?_
  rintro e w4 ⟨rfl, hb4⟩
  replace B := Lib.hid (B.out.trans (hb4.mono B.out.size))
  replace PA := Lib.hid (PA.out.below hb4)
  replace PB0 := Lib.hid (PB0.out.below hb4)
  replace PP := Lib.hid (PP.out.below hb4)
  replace PQ := Lib.hid (PQ.out.below hb4)
  clear hb4
  go_wp2_with fail
  refine (specLongN (pl.length : Int) _ _ _ _ (sA) (sB0) _ HN.out PA.out PB0.out lA lB0).mono ?_
  rintro e w5 ⟨rfl, hb5⟩
  replace B := Lib.hid (B.out.trans (hb5.mono B.out.size))
  replace PA := Lib.hid (PA.out.below hb5)
  replace PB0 := Lib.hid (PB0.out.below hb5)
  replace PP := Lib.hid (PP.out.below hb5)
  replace PQ := Lib.hid (PQ.out.below hb5)
  clear hb5
  go_wp2
  go_loopw [8, 95] (fun i u wr => ∃ j : Nat, j ≤ pl.length ∧ i = .int .i64 j ∧ (j = 0 → u = undef) ∧ Below w5.heap.size w5 wr) (fun i _ _ => pl.length - (intOf i).toNat)
  case atStart => exact ⟨0, Nat.zero_le _, rfl, fun _ => rfl, Below.refl _ _⟩
  case round =>
    obtain ⟨j, hj, rfl, hu0, hbel⟩ := hrel
    replace B := Lib.hid (B.out.trans (hbel.mono B.out.size))
    replace PA := Lib.hid (PA.out.below hbel)
    replace PB0 := Lib.hid (PB0.out.below hbel)
    replace PP := Lib.hid (PP.out.below hbel)
    replace PQ := Lib.hid (PQ.out.below hbel)
    have HB := Lib.hid hbel
    clear hbel
    by_cases hlt : j < pl.length
    · obtain ⟨X, Y, e1, e2, hX, hY, e3⟩ := HF.out j hlt
      obtain ⟨bP, oP, heP, hlP, hc1, hc2⟩ := PP.out j hlt
      obtain ⟨bQ, oQ, heQ, hlQ, hd1, hd2⟩ := PQ.out j hlt
      obtain ⟨bA, oA, heA, hlA, ha1, ha2⟩ := PA.out X hX
      obtain ⟨bB, oB, heB, hlB, hx1, hx2⟩ := PB0.out Y hY
      subst heP heQ heA heB
      rw [e1] at hc1 hd1
      rw [e2] at hc2 hd2
      have n1 := run_pairNeq
      have n2 := run_ptNeq
      have m1 : ptEq ((X : Int), (Y : Int)) ((X : Int), (Y : Int)) = true := by simp [ptEq]
      have m2 : ptEq (px sA X, py sA X) (px sB0 Y, py sB0 Y) = true := by simp only [ptEq, e3, decide_true]
      have hX' : (X : Int) < (sA.length : Int) := by omega
      have hY' : (Y : Int) < (sB0.length : Int) := by omega
      have HE := Lib.hid (And.intro e1 e2)
      clear e3
      by_cases h0 : 0 < j
      · obtain ⟨J, hJ⟩ : ∃ J, j = J + 1 := ⟨j - 1, by omega⟩
        obtain ⟨X', Y', f1, f2, _, _, _⟩ := HF.out J (by omega)
        have hu := HU.out J (by omega)
        rw [← hJ, f1, f2, e1, e2] at hu
        obtain ⟨b1, o1, hw, _, hp1, hp2⟩ := PP.out J (by omega)
        obtain ⟨rfl, rfl⟩ : bP = b1 ∧ oP = o1 := by simpa using hw
        rw [f1] at hp1
        rw [f2] at hp2
        have g1 : IntKind.i64.wrap ((j : Int) - 1) = (J : Int) := by rw [IntWalk.i64_in _ (by omega)]; omega
        have g2 : (J : Int) < (pl.length : Int) := by omega
        have g2n : J < pl.length := by omega
        have g3 : ¬ (X : Int) ≤ (X' : Int) := by omega
        have g4 : ¬ (Y : Int) ≤ (Y' : Int) := by omega
        have g5 : (0 : Int) < (j : Int) := by omega
        have g3n : ¬ X ≤ X' := by omega
        have g4n : ¬ Y ≤ Y' := by omega
        have g3d : decide ((X : Int) ≤ (X' : Int)) = false := decide_eq_false g3
        have g4d : decide ((Y : Int) ≤ (Y' : Int)) = false := decide_eq_false g4
        clear hu f1 f2 hw hJ e1 e2 hu0
        go_wp2
        go_quiet (fail)
        go_wp2
        go_roundw
        case rel => exact ⟨j + 1, by omega, by go_num, fun h => absurd h (Nat.succ_ne_zero _), below_drewN HB.out _⟩
        case measure => simp [intOf]; omega
      · have g5 : ¬ (0 : Int) < (j : Int) := by omega
        clear e1 e2
        obtain rfl := hu0 (by omega)
        clear hu0
        go_wp2
        go_quiet (fail)
        go_wp2
        go_roundw
        case rel => exact ⟨j + 1, by omega, by go_num, fun h => absurd h (Nat.succ_ne_zero _), below_drewN HB.out _⟩
        case measure => simp [intOf]; omega
    · have hge : ¬ (j : Int) < (pl.length : Int) := by omega
      clear HB hlt
      by_cases h12 : sA.length ≤ 12
      · have t1 : (sA.length : Int) ≤ 12 := by omega
        obtain ⟨ql, hql⟩ : ∃ ql, zp (pairsOf sA sA) = ql := ⟨_, rfl⟩
        have e5 : ((ql.length : Int) == (sA.length : Int)) = true := by
          rw [← hql, zp_len, pairsOf_prs h12 h12, prs_len, lcs_self]
          simp
        have HQL := Lib.hid hql
        clear hql
        go_wp2_with fail
        refine (implPairsN ql _ _ _ _ sA sA _ HQL.out PA.out PA.out lA lA).mono ?_
        rintro e w6 ⟨aR, cR, rfl, h6⟩
        replace B := Lib.hid (B.out.trans (h6.bel.mono B.out.size))
        replace PA := Lib.hid (PA.out.below h6.bel)
        replace PB0 := Lib.hid (PB0.out.below h6.bel)
        replace PP := Lib.hid (PP.out.below h6.bel)
        replace PQ := Lib.hid (PQ.out.below h6.bel)
        clear h6
        go_wp2_with fail
        refine (implLong0 _ _ sA _ PA.out lA).mono ?_
        rintro e w7 ⟨rfl, hb7⟩
        replace B := Lib.hid (B.out.trans (hb7.mono B.out.size))
        replace PA := Lib.hid (PA.out.below hb7)
        replace PB0 := Lib.hid (PB0.out.below hb7)
        replace PP := Lib.hid (PP.out.below hb7)
        replace PQ := Lib.hid (PQ.out.below hb7)
        clear hb7
        go_wp2
        go_ret
        exact ⟨rfl, B.out⟩
      · have t1 : ¬ (sA.length : Int) ≤ 12 := by omega
        go_wp2
        go_ret
        exact ⟨rfl, B.out⟩

theorem fnSeqPairs_large0 (a0 : Option Addr) (n0 cap0 : Nat) (w : World)  (hn : 1048576 < n0) :
    Calls Try.prog 3 #[.slice a0 n0 cap0] w fun e w' => e = .returned (.bool true) ∧ Below w.heap.size w w' := by
  have hn' : (1048576 : Int) < (n0 : Int) := by omega
  go_enter Try.func3, Try.ntmps3
  go_wp2
  go_ret
  exact ⟨rfl, Below.refl _ _⟩

theorem fnSeqPairs_all (a0 : Option Addr) (n0 cap0 : Nat) (w : World) (f0 : CodeAt w a0 n0) (g0 : n0 ≤ cap0 ∧ n0 ≤ maxLen) :
    Calls Try.prog 3 #[.slice a0 n0 cap0] w fun e w' => e = .returned (.bool true) ∧ Below w.heap.size w w' := by
  by_cases h0 : n0 ≤ 1048576
  · exact fnSeqPairs_walk a0 n0 cap0 w f0 h0 g0.1
  · exact fnSeqPairs_large0 a0 n0 cap0 w (by omega)

set_option maxRecDepth 100000 in
theorem fnSeqPairs_lifted (os : Os) (started : os.Started) (H : Type) (enc : TypeId × Value → H) :
    ReturnsInHanded {} Try.checked os 3 .any (Rows.fnSeqPairsSpec.pre6 enc Try.prog Try.f3 Rows.fnSeqPairsRow.domain false) (Rows.fnSeqPairsSpec.post enc Try.prog Try.f3 false true false false) := by
  refine returnsInHanded_of_change (C := Try.checked) own started (by kernel_rfl) Try.func3
    (ChangeSpec.witness6 (enc := enc) (C := Try.checked) false ⟨#[], #[.slice none 0 0], []⟩ 8 (by kernel_rfl) (by kernel_rfl) (by kernel_rfl) (by kernel_rfl)) ?_
  intro W base args ds gs before hval0 hW _ _
  have hval : ∀ (j : Nat) t v, Try.f3.params[j]? = some t → args[j]? = some v → Value.okWide Try.prog W .any base t v := hval0
  have hW' := hW
  obtain ⟨p, q, hA0, hV, rfl, _, _⟩ := hW
  have hA : DataW.TrodAll enc Try.prog W 0 (fun _ => true) true Try.f3.params.toList args.toList ds p := hA0
  rw [Try.params3] at hA hval
  obtain ⟨v0, vs0, d0, ds0, p0, q0, hargs, rfl, rfl, h0, r0⟩ := trodAll_cons hA
  obtain ⟨rfl, rfl, rfl⟩ := trodAll_nil r0
  obtain rfl : args = #[v0] := by cases args; simp_all
  obtain ⟨rfl, rfl⟩ := trodVars_none hV
  have k0 := h0
  have lt0 : ∀ x ∈ p0, x.block < W.heap.size := by obtain ⟨m, hm⟩ := k0; exact DataW.trod_lt m _ _ _ hm
  obtain ⟨a0, c0, s0, rfl, f0, g0⟩ := open_codeC (hval 0 22 v0 rfl rfl) h0
  clear hA0 hval0
  refine (fnSeqPairs_all a0 c0 s0 W f0 g0).mono fun e W' ⟨he, bel⟩ => ?_
  subst he
  exact ⟨_, rfl, _, _, _, [], _, [], hW', trodAll_mk1 (shut_bool Try.underlying4 _), (trodAll_cons_mk (Below.trod laidOut (by kernel_rfl) (of_decide_eq_true (by kernel_rfl)) k0 bel lt0) trodAll_mk0), rfl, bel.frame _, fun h => by cases h⟩

theorem fnSeqPairs_over : Rows.fnSeqPairsRow.holds Try.pinned (OpenSpec.ofChange Rows.fnSeqPairsSpec) :=
  OpenClaim.holds_of_wide 3 Try.f3 rfl rfl rfl rfl rfl rfl rfl ⟨rfl, rfl, rfl, rfl, rfl⟩ rfl rfl rfl rfl rfl (by kernel_rfl) Try.func3 (by kernel_rfl)
    (of_decide_eq_true (by kernel_rfl)) (by unfold Func.isWrapper; first | (rw [if_pos (by decide +kernel)]; kernel_rfl) | (rw [if_neg (by decide +kernel)]; exact ⟨rfl, rfl⟩))
    (fun os started H enc _ => fnSeqPairs_lifted os started H enc)

/-- the given statement -/
theorem fnSeqPairs_holds : Rows.FnSeqPairsSaid := fnSeqPairs_over

end Go.Proofs.Ytaefibefagbheaa
