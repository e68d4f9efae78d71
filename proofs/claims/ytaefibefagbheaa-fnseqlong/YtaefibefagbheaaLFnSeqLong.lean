/- Proved here: the law FnSeqLong answers true at every code, and leaves it as it was; no condition. -/
import Derived.Test.YtaefibefagbheaaWSeqApp
namespace Go.Proofs.Ytaefibefagbheaa
set_option linter.unusedVariables false
open Go.ChangeShapes Go.WideShapes Go.ChangeAt Go.RowKit

theorem PtsAt.cutHi0 {w : World} {a : Option Addr} {ps : List (Int × Int)} {c k : Nat} (h : PtsAt w a ps) (hc : ps.length ≤ c) (hk : k ≤ ps.length) : PtsAt w (cutA a 0 c) (ps.take k) := by
  by_cases h0 : 0 < ps.length
  · obtain ⟨b, off, rfl, _⟩ := h 0 h0
    rw [cutA_zero _ _ (fun x e => ⟨b, off, by simpa using e.symm⟩)]
    exact h.cutHi k
  · intro i hi
    rw [List.length_take] at hi
    omega

set_option maxRecDepth 100000 in
set_option maxHeartbeats 2000000 in
theorem fnSeqLong_walk (a0 : Option Addr) (n0 cap0 : Nat) (a1 : Option Addr) (n1 cap1 : Nat) (w : World) (f0 : CodeAt w a0 n0) (hHC : n0 ≤ 1048576) (kHC : n0 ≤ cap0) (f1 : CodeAt w a1 n1) (hHD : n1 ≤ 1048576) (kHD : n1 ≤ cap1) :
    Calls Try.prog 4 #[.slice a0 n0 cap0, .slice a1 n1 cap1] w fun e w' => e = .returned (.bool true) ∧ Below w.heap.size w w' := by
  have HC := Lib.hid f0
  have HD := Lib.hid f1
  clear f0 f1
  go_enter Try.func4, Try.ntmps4
  have h1D : (n1 : Int) ≤ 1048576 := by omega
  go_wp2_with fail
  refine (drawSeqLong_any _ _ _ _ HC.out hHC kHC).mono ?_
  rintro e w1 ⟨aA, cA, sA, aB0, cB0, sB0, rfl, hA, hB0, hb1⟩
  have B := Lib.hid hb1
  have PA := Lib.hid hA.pts
  have bA := hA.len
  have kA := hA.cap
  have NA := Lib.hid hA.near
  have lA : sA.length ≤ 1048576 := by omega
  have PB0 := Lib.hid hB0.pts
  have bB0 := hB0.len
  have kB0 := hB0.cap
  have NB0 := Lib.hid hB0.near
  have lB0 : sB0.length ≤ 1048576 := by omega
  clear hA hB0 hb1
  obtain ⟨n, hn⟩ : ∃ n, longOf sA sB0 = n := ⟨_, rfl⟩
  have hnb : 0 ≤ n ∧ n ≤ sA.length ∧ n ≤ sB0.length := by have := longOf_bd sA sB0; omega
  have HN1 := Lib.hid hn
  have HN2 : Hid (longOf sB0 sA = n) := by show _ = _; rw [longOf_comm]; exact hn
  clear hn
  have u1 : (n != n) = false := by simp
  have v1 : ¬ n < 0 := by omega
  have v2 : ¬ (sA.length : Int) < n := by omega
  have v3 : ¬ (sB0.length : Int) < n := by omega
  go_wp2_with fail
  refine (implLongN n _ _ _ _ (sA) (sB0) _ HN1.out PA.out PB0.out lA lB0).mono ?_
  rintro e w2 ⟨rfl, hb2⟩
  replace B := Lib.hid (B.out.trans (hb2.mono B.out.size))
  replace PA := Lib.hid (PA.out.below hb2)
  replace PB0 := Lib.hid (PB0.out.below hb2)
  clear hb2
  go_wp2_with fail
  refine (specLongN n _ _ _ _ (sA) (sB0) _ HN1.out PA.out PB0.out lA lB0).mono ?_
  rintro e w3 ⟨rfl, hb3⟩
  replace B := Lib.hid (B.out.trans (hb3.mono B.out.size))
  replace PA := Lib.hid (PA.out.below hb3)
  replace PB0 := Lib.hid (PB0.out.below hb3)
  clear hb3
  go_wp2_with fail
  refine (implLongN n _ _ _ _ (sB0) (sA) _ HN2.out PB0.out PA.out lB0 lA).mono ?_
  rintro e w4 ⟨rfl, hb4⟩
  replace B := Lib.hid (B.out.trans (hb4.mono B.out.size))
  replace PA := Lib.hid (PA.out.below hb4)
  replace PB0 := Lib.hid (PB0.out.below hb4)
  clear hb4
  by_cases h1 : sA.length < 12
  · have t1 : ¬ (12 : Int) ≤ (sA.length : Int) := by omega
    by_cases h2 : sB0.length ≤ 12
    · have t2 : ¬ (12 : Int) < (sB0.length : Int) := by omega
      obtain ⟨K, hK⟩ : ∃ K, n1 % (sA.length + 1) = K := ⟨_, rfl⟩
      have hKl : K ≤ sA.length := by have := Nat.mod_lt n1 (show 0 < sA.length + 1 by omega); omega
      have r1 : IntKind.i64.wrap ((sA.length : Int) + 1) = (sA.length : Int) + 1 := IntWalk.i64_in _ (by omega)
      have r2 : ((n1 : Int)).tmod ((sA.length : Int) + 1) = (K : Int) := by rw [Int.tmod_eq_emod_of_nonneg (by omega), ← hK]; simp
      have r3 : ¬ (sA.length : Int) + 1 = 0 := by omega
      have r4 : IntKind.i64.wrap (K : Int) = (K : Int) := IntWalk.i64_in _ (by omega)
      clear hK
      go_upto_region 10 with (fail)
      have s1 := fun u => run_cutHi u aA sA.length cA K (K : Int) rfl (by omega)
      have s2 := fun u => run_cutLo u aA sA.length cA K (K : Int) rfl hKl
      have PH := Lib.hid (PA.out.cutHi0 kA hKl)
      have htl : (sA.take K).length = K := by rw [List.length_take]; omega
      go_region_law? (first
        | (have hq := H2.out; refine step_growG (by rfl) _ _ (by rfl) hq ((PA.out.cutLo kA K).below hq.bel) (by rfl) (by rfl) (by rw [List.length_drop]) (by have := L2.out; rw [List.length_drop]; omega) ?_; intro r3 av3 cv3 W3 hr3 H3 G3 N3; clear hq)
        | (have hq := HP1.out; refine step_growG (by rfl) _ _ (by rfl) H1.out hq (by rfl) (by rfl) rfl (by have := L1.out; show _ + 1 ≤ _; omega) ?_; intro r2 av2 cv2 W2 hr2 H2 G2 N2; have E2 : Hid (r2 = sA.take K ++ [((1 : Int), (1 : Int))]) := (by show _ = _; rw [hr2.out, E1.out]); have L2 : Hid (r2.length = K + 1) := (by show _ = _; rw [E2.out, List.length_append, htl]; rfl); clear hq)
        | (have hq := H1.out; refine step_growG (by rfl) _ _ (by rfl) (hq.alloc _) (pts_one W1 1 1 _) (by rfl) (by rfl) rfl (by have := L1.out; show _ + 1 ≤ _; omega) ?_; intro r2 av2 cv2 W2 hr2 H2 G2 N2; have E2 : Hid (r2 = sA.take K ++ [((1 : Int), (1 : Int))]) := (by show _ = _; rw [hr2.out, E1.out]); have L2 : Hid (r2.length = K + 1) := (by show _ = _; rw [E2.out, List.length_append, htl]; rfl); clear hq)
        | (refine step_growG (by rfl) _ _ (by rfl) (Grow.litB (Below.refl w4.heap.size w4)).dr1 (PH.out.below (below_drewN ((Below.refl w4.heap.size w4).alloc (Nat.le_refl _) (.cells #[] 32)) 1)) (by rfl) (by rfl) htl.symm (by show 0 + _ ≤ _; rw [htl]; omega) ?_; intro r1 av1 cv1 W1 hr1 H1 G1 N1; have E1 : Hid (r1 = sA.take K) := (by show _ = _; rw [hr1.out]; rfl); have L1 : Hid (r1.length = K) := (by show _ = _; rw [E1.out]; exact htl); skip)
        | (refine step_growG (by rfl) _ _ (by rfl) ((Grow.litB (Below.refl w4.heap.size w4)).alloc (.cells #[.int .i64 1, .int .i64 1] 32)).dr1 (PH.out.below (below_drewN (((Below.refl w4.heap.size w4).alloc (Nat.le_refl _) (.cells #[] 32)).alloc (by simp) (.cells #[.int .i64 1, .int .i64 1] 32)) 1)) (by rfl) (by rfl) htl.symm (by show 0 + _ ≤ _; rw [htl]; omega) ?_; intro r1 av1 cv1 W1 hr1 H1 G1 N1; have E1 : Hid (r1 = sA.take K) := (by show _ = _; rw [hr1.out]; rfl); have L1 : Hid (r1.length = K) := (by show _ = _; rw [E1.out]; exact htl); have HP1 := Lib.hid (((pts_oneN (w4.alloc (.cells #[] 32)) 1 1 32 (w4.heap.size + 1) (World.size_alloc _ _)).dr1).past G1.out (fun j e e2 => by simp [blk, Value.ownBlock] at e e2; omega)))
        | (refine step_growG (by rfl) _ _ (by rfl) (Grow.litN ((Below.refl w4.heap.size w4).alloc (Nat.le_refl _) (.cells #[.int .i64 1, .int .i64 1] 32)) (w4.heap.size + 1) (World.size_alloc _ _)).dr1 (PH.out.below (below_drewN (((Below.refl w4.heap.size w4).alloc (Nat.le_refl _) (.cells #[.int .i64 1, .int .i64 1] 32)).alloc (by simp) (.cells #[] 32)) 1)) (by rfl) (by rfl) htl.symm (by show 0 + _ ≤ _; rw [htl]; omega) ?_; intro r1 av1 cv1 W1 hr1 H1 G1 N1; have E1 : Hid (r1 = sA.take K) := (by show _ = _; rw [hr1.out]; rfl); have L1 : Hid (r1.length = K) := (by show _ = _; rw [E1.out]; exact htl); have HP1 := Lib.hid ((((pts_one w4 1 1 32).below ((Below.refl _ _).alloc (Nat.le_refl _) (.cells #[] 32))).dr1).past G1.out (fun j e e2 => by simp [blk, Value.ownBlock] at e e2; omega))))
      all_goals
        have E3 : Hid (r3 = sA.take K ++ ((1 : Int), (1 : Int)) :: sA.drop K) := by show _ = _; rw [hr3.out, E2.out]; simp
        have L3 : Hid (r3.length = sA.length + 1) := by show _ = _; rw [E3.out, List.length_append, List.length_cons, htl, List.length_drop]; omega
        have hb3 := H3.out.bel
        replace B := Lib.hid (B.out.trans (hb3.mono B.out.size))
        replace PA := Lib.hid (PA.out.below hb3)
        replace PB0 := Lib.hid (PB0.out.below hb3)
        have PX := Lib.hid H3.out.reads.1
        have kX := H3.out.reads.2
        have lX : r3.length ≤ 1048576 := by have := L3.out; omega
        clear H1 H2 H3 G1 G2 G3 N1 N2 N3 hr1 hr2 hr3 E1 E2 L1 L2 hb3 PH s1 s2
        obtain ⟨q, hq⟩ : ∃ q, longOf r3 sB0 = q := ⟨_, rfl⟩
        have hqb : n ≤ q ∧ q ≤ n + 1 := by
          have hm := lcs_mid (1, 1) (sA.take K) (sA.drop K) sB0
          rw [List.take_append_drop, ← E3.out] at hm
          have e1 : longOf r3 sB0 = (lcs r3 sB0 : Nat) := longOf_lcs (by have := L3.out; omega) h2
          have e2 : longOf sA sB0 = (lcs sA sB0 : Nat) := longOf_lcs (by omega) h2
          rw [HN1.out] at e2
          rw [hq] at e1
          omega
        have HQ := Lib.hid hq
        clear hq
        go_wp2_with fail
        refine (implLongN q _ _ _ _ (r3) (sB0) _ HQ.out PX.out PB0.out lX lB0).mono ?_
        rintro e w5 ⟨rfl, hb5⟩
        replace B := Lib.hid (B.out.trans (hb5.mono B.out.size))
        replace PA := Lib.hid (PA.out.below hb5)
        replace PB0 := Lib.hid (PB0.out.below hb5)
        replace PX := Lib.hid (PX.out.below hb5)
        clear hb5
        go_upto_region 13 with (at_builtin; first | (have hq := H6.out; refine wpList_growG (by rfl) _ _ (by rfl) hq (PB0.out.below hq.bel) (by rfl) (by rfl) rfl (by have := HL6.out; rw [this]; show 1 + _ ≤ _; omega) ?_; intro r7 av7 cv7 w7 hr7 H7 G7 N7; clear hq) | (refine wpList_growG (by rfl) _ _ (by rfl) ((Grow.litB (Below.refl w5.heap.size w5)).alloc (.cells #[.int .i64 9, .int .i64 9] 32)) (pts_oneN (w5.alloc (.cells #[] 32)) 9 9 32 (w5.heap.size + 1) (World.size_alloc _ _)) (by rfl) (by rfl) rfl (by show 0 + 1 ≤ _; omega) ?_; intro r6 av6 cv6 w6 hr6 H6 G6 N6; have HL6 : Hid (r6 = [((9 : Int), (9 : Int))]) := (by show _ = _; rw [hr6.out]; rfl)))
        have EY : Hid (r7 = ((9 : Int), (9 : Int)) :: sB0) := by show _ = _; rw [hr7.out, HL6.out]; rfl
        have LY : Hid (r7.length = sB0.length + 1) := by show _ = _; rw [EY.out]; rfl
        have hb7 := H7.out.bel
        replace B := Lib.hid (B.out.trans (hb7.mono B.out.size))
        replace PA := Lib.hid (PA.out.below hb7)
        replace PB0 := Lib.hid (PB0.out.below hb7)
        replace PX := Lib.hid (PX.out.below hb7)
        have PY := Lib.hid H7.out.reads.1
        have lY : r7.length ≤ 1048576 := by have := LY.out; omega
        clear H6 H7 G6 G7 N6 N7 hr6 hr7 HL6 hb7
        have y1 : n ≤ q := hqb.1
        have y2 : q ≤ n + 1 := hqb.2
        have y3 : IntKind.i64.wrap (n + 1) = n + 1 := IntWalk.i64_in _ (by omega)
        by_cases h3 : sB0.length < 12
        · have t3 : ¬ (12 : Int) ≤ (sB0.length : Int) := by omega
          go_wp2_with (at_builtin; refine wpList_growG (by rfl) _ _ (by rfl) (Grow.oneB (Below.refl w7.heap.size w7) 9 9) (PA.out.below ((Below.refl _ _).alloc (Nat.le_refl _) _)) (by rfl) (by rfl) rfl (by show 1 + _ ≤ _; omega) ?_; intro r8 av8 cv8 w8 hr8 H8 G8 N8)
          have EZ : Hid (r8 = ((9 : Int), (9 : Int)) :: sA) := by show _ = _; rw [hr8.out]; rfl
          have LZ : Hid (r8.length = sA.length + 1) := by show _ = _; rw [EZ.out]; rfl
          have hb8 := H8.out.bel
          replace B := Lib.hid (B.out.trans (hb8.mono B.out.size))
          replace PA := Lib.hid (PA.out.below hb8)
          replace PB0 := Lib.hid (PB0.out.below hb8)
          replace PX := Lib.hid (PX.out.below hb8)
          replace PY := Lib.hid (PY.out.below hb8)
          have PZ := Lib.hid H8.out.reads.1
          have lZ : r8.length ≤ 1048576 := by have := LZ.out; omega
          have HQ2 : Hid (longOf r8 r7 = n + 1) := by
            show _ = _
            have e2 : longOf sA sB0 = (lcs sA sB0 : Nat) := longOf_lcs (by omega) h2
            rw [HN1.out] at e2
            rw [longOf_lcs (by have := LZ.out; omega) (by have := LY.out; omega), EZ.out, EY.out, lcs_cons, if_pos rfl, e2]
            simp
          clear H8 G8 N8 hr8 hb8
          have u5 : (n + 1 == n + 1) = true := by simp
          go_wp2_with fail
          refine (implLongN (n + 1) _ _ _ _ (r8) (r7) _ HQ2.out PZ.out PY.out lZ lY).mono ?_
          rintro e w9 ⟨rfl, hb9⟩
          replace B := Lib.hid (B.out.trans (hb9.mono B.out.size))
          replace PA := Lib.hid (PA.out.below hb9)
          replace PB0 := Lib.hid (PB0.out.below hb9)
          replace PX := Lib.hid (PX.out.below hb9)
          replace PY := Lib.hid (PY.out.below hb9)
          replace PZ := Lib.hid (PZ.out.below hb9)
          clear hb9
          go_wp2
          go_ret
          exact ⟨rfl, B.out⟩
        · have t3 : (12 : Int) ≤ (sB0.length : Int) := by omega
          go_wp2
          go_ret
          exact ⟨rfl, B.out⟩
    · have t2 : (12 : Int) < (sB0.length : Int) := by omega
      go_wp2
      go_ret
      exact ⟨rfl, B.out⟩
  · have t1 : (12 : Int) ≤ (sA.length : Int) := by omega
    go_wp2
    go_ret
    exact ⟨rfl, B.out⟩

theorem fnSeqLong_large0 (a0 : Option Addr) (n0 cap0 : Nat) (a1 : Option Addr) (n1 cap1 : Nat) (w : World)  (hn : 1048576 < n0) :
    Calls Try.prog 4 #[.slice a0 n0 cap0, .slice a1 n1 cap1] w fun e w' => e = .returned (.bool true) ∧ Below w.heap.size w w' := by
  have hn' : (1048576 : Int) < (n0 : Int) := by omega
  go_enter Try.func4, Try.ntmps4
  go_wp2
  go_ret
  exact ⟨rfl, Below.refl _ _⟩

theorem fnSeqLong_large1 (a0 : Option Addr) (n0 cap0 : Nat) (a1 : Option Addr) (n1 cap1 : Nat) (w : World) (g0 : n0 ≤ 1048576) (hn : 1048576 < n1) :
    Calls Try.prog 4 #[.slice a0 n0 cap0, .slice a1 n1 cap1] w fun e w' => e = .returned (.bool true) ∧ Below w.heap.size w w' := by
  have hn' : (1048576 : Int) < (n1 : Int) := by omega
  have g0' : ¬ (1048576 : Int) < (n0 : Int) := by omega
  go_enter Try.func4, Try.ntmps4
  go_wp2
  go_ret
  exact ⟨rfl, Below.refl _ _⟩

theorem fnSeqLong_all (a0 : Option Addr) (n0 cap0 : Nat) (a1 : Option Addr) (n1 cap1 : Nat) (w : World) (f0 : CodeAt w a0 n0) (g0 : n0 ≤ cap0 ∧ n0 ≤ maxLen) (f1 : CodeAt w a1 n1) (g1 : n1 ≤ cap1 ∧ n1 ≤ maxLen) :
    Calls Try.prog 4 #[.slice a0 n0 cap0, .slice a1 n1 cap1] w fun e w' => e = .returned (.bool true) ∧ Below w.heap.size w w' := by
  by_cases h0 : n0 ≤ 1048576
  · by_cases h1 : n1 ≤ 1048576
    · exact fnSeqLong_walk a0 n0 cap0 a1 n1 cap1 w f0 h0 g0.1 f1 h1 g1.1
    · exact fnSeqLong_large1 a0 n0 cap0 a1 n1 cap1 w h0 (by omega)
  · exact fnSeqLong_large0 a0 n0 cap0 a1 n1 cap1 w (by omega)

set_option maxRecDepth 100000 in
theorem fnSeqLong_lifted (os : Os) (started : os.Started) (H : Type) (enc : TypeId × Value → H) :
    ReturnsInHanded {} Try.checked os 4 .any (Rows.fnSeqLongSpec.pre6 enc Try.prog Try.f4 Rows.fnSeqLongRow.domain false) (Rows.fnSeqLongSpec.post enc Try.prog Try.f4 false true false false) := by
  refine returnsInHanded_of_change (C := Try.checked) own started (by kernel_rfl) Try.func4
    (ChangeSpec.witness6 (enc := enc) (C := Try.checked) false ⟨#[], #[.slice none 0 0, .slice none 0 0], []⟩ 8 (by kernel_rfl) (by kernel_rfl) (by kernel_rfl) (by kernel_rfl)) ?_
  intro W base args ds gs before hval0 hW _ _
  have hval : ∀ (j : Nat) t v, Try.f4.params[j]? = some t → args[j]? = some v → Value.okWide Try.prog W .any base t v := hval0
  have hW' := hW
  obtain ⟨p, q, hA0, hV, rfl, _, _⟩ := hW
  have hA : DataW.TrodAll enc Try.prog W 0 (fun _ => true) true Try.f4.params.toList args.toList ds p := hA0
  rw [Try.params4] at hA hval
  obtain ⟨v0, vs0, d0, ds0, p0, q0, hargs, rfl, rfl, h0, r0⟩ := trodAll_cons hA
  obtain ⟨v1, vs1, d1, ds1, p1, q1, rfl, rfl, rfl, h1, r1⟩ := trodAll_cons r0
  obtain ⟨rfl, rfl, rfl⟩ := trodAll_nil r1
  obtain rfl : args = #[v0, v1] := by cases args; simp_all
  obtain ⟨rfl, rfl⟩ := trodVars_none hV
  have k0 := h0
  have lt0 : ∀ x ∈ p0, x.block < W.heap.size := by obtain ⟨m, hm⟩ := k0; exact DataW.trod_lt m _ _ _ hm
  obtain ⟨a0, c0, s0, rfl, f0, g0⟩ := open_codeC (hval 0 22 v0 rfl rfl) h0
  have k1 := h1
  have lt1 : ∀ x ∈ p1, x.block < W.heap.size := by obtain ⟨m, hm⟩ := k1; exact DataW.trod_lt m _ _ _ hm
  obtain ⟨a1, c1, s1, rfl, f1, g1⟩ := open_codeC (hval 1 22 v1 rfl rfl) h1
  clear hA0 hval0
  refine (fnSeqLong_all a0 c0 s0 a1 c1 s1 W f0 g0 f1 g1).mono fun e W' ⟨he, bel⟩ => ?_
  subst he
  exact ⟨_, rfl, _, _, _, [], _, [], hW', trodAll_mk1 (shut_bool Try.underlying4 _), (trodAll_cons_mk (Below.trod laidOut (by kernel_rfl) (of_decide_eq_true (by kernel_rfl)) k0 bel lt0) (trodAll_cons_mk (Below.trod laidOut (by kernel_rfl) (of_decide_eq_true (by kernel_rfl)) k1 bel lt1) trodAll_mk0)), rfl, bel.frame _, fun h => by cases h⟩

theorem fnSeqLong_over : Rows.fnSeqLongRow.holds Try.pinned (OpenSpec.ofChange Rows.fnSeqLongSpec) :=
  OpenClaim.holds_of_wide 4 Try.f4 rfl rfl rfl rfl rfl rfl rfl ⟨rfl, rfl, rfl, rfl, rfl⟩ rfl rfl rfl rfl rfl (by kernel_rfl) Try.func4 (by kernel_rfl)
    (of_decide_eq_true (by kernel_rfl)) (by unfold Func.isWrapper; first | (rw [if_pos (by decide +kernel)]; kernel_rfl) | (rw [if_neg (by decide +kernel)]; exact ⟨rfl, rfl⟩))
    (fun os started H enc _ => fnSeqLong_lifted os started H enc)

/-- the given statement -/
theorem fnSeqLong_holds : Rows.FnSeqLongSaid := fnSeqLong_over

end Go.Proofs.Ytaefibefagbheaa
