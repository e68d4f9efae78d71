/- Proved here: the law FnExactRepoNew answers true at every name; no condition. -/
import Derived.Test.YtdchfologicbeaaWRepoNew
import Derived.Test.YtdchfologicbeaaWRepoArg
import Derived.Test.YtdchfologicbeaaWProgFactsN
namespace Go.Proofs.Ytdchfologicbeaa
set_option linter.unusedVariables false
open Go.ChangeShapes Go.WideShapes Go.ChangeAt Go.RowKit

set_option maxRecDepth 100000 in
set_option maxHeartbeats 6400000 in
theorem fnExactRepoNew_walk (x : ByteArray) (w : World) (hx : x.size ≤ maxLen) :
    Calls Try.prog 4 #[.string x] w fun e w' => e = .returned (.bool true) ∧ Below w.heap.size w w' := by
  unfold maxLen at hx
  by_cases gx : (x.size : Int) > 1048576
  · go_enter Try.func4, Try.ntmps4
    go_wp2
    go_ret
    exact ⟨rfl, Below.refl _ _⟩
  have hx' : x.size ≤ 1048576 := by omega
  go_enter Try.func4, Try.ntmps4
  go_wp2_with fail
  refine (specRepoNew_any x _ hx').mono ?_
  rintro e w1 (⟨hw, rfl, hb1⟩ | ⟨p1, q1, hw, rfl, hp1, hq1, hlt1, hpq1, hb1⟩)
  · have B1 := Lib.hid hb1
    have z0 := hb1.size
    clear hb1
    have A1 : Hid (∀ o, Below w1.heap.size w1 (w1.alloc o)) := fun o => (Below.refl _ _).alloc (Nat.le_refl _) _
    go_wp2_with fail
    refine (implRepoNew_any x _ hx').mono ?_
    rintro e w2 (⟨_, rfl, hb2⟩ | ⟨p2, q2, hw2, _⟩)
    · have T1 : Hid (Box2 w2 w1.heap.size (.slice none 0 0) (.slice none 0 0)) := (Box2.new w1 _ _ _).later hb2
      have B2 : Hid (Below w.heap.size w w2) := B1.out.trans (((A1.out _).trans (hb2.mono (by simp))).mono B1.out.size)
      clear hb2 B1
      have T2 : Hid (Box2 (w2.alloc (.cells #[.slice none 0 0, .slice none 0 0] 31)) w2.heap.size (.slice none 0 0) (.slice none 0 0)) := Box2.new w2 _ _ _
      have A2 : Hid (∀ o, Below w2.heap.size w2 (w2.alloc o)) := fun o => (Below.refl _ _).alloc (Nat.le_refl _) _
      obtain ⟨zt, c0, c1⟩ := T1.out
      go_wp2_with fail
      refine (eqRepo_any none none none none 0 0 0 0 [] [] [] [] _ ⟨CommitsAt.nil _ _, HeadsAt.nil _ _⟩ ⟨CommitsAt.nil _ _, HeadsAt.nil _ _⟩ ⟨by simp, by simp, fun j h => absurd h (Nat.not_lt_zero _), fun j h => absurd h (Nat.not_lt_zero _)⟩ ⟨by simp, by simp, fun j h => absurd h (Nat.not_lt_zero _), fun j h => absurd h (Nat.not_lt_zero _)⟩).mono ?_
      rintro e w3 ⟨rfl, hb3⟩
      rw [rpEq_refl]
      have hb23 : Below w2.heap.size w2 w3 := (A2.out _).trans (hb3.mono (by simp))
      replace T2 : Hid (Box2 w3 w2.heap.size (.slice none 0 0) (.slice none 0 0)) := T2.out.later hb3
      replace T1 := Lib.hid (T1.out.later hb23)
      have B3 : Hid (Below w.heap.size w w3) := B2.out.trans (hb23.mono B2.out.size)
      clear hb3 hb23 c0 c1 B2 A2
      obtain ⟨_, d0, d1⟩ := T2.out
      go_wp2_with fail
      refine (markRepo0 1 _).mono ?_
      rintro e w4 ⟨rfl, hb4⟩
      replace T2 := Lib.hid (T2.out.later hb4)
      replace T1 := Lib.hid (T1.out.later hb4)
      have B4 : Hid (Below w.heap.size w w4) := B3.out.trans (hb4.mono B3.out.size)
      clear hb4 d0 d1 B3
      obtain ⟨_, d0, d1⟩ := T2.out
      go_wp2_with fail
      refine (heldRepo0 1 _ (by omega)).mono ?_
      rintro e w5 ⟨rfl, hb5⟩
      replace T2 := Lib.hid (T2.out.later hb5)
      replace T1 := Lib.hid (T1.out.later hb5)
      have B5 : Hid (Below w.heap.size w w5) := B4.out.trans (hb5.mono B4.out.size)
      clear hb5 d0 d1 B4
      go_wp2_with fail
      refine (implRepoNew_any x _ hx').mono ?_
      rintro e w6 (⟨_, rfl, hb6⟩ | ⟨p2, q2, hw2, _⟩)
      · replace T2 := Lib.hid (T2.out.later hb6)
        replace T1 := Lib.hid (T1.out.later hb6)
        have B6 : Hid (Below w.heap.size w w6) := B5.out.trans (hb6.mono B5.out.size)
        clear hb6 B5
        have A6 : Hid (∀ o, Below w6.heap.size w6 (w6.alloc o)) := fun o => (Below.refl _ _).alloc (Nat.le_refl _) _
        obtain ⟨zt, c0, c1⟩ := T1.out
        go_wp2_with fail
        refine (eqRepo_any none none none none 0 0 0 0 [] [] [] [] _ ⟨CommitsAt.nil _ _, HeadsAt.nil _ _⟩ ⟨CommitsAt.nil _ _, HeadsAt.nil _ _⟩ ⟨by simp, by simp, fun j h => absurd h (Nat.not_lt_zero _), fun j h => absurd h (Nat.not_lt_zero _)⟩ ⟨by simp, by simp, fun j h => absurd h (Nat.not_lt_zero _), fun j h => absurd h (Nat.not_lt_zero _)⟩).mono ?_
        rintro e w7 ⟨rfl, hb7⟩
        rw [rpEq_refl]
        have hb67 : Below w6.heap.size w6 w7 := (A6.out _).trans (hb7.mono (by simp))
        replace T2 := Lib.hid (T2.out.later hb67)
        have B7 : Hid (Below w.heap.size w w7) := B6.out.trans (hb67.mono B6.out.size)
        clear hb7 hb67 c0 c1 B6 T1
        obtain ⟨_, d0, d1⟩ := T2.out
        go_wp2_with fail
        refine (heldRepo0 1 _ (by omega)).mono ?_
        rintro e w8 ⟨rfl, hb8⟩
        have B8 : Hid (Below w.heap.size w w8) := B7.out.trans (hb8.mono B7.out.size)
        clear hb8 d0 d1 B7 T2
        go_wp2
        go_ret
        exact ⟨rfl, B8.out⟩
      · rw [hw] at hw2; cases hw2
    · rw [hw] at hw2; cases hw2
  · have B1 := Lib.hid hb1
    have z0 := hb1.size
    have P1 := Lib.hid hp1
    have Q1 := Lib.hid hq1
    have zq1 := hq1.lt
    clear hb1 hp1 hq1
    have HW := Lib.hid hw
    clear hw
    have A1 : Hid (∀ o, Below w1.heap.size w1 (w1.alloc o)) := fun o => (Below.refl _ _).alloc (Nat.le_refl _) _
    go_wp2_with fail
    refine (implRepoNew_any x _ hx').mono ?_
    rintro e w2 (⟨hw2, _⟩ | ⟨p2, q2, _, rfl, hp2, hq2, hlt2, hpq2, hb2⟩)
    · rw [HW.out] at hw2; cases hw2
    have hb12 : Below w1.heap.size w1 w2 := (A1.out _).trans (hb2.mono (by simp))
    have T1 : Hid (Box2 w2 w1.heap.size (.slice (some ⟨p1, 0, none⟩) 1 1) (.slice (some ⟨q1, 0, none⟩) 1 1)) := (Box2.new w1 _ _ _).later hb2
    have B2 : Hid (Below w.heap.size w w2) := B1.out.trans (hb12.mono B1.out.size)
    replace P1 := Lib.hid (P1.out.later hb12)
    replace Q1 := Lib.hid (Q1.out.later hb12)
    have P2 := Lib.hid hp2
    have Q2 := Lib.hid hq2
    have zq2 := hq2.lt
    simp only [World.size_alloc] at hlt2
    have z12 := hb12.size
    clear hb2 hb12 B1 hp2 hq2 A1
    have T2 : Hid (Box2 (w2.alloc (.cells #[.slice (some ⟨p2, 0, none⟩) 1 1, .slice (some ⟨q2, 0, none⟩) 1 1] 31)) w2.heap.size (.slice (some ⟨p2, 0, none⟩) 1 1) (.slice (some ⟨q2, 0, none⟩) 1 1)) := Box2.new w2 _ _ _
    have A2 : Hid (∀ o, Below w2.heap.size w2 (w2.alloc o)) := fun o => (Below.refl _ _).alloc (Nat.le_refl _) _
    obtain ⟨zt, c0, c1⟩ := T1.out
    go_wp2_with fail
    refine (eqRepo_any _ _ _ _ 1 1 1 1 csN csN (hsN x) (hsN x) _ (newR_at (P2.out.alloc _) (Q2.out.alloc _)) (newR_at (P1.out.alloc _) (Q1.out.alloc _)) (newR_len x hx') (newR_len x hx')).mono ?_
    rintro e w3 ⟨rfl, hb3⟩
    rw [rpEq_refl]
    have hb23 : Below w2.heap.size w2 w3 := (A2.out _).trans (hb3.mono (by simp))
    replace T2 : Hid (Box2 w3 w2.heap.size (.slice (some ⟨p2, 0, none⟩) 1 1) (.slice (some ⟨q2, 0, none⟩) 1 1)) := T2.out.later hb3
    replace T1 := Lib.hid (T1.out.later hb23)
    replace P1 := Lib.hid (P1.out.later hb23)
    replace Q1 := Lib.hid (Q1.out.later hb23)
    replace P2 := Lib.hid (P2.out.later hb23)
    replace Q2 := Lib.hid (Q2.out.later hb23)
    have B3 : Hid (Below w.heap.size w w3) := B2.out.trans (hb23.mono B2.out.size)
    clear hb3 hb23 c0 c1 B2 A2
    obtain ⟨_, d0, d1⟩ := T2.out
    go_wp2_with fail
    refine (markRepo1 p2 q2 _ _ _ 1 _ P2.out Q2.out hpq2 (by omega) (by omega)).mono ?_
    rintro e w4 ⟨rfl, hk4, hh4, wm, om1, om2⟩
    replace P2 := Lib.hid hk4
    replace Q2 := Lib.hid hh4
    replace T2 := Lib.hid ((T2.out.only om1 (by omega)).only om2 (by omega))
    replace T1 := Lib.hid ((T1.out.only om1 (by omega)).only om2 (by omega))
    replace P1 := Lib.hid ((P1.out.only om1 (by omega)).only om2 (by omega))
    replace Q1 := Lib.hid ((Q1.out.only om1 (by omega)).only om2 (by omega))
    have B4 : Hid (Below w.heap.size w w4) := om2.below (om1.below B3.out (by omega) B3.out.size) (by omega) (Nat.le_trans B3.out.size om1.size)
    clear hk4 hh4 om1 om2 d0 d1 B3
    obtain ⟨_, d0, d1⟩ := T2.out
    go_wp2_with fail
    refine (heldRepo1 p2 q2 1 _ P2.out Q2.out (by omega) (by omega)).mono ?_
    rintro e w5 ⟨rfl, hb5⟩
    replace T2 := Lib.hid (T2.out.later hb5)
    replace T1 := Lib.hid (T1.out.later hb5)
    replace P1 := Lib.hid (P1.out.later hb5)
    replace Q1 := Lib.hid (Q1.out.later hb5)
    replace P2 := Lib.hid (P2.out.later hb5)
    replace Q2 := Lib.hid (Q2.out.later hb5)
    have B5 : Hid (Below w.heap.size w w5) := B4.out.trans (hb5.mono B4.out.size)
    clear hb5 d0 d1 B4
    go_wp2_with fail
    refine (implRepoNew_any x _ hx').mono ?_
    rintro e w6 (⟨hw2, _⟩ | ⟨p3, q3, _, rfl, hp3, hq3, hlt3, hpq3, hb6⟩)
    · rw [HW.out] at hw2; cases hw2
    replace T2 := Lib.hid (T2.out.later hb6)
    replace T1 := Lib.hid (T1.out.later hb6)
    replace P1 := Lib.hid (P1.out.later hb6)
    replace Q1 := Lib.hid (Q1.out.later hb6)
    replace P2 := Lib.hid (P2.out.later hb6)
    replace Q2 := Lib.hid (Q2.out.later hb6)
    have P3 := Lib.hid hp3
    have Q3 := Lib.hid hq3
    have B6 : Hid (Below w.heap.size w w6) := B5.out.trans (hb6.mono B5.out.size)
    clear hb6 B5 hp3 hq3
    have A6 : Hid (∀ o, Below w6.heap.size w6 (w6.alloc o)) := fun o => (Below.refl _ _).alloc (Nat.le_refl _) _
    obtain ⟨zt, c0, c1⟩ := T1.out
    go_wp2_with fail
    refine (eqRepo_any _ _ _ _ 1 1 1 1 csN csN (hsN x) (hsN x) _ (newR_at (P3.out.alloc _) (Q3.out.alloc _)) (newR_at (P1.out.alloc _) (Q1.out.alloc _)) (newR_len x hx') (newR_len x hx')).mono ?_
    rintro e w7 ⟨rfl, hb7⟩
    rw [rpEq_refl]
    have hb67 : Below w6.heap.size w6 w7 := (A6.out _).trans (hb7.mono (by simp))
    replace T2 := Lib.hid (T2.out.later hb67)
    replace P2 := Lib.hid (P2.out.later hb67)
    replace Q2 := Lib.hid (Q2.out.later hb67)
    have B7 : Hid (Below w.heap.size w w7) := B6.out.trans (hb67.mono B6.out.size)
    clear hb7 hb67 c0 c1 B6 T1 A6
    obtain ⟨_, d0, d1⟩ := T2.out
    go_wp2_with fail
    refine (heldRepo1 p2 q2 1 _ P2.out Q2.out (by omega) (by omega)).mono ?_
    rintro e w8 ⟨rfl, hb8⟩
    have B8 : Hid (Below w.heap.size w w8) := B7.out.trans (hb8.mono B7.out.size)
    clear hb8 d0 d1 B7 T2 P2 Q2
    go_wp2
    go_ret
    exact ⟨rfl, B8.out⟩

set_option maxRecDepth 100000 in
theorem fnExactRepoNew_lifted (os : Os) (started : os.Started) (H : Type) (enc : TypeId × Value → H) :
    ReturnsInHanded {} Try.checked os 4 .any (Rows.fnExactRepoNewSpec.pre6 enc Try.prog Try.f4 Rows.fnExactRepoNewRow.domain false) (Rows.fnExactRepoNewSpec.post enc Try.prog Try.f4 false true false false) := by
  refine returnsInHanded_of_change (C := Try.checked) own started (by kernel_rfl) Try.func4
    (ChangeSpec.witness6 (enc := enc) (C := Try.checked) false ⟨#[], #[.string .empty], []⟩ 8 (by kernel_rfl) (by kernel_rfl) (by kernel_rfl) (by kernel_rfl)) ?_
  intro W base args ds gs before hval0 hW _ _
  have hval : ∀ (j : Nat) t v, Try.f4.params[j]? = some t → args[j]? = some v → Value.okWide Try.prog W .any base t v := hval0
  have hW' := hW
  obtain ⟨p, q, hA0, hV, rfl, _, _⟩ := hW
  have hA : DataW.TrodAll enc Try.prog W 0 (fun _ => true) true Try.f4.params.toList args.toList ds p := hA0
  rw [Try.params4] at hA hval
  obtain ⟨v0, vs0, d0, ds0, p0, q0, hargs, rfl, rfl, h0, r0⟩ := trodAll_cons hA
  obtain ⟨rfl, rfl, rfl⟩ := trodAll_nil r0
  obtain rfl : args = #[v0] := by cases args; simp_all
  obtain ⟨rfl, rfl⟩ := trodVars_none hV
  obtain ⟨x0, rfl, rfl, rfl, w0⟩ := Go.ChangeMaps.open_string Try.underlying9 (hval 0 9 v0 rfl rfl) h0
  clear hA0 hval0
  refine (fnExactRepoNew_walk x0 W w0).mono fun e W' ⟨he, bel⟩ => ?_
  subst he
  exact ⟨_, rfl, _, _, _, [], _, [], hW', trodAll_mk1 (shut_bool Try.underlying4 _), (trodAll_cons_mk (Go.ChangeMaps.shut_string Try.underlying9 w0) trodAll_mk0), rfl, bel.frame _, fun h => by cases h⟩

theorem fnExactRepoNew_c1 : (Rows.fnExactRepoNewRow.inPlace == Try.prog.inPlace 4) = true := by kernel_rfl
theorem fnExactRepoNew_c2 : (Rows.fnExactRepoNewRow.unfollowed == Try.prog.unfollowed 4) = true := by kernel_rfl
theorem fnExactRepoNew_c3 : (Rows.fnExactRepoNewRow.recurses == Try.prog.recurses 4) = true := by kernel_rfl
theorem fnExactRepoNew_c4 : (Rows.fnExactRepoNewRow.named == Try.prog.varsNamed 4) = true := by kernel_rfl
theorem fnExactRepoNew_c5 : (Rows.fnExactRepoNewRow.plainKeys == Try.prog.plainKeys) = true := pf_plainKeys
theorem fnExactRepoNew_c6 : (Rows.fnExactRepoNewRow.lifted == Try.prog.liftsFinal) = true := pf_lifted
theorem fnExactRepoNew_c7 : (Try.prog.make == some Rows.fnExactRepoNewRow.make) = true := pf_make
theorem fnExactRepoNew_closed : joinedFacts Try.prog 4 Try.f4 Rows.fnExactRepoNewSpec Rows.fnExactRepoNewRow = true := by
  unfold joinedFacts
  simp only [Bool.and_eq_true]
  repeat' apply And.intro
  all_goals first
    | with_reducible exact laidOut
    | with_reducible exact pf_mapsRowed
    | with_reducible exact pf_mayEnter
    | with_reducible exact pf_stopsHeard
    | with_reducible exact fnExactRepoNew_c1
    | with_reducible exact fnExactRepoNew_c2
    | with_reducible exact fnExactRepoNew_c3
    | with_reducible exact fnExactRepoNew_c4
    | with_reducible exact fnExactRepoNew_c5
    | with_reducible exact fnExactRepoNew_c6
    | with_reducible exact fnExactRepoNew_c7
    | kernel_rfl

theorem fnExactRepoNew_over : Rows.fnExactRepoNewRow.holds Try.pinned (OpenSpec.ofChange Rows.fnExactRepoNewSpec) :=
  OpenClaim.holds_of_wide 4 Try.f4 rfl rfl rfl rfl rfl rfl rfl ⟨rfl, rfl, rfl, rfl, rfl⟩ rfl rfl rfl rfl rfl (by kernel_rfl) Try.func4 fnExactRepoNew_closed
    (of_decide_eq_true (by kernel_rfl)) (by unfold Func.isWrapper; first | (rw [if_pos (by decide +kernel)]; kernel_rfl) | (rw [if_neg (by decide +kernel)]; exact ⟨rfl, rfl⟩))
    (fun os started H enc _ => fnExactRepoNew_lifted os started H enc)

/-- the given statement -/
theorem fnExactRepoNew_holds : Rows.FnExactRepoNewSaid := fnExactRepoNew_over

end Go.Proofs.Ytdchfologicbeaa
