/- Proved here: the law FnExactSeqLong answers true at every two rows of points, and leaves them as they were; no condition. -/
import Derived.Test.YtaefibefagbheaaWSeqLongS
import Derived.Test.YtaefibefagbheaaWEq
import Derived.Test.YtaefibefagbheaaWShape
import Derived.Test.YtaefibefagbheaaWArg
namespace Go.Proofs.Ytaefibefagbheaa
set_option linter.unusedVariables false
open Go.ChangeShapes Go.WideShapes Go.ChangeAt Go.RowKit

/-- a row of points of the laws that came in -/
theorem open_ptsT {H : Type} {enc : TypeId × Value → H} {W : World} {r : Reach} {b0 base : Nat} {spare : Nat → Bool} {held : Bool} {v : Value} {d : DataW H} {p : List MemPlace}
    (hv : Value.okWide Try.prog W r b0 41 v) (h : DataW.Trod enc Try.prog W base spare held 41 v d p) :
    ∃ (a : Option Addr) (cap : Nat) (ps : List (Int × Int)), v = .slice a ps.length cap ∧ PtsAt W a ps ∧ ps.length ≤ maxLen := by
  obtain ⟨a0, len, cap, rfl⟩ := okWide_slice Try.underlying41 hv
  obtain ⟨fuel, hf⟩ := h
  exact open_pts hf

set_option maxRecDepth 100000 in
set_option maxHeartbeats 3200000 in
theorem fnSeqLong_walk (a a' : Option Addr) (cap cap' : Nat) (ps qs : List (Int × Int)) (w : World) (hp : PtsAt w a ps) (hq : PtsAt w a' qs) (hsum : ps.length + qs.length ≤ 1048576) :
    Calls Try.prog 12 #[.slice a ps.length cap, .slice a' qs.length cap'] w fun e w' => e = .returned (.bool true) ∧ Below w.heap.size w w' := by
  have HP := Lib.hid hp
  have HQ := Lib.hid hq
  clear hp hq
  have hl : ps.length ≤ 1048576 := by omega
  have hl' : qs.length ≤ 1048576 := by omega
  go_enter Try.func12, Try.ntmps12
  go_wp2_with fail
  refine (szPtS_fits _ _ _ _ _ (by omega) (by omega)).mono ?_
  rintro e w1 ⟨rfl, rfl⟩
  go_wp2_with fail
  refine (szPtS_fits _ _ _ _ _ (by omega) (by omega)).mono ?_
  rintro e w1 ⟨rfl, rfl⟩
  go_wp2_with fail
  refine (toPtS_any _ _ _ _ HP.out hl).mono ?_
  rintro e w1 ⟨b1, rfl, r1, h1, hb1⟩
  have B1 := Lib.hid hb1
  have X1 := Lib.hid (PtsAt.of_row r1)
  clear hb1 r1 h1
  go_wp2_with fail
  refine (toPtS_any _ _ _ _ (HQ.out.below B1.out) hl').mono ?_
  rintro e w2 ⟨b2, rfl, r2, h2, hb2⟩
  have B2 := Lib.hid (B1.out.trans (hb2.mono B1.out.size))
  have X2 := Lib.hid (X1.out.below hb2)
  have Y2 := Lib.hid (PtsAt.of_row r2)
  clear hb2 r2 h2 B1 X1
  go_wp2_with fail
  refine (specSeqLong_any _ _ _ _ _ _ _ X2.out Y2.out hl hl').mono ?_
  rintro e w3 ⟨rfl, hb3⟩
  have B3 := Lib.hid (B2.out.trans (hb3.mono B2.out.size))
  clear hb3 B2 X2 Y2
  go_wp2_with fail
  refine (toPtS_any _ _ _ _ (HP.out.below B3.out) hl).mono ?_
  rintro e w4 ⟨b4, rfl, r4, h4, hb4⟩
  have B4 := Lib.hid (B3.out.trans (hb4.mono B3.out.size))
  have X4 := Lib.hid (PtsAt.of_row r4)
  clear hb4 r4 h4 B3
  go_wp2_with fail
  refine (toPtS_any _ _ _ _ (HQ.out.below B4.out) hl').mono ?_
  rintro e w5 ⟨b5, rfl, r5, h5, hb5⟩
  have B5 := Lib.hid (B4.out.trans (hb5.mono B4.out.size))
  have X5 := Lib.hid (X4.out.below hb5)
  have Y5 := Lib.hid (PtsAt.of_row r5)
  clear hb5 r5 h5 B4 X4
  go_wp2_with fail
  refine (implSeqLong_any _ _ _ _ _ _ _ X5.out Y5.out hl hl').mono ?_
  rintro e w6 ⟨rfl, hb6⟩
  have B6 := Lib.hid (B5.out.trans (hb6.mono B5.out.size))
  have X6 := Lib.hid (X5.out.below hb6)
  have Y6 := Lib.hid (Y5.out.below hb6)
  clear hb6 B5 X5 Y5
  have hne : (longOf ps qs != longOf ps qs) = false := by simp
  go_wp2_with fail
  refine (toPtS_any _ _ _ _ (HP.out.below B6.out) hl).mono ?_
  rintro e w7 ⟨b7, rfl, r7, h7, hb7⟩
  have B7 := Lib.hid (B6.out.trans (hb7.mono B6.out.size))
  have X7 := Lib.hid (X6.out.below hb7)
  have Y7 := Lib.hid (Y6.out.below hb7)
  have Z7 := Lib.hid (PtsAt.of_row r7)
  clear hb7 r7 h7 B6 X6 Y6
  go_wp2_with fail
  refine (eqPtS_any _ _ _ _ _ _ _ X7.out Z7.out hl hl).mono ?_
  rintro e w8 ⟨rfl, hb8⟩
  have B8 := Lib.hid (B7.out.trans (hb8.mono B7.out.size))
  have Y8 := Lib.hid (Y7.out.below hb8)
  have e1 : ptsEq ps ps = true := by simp [ptsEq]
  have e2 : ptsEq qs qs = true := by simp [ptsEq]
  rw [e1]
  clear hb8 X7 Y7 B7 Z7
  go_wp2_with fail
  refine (toPtS_any _ _ _ _ (HQ.out.below B8.out) hl').mono ?_
  rintro e w9 ⟨b9, rfl, r9, h9, hb9⟩
  have B9 := Lib.hid (B8.out.trans (hb9.mono B8.out.size))
  have Y9 := Lib.hid (Y8.out.below hb9)
  have Z9 := Lib.hid (PtsAt.of_row r9)
  clear hb9 r9 h9 B8 Y8
  go_wp2_with fail
  refine (eqPtS_any _ _ _ _ _ _ _ Y9.out Z9.out hl' hl').mono ?_
  rintro e w10 ⟨rfl, hb10⟩
  have B10 := Lib.hid (B9.out.trans (hb10.mono B9.out.size))
  rw [e2]
  clear hb10 Y9 Z9 B9 e1 e2
  go_wp2
  go_ret
  exact ⟨rfl, B10.out⟩

set_option maxHeartbeats 400000 in
theorem fnSeqLong_over1 (a a' : Option Addr) (n n' cap cap' : Nat) (w : World) (hn : 1048576 < n) (hm : n ≤ maxLen) :
    Calls Try.prog 12 #[.slice a n cap, .slice a' n' cap'] w fun e w' => e = .returned (.bool true) ∧ Below w.heap.size w w' := by
  go_enter Try.func12, Try.ntmps12
  go_wp2_with fail
  refine (szPtS_over _ _ _ _ _ (by omega) (by omega) (by omega) hm).mono ?_
  rintro e w1 ⟨rfl, rfl⟩
  go_wp2
  go_ret
  exact ⟨rfl, Below.refl _ _⟩

set_option maxHeartbeats 400000 in
theorem fnSeqLong_over2 (a a' : Option Addr) (n n' cap cap' : Nat) (w : World) (hn : n ≤ 1048576) (hs : 1048576 < n + n') (hm : n' ≤ maxLen) :
    Calls Try.prog 12 #[.slice a n cap, .slice a' n' cap'] w fun e w' => e = .returned (.bool true) ∧ Below w.heap.size w w' := by
  go_enter Try.func12, Try.ntmps12
  go_wp2_with fail
  refine (szPtS_fits _ _ _ _ _ (by omega) (by omega)).mono ?_
  rintro e w1 ⟨rfl, rfl⟩
  go_wp2_with fail
  refine (szPtS_over _ _ _ _ _ (by omega) (by omega) (by omega) hm).mono ?_
  rintro e w1 ⟨rfl, rfl⟩
  go_wp2
  go_ret
  exact ⟨rfl, Below.refl _ _⟩

theorem fnSeqLong_all (a : Option Addr) (cap : Nat) (ps : List (Int × Int)) (a' : Option Addr) (cap' : Nat) (qs : List (Int × Int)) (w : World) (hp : PtsAt w a ps) (hm : ps.length ≤ maxLen) (hq : PtsAt w a' qs) (hm' : qs.length ≤ maxLen) :
    Calls Try.prog 12 #[.slice a ps.length cap, .slice a' qs.length cap'] w fun e w' => e = .returned (.bool true) ∧ Below w.heap.size w w' := by
  by_cases h1 : ps.length ≤ 1048576
  · by_cases h2 : ps.length + qs.length ≤ 1048576
    · exact fnSeqLong_walk a a' cap cap' ps qs w hp hq h2
    · exact fnSeqLong_over2 a a' _ _ cap cap' w h1 (by omega) hm'
  · exact fnSeqLong_over1 a a' _ _ cap cap' w (by omega) hm

set_option maxRecDepth 100000 in
theorem fnExactSeqLong_lifted (os : Os) (started : os.Started) (H : Type) (enc : TypeId × Value → H) :
    ReturnsInHanded {} Try.checked os 12 .any (Rows.fnExactSeqLongSpec.pre6 enc Try.prog Try.f12 Rows.fnExactSeqLongRow.domain false) (Rows.fnExactSeqLongSpec.post enc Try.prog Try.f12 false true false false) := by
  refine returnsInHanded_of_change (C := Try.checked) own started (by kernel_rfl) Try.func12
    (ChangeSpec.witness6 (enc := enc) (C := Try.checked) false ⟨#[], #[.slice none 0 0, .slice none 0 0], []⟩ 8 (by kernel_rfl) (by kernel_rfl) (by kernel_rfl) (by kernel_rfl)) ?_
  intro W base args ds gs before hval0 hW _ _
  have hval : ∀ (j : Nat) t v, Try.f12.params[j]? = some t → args[j]? = some v → Value.okWide Try.prog W .any base t v := hval0
  have hW' := hW
  obtain ⟨p, q, hA0, hV, rfl, _, _⟩ := hW
  have hA : DataW.TrodAll enc Try.prog W 0 (fun _ => true) true Try.f12.params.toList args.toList ds p := hA0
  rw [Try.params12] at hA hval
  obtain ⟨v0, vs0, d0, ds0, p0, q0, hargs, rfl, rfl, h0, r0⟩ := trodAll_cons hA
  obtain ⟨v1, vs1, d1, ds1, p1, q1, rfl, rfl, rfl, h1, r1⟩ := trodAll_cons r0
  obtain ⟨rfl, rfl, rfl⟩ := trodAll_nil r1
  obtain rfl : args = #[v0, v1] := by cases args; simp_all
  obtain ⟨rfl, rfl⟩ := trodVars_none hV
  have k0 := h0
  have lt0 : ∀ x ∈ p0, x.block < W.heap.size := by obtain ⟨m, hm⟩ := k0; exact DataW.trod_lt m _ _ _ hm
  obtain ⟨a0, c0, s0, rfl, f0, g0⟩ := open_ptsT (hval 0 41 v0 rfl rfl) h0
  have k1 := h1
  have lt1 : ∀ x ∈ p1, x.block < W.heap.size := by obtain ⟨m, hm⟩ := k1; exact DataW.trod_lt m _ _ _ hm
  obtain ⟨a1, c1, s1, rfl, f1, g1⟩ := open_ptsT (hval 1 41 v1 rfl rfl) h1
  clear hA0 hval0
  refine (fnSeqLong_all a0 c0 s0 a1 c1 s1 W f0 g0 f1 g1).mono fun e W' ⟨he, bel⟩ => ?_
  subst he
  exact ⟨_, rfl, _, _, _, [], _, [], hW', trodAll_mk1 (shut_bool Try.underlying4 _), (trodAll_cons_mk (Below.trod laidOut (by kernel_rfl) (of_decide_eq_true (by kernel_rfl)) k0 bel lt0) (trodAll_cons_mk (Below.trod laidOut (by kernel_rfl) (of_decide_eq_true (by kernel_rfl)) k1 bel lt1) trodAll_mk0)), rfl, bel.frame _, fun h => by cases h⟩

theorem fnExactSeqLong_over : Rows.fnExactSeqLongRow.holds Try.pinned (OpenSpec.ofChange Rows.fnExactSeqLongSpec) :=
  OpenClaim.holds_of_wide 12 Try.f12 rfl rfl rfl rfl rfl rfl rfl ⟨rfl, rfl, rfl, rfl, rfl⟩ rfl rfl rfl rfl rfl (by kernel_rfl) Try.func12 (by kernel_rfl)
    (of_decide_eq_true (by kernel_rfl)) (by unfold Func.isWrapper; first | (rw [if_pos (by decide +kernel)]; kernel_rfl) | (rw [if_neg (by decide +kernel)]; exact ⟨rfl, rfl⟩))
    (fun os started H enc _ => fnExactSeqLong_lifted os started H enc)

/-- the given statement -/
theorem fnExactSeqLong_holds : Rows.FnExactSeqLongSaid := fnExactSeqLong_over

end Go.Proofs.Ytaefibefagbheaa
