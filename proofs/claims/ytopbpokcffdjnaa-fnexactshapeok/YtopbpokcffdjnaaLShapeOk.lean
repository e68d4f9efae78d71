/- Proved here: the law FnExactShapeOk answers true at every argument, and leaves it as it was; no condition. -/
import Derived.Test.YtopbpokcffdjnaaWShape
import Derived.Test.YtopbpokcffdjnaaWArg
import Derived.Test.YtopbpokcffdjnaaWSpecOk
import Derived.Test.YtopbpokcffdjnaaWImplOk
import Derived.Deep.RegionHeld3
import Derived.Deep.DeepCutAuto
namespace Go.Proofs.Ytopbpokcffdjnaa
set_option linter.unusedVariables false
open Go.ChangeShapes Go.WideShapes Go.ChangeAt Go.RowKit

set_option maxRecDepth 100000 in
set_option maxHeartbeats 3200000 in
theorem fnExactShapeOk_walk (k : Int) (a : Option Addr) (cap : Nat) (ps : List (Int × Int)) (w : World) (hp : PtsAt w a ps) (hl : ps.length ≤ 1048576) :
    Calls Try.prog 5 #[.agg #[.int .i64 k, .slice a ps.length cap]] w fun e w' => e = .returned (.bool true) ∧ Below w.heap.size w w' := by
  have HP := Lib.hid hp
  clear hp
  go_enter Try.func5, Try.ntmps5
  go_wp2_with fail
  refine (szShape_fits _ _ _ _ _ _ (by omega) (by omega)).mono ?_
  rintro e w1 ⟨rfl, hb1⟩
  have c0 := cell_later hb1 (a := ⟨w.heap.size, 0, none⟩) (v := .int .i64 k) (by simp [go_sem])
  have c1 := cell_later hb1 (a := ⟨w.heap.size, 1, none⟩) (v := .slice a ps.length cap) (by simp [go_sem])
  have B1 : Hid (Below w.heap.size w w1) := ((Below.refl _ _).alloc (Nat.le_refl _) _).trans (hb1.mono (by simp))
  clear hb1
  go_wp2_with fail
  refine (toShape_any k a cap ps _ (HP.out.below B1.out) hl).mono ?_
  rintro e w2 ⟨b2, rfl, r2, _, hb2⟩
  replace c0 := cell_later hb2 c0
  replace c1 := cell_later hb2 c1
  have B2 : Hid (Below w.heap.size w w2) := B1.out.trans (hb2.mono B1.out.size)
  have H2 := Lib.hid (PtsAt.of_row r2)
  clear hb2 r2 B1
  go_wp2_with fail
  refine (specShapeOk_any k _ _ ps _ H2.out hl).mono ?_
  rintro e w3 ⟨rfl, hb3⟩
  replace c0 := cell_later hb3 c0
  replace c1 := cell_later hb3 c1
  have B3 : Hid (Below w.heap.size w w3) := B2.out.trans (hb3.mono B2.out.size)
  clear hb3 B2 H2
  go_wp2_with fail
  refine (toShape_any k a cap ps _ (HP.out.below B3.out) hl).mono ?_
  rintro e w4 ⟨bX, rfl, rX, _, hb4⟩
  replace c0 := cell_later hb4 c0
  replace c1 := cell_later hb4 c1
  have B4 : Hid (Below w.heap.size w w4) := B3.out.trans (hb4.mono B3.out.size)
  have HX := Lib.hid (PtsAt.of_row rX)
  have z0 : w.heap.size < w4.heap.size := World.block_lt_of_cell? _ _ c0
  clear hb4 rX B3
  go_wp2_with fail
  refine (implShapeOk_any k _ _ ps _ (HX.out.below ((Below.refl _ _).alloc (Nat.le_refl _) _))).mono ?_
  rintro e w5 ⟨rfl, hb5⟩
  have hb45 : Below w4.heap.size w4 w5 := ((Below.refl _ _).alloc (Nat.le_refl _) _).trans (hb5.mono (by simp))
  have d0 := cell_later hb5 (a := ⟨w4.heap.size, 0, none⟩) (v := .int .i64 k) (by simp [go_sem])
  have d1 := cell_later hb5 (a := ⟨w4.heap.size, 1, none⟩) (v := .slice (some ⟨bX, 0, none⟩) ps.length ps.length) (by simp [go_sem])
  replace c0 := cell_later hb45 c0
  replace c1 := cell_later hb45 c1
  have B5 : Hid (Below w.heap.size w w5) := B4.out.trans (hb45.mono B4.out.size)
  have HX5 := Lib.hid (HX.out.below hb45)
  clear hb5 hb45 B4 HX
  go_upto_region 10 with (fail)
  go_cut [26] (fun s26 wx => s26 = .bool false ∧ Below w.heap.size w wx)
  case first =>
    go_region_held3 (fun w' => w'.cell? ⟨w.heap.size, 0, none⟩ = some (.int .i64 k) ∧ w'.cell? ⟨w.heap.size, 1, none⟩ = some (.slice a ps.length cap) ∧ w'.cell? ⟨w4.heap.size, 0, none⟩ = some (.int .i64 k) ∧ w'.cell? ⟨w4.heap.size, 1, none⟩ = some (.slice (some ⟨bX, 0, none⟩) ps.length ps.length) ∧ Below w5.heap.size w5 w')
      (first
        | exact ⟨c0, c1, d0, d1, (Below.refl _ _).drew⟩
        | (go_split_ands
           rename_i hS0 hS1 hS2 hS3 hS4
           exact ⟨cell_later hbn hS0, cell_later hbn hS1, cell_later hbn hS2, cell_later hbn hS3, hS4.trans (hbn.mono hS4.size)⟩))
      (first
        | (go_at_call 20
           refine (toShape_any k a cap ps _ ?_ hl).mono ?_
           · (go_split_ands; exact HP.out.below (B5.out.trans (Below.mono (by assumption) B5.out.size)))
           rintro e wn ⟨bA, rfl, rA, hbA, hbn⟩)
        | (go_at_call 22
           refine (eqShape_any _ _ _ _ _ _ _ _ _ ?_ ?_ hl hl).mono ?_
           · (go_split_ands; exact HX5.out.below (by assumption))
           · (exact PtsAt.of_row (by assumption))
           rintro e wn ⟨rfl, hbn⟩))
    all_goals (go_wp2_with fail; go_meet; go_split_ands; exact ⟨by simp [ptsEq], B5.out.trans (Below.mono (by assumption) B5.out.size)⟩)
  case rest =>
    obtain ⟨rfl, hB⟩ := hcut
    have B := Lib.hid hB
    clear hB
    go_wp2
    go_ret
    exact ⟨rfl, B.out⟩

set_option maxHeartbeats 400000 in
theorem fnExactShapeOk_large (k : Int) (a : Option Addr) (n cap : Nat) (w : World) (hn : 1048576 < n) (hm : n ≤ maxLen) :
    Calls Try.prog 5 #[.agg #[.int .i64 k, .slice a n cap]] w fun e w' => e = .returned (.bool true) ∧ Below w.heap.size w w' := by
  go_enter Try.func5, Try.ntmps5
  go_wp2_with fail
  refine (szShape_over _ _ _ _ _ _ (by omega) (by omega) (by omega) hm).mono ?_
  rintro e w1 ⟨rfl, hb1⟩
  have B1 : Hid (Below w.heap.size w w1) := ((Below.refl _ _).alloc (Nat.le_refl _) _).trans (hb1.mono (by simp))
  clear hb1
  go_wp2
  go_ret
  exact ⟨rfl, B1.out⟩

theorem fnExactShapeOk_all (k : Int) (a : Option Addr) (cap : Nat) (ps : List (Int × Int)) (w : World) (hp : PtsAt w a ps) (hm : ps.length ≤ maxLen) :
    Calls Try.prog 5 #[.agg #[.int .i64 k, .slice a ps.length cap]] w fun e w' => e = .returned (.bool true) ∧ Below w.heap.size w w' := by
  by_cases h1 : ps.length ≤ 1048576
  · exact fnExactShapeOk_walk k a cap ps w hp h1
  · exact fnExactShapeOk_large k a _ cap w (by omega) hm

set_option maxRecDepth 100000 in
theorem fnExactShapeOk_lifted (os : Os) (started : os.Started) (H : Type) (enc : TypeId × Value → H) :
    ReturnsInHanded {} Try.checked os 5 .any (Rows.fnExactShapeOkSpec.pre6 enc Try.prog Try.f5 Rows.fnExactShapeOkRow.domain false) (Rows.fnExactShapeOkSpec.post enc Try.prog Try.f5 false true false false) := by
  refine returnsInHanded_of_change (C := Try.checked) own started (by kernel_rfl) Try.func5
    (ChangeSpec.witness6 (enc := enc) (C := Try.checked) false ⟨#[], #[.agg #[.int .i64 0, .slice none 0 0]], []⟩ 8 (by kernel_rfl) (by kernel_rfl) (by kernel_rfl) (by kernel_rfl)) ?_
  intro W base args ds gs before hval0 hW _ _
  have hval : ∀ (j : Nat) t v, Try.f5.params[j]? = some t → args[j]? = some v → Value.okWide Try.prog W .any base t v := hval0
  have hW' := hW
  obtain ⟨p, q, hA0, hV, rfl, _, _⟩ := hW
  have hA : DataW.TrodAll enc Try.prog W 0 (fun _ => true) true Try.f5.params.toList args.toList ds p := hA0
  rw [Try.params5] at hA hval
  obtain ⟨v0, vs0, d0, ds0, p0, q0, hargs, rfl, rfl, h0, r0⟩ := trodAll_cons hA
  obtain ⟨rfl, rfl, rfl⟩ := trodAll_nil r0
  obtain rfl : args = #[v0] := by cases args; simp_all
  obtain ⟨rfl, rfl⟩ := trodVars_none hV
  have k0 := h0
  have lt0 : ∀ x ∈ p0, x.block < W.heap.size := by obtain ⟨m, hm⟩ := k0; exact DataW.trod_lt m _ _ _ hm
  obtain ⟨x0, a0, c0, s0, rfl, f0, g0⟩ := open_shape (hval 0 36 v0 rfl rfl) h0
  clear hA0 hval0
  refine (fnExactShapeOk_all x0 a0 c0 s0 W f0 g0).mono fun e W' ⟨he, bel⟩ => ?_
  subst he
  exact ⟨_, rfl, _, _, _, [], _, [], hW', trodAll_mk1 (shut_bool Try.underlying4 _), (trodAll_cons_mk (Below.trod laidOut (by kernel_rfl) (of_decide_eq_true (by kernel_rfl)) k0 bel lt0) trodAll_mk0), rfl, bel.frame _, fun h => by cases h⟩

theorem fnExactShapeOk_over : Rows.fnExactShapeOkRow.holds Try.pinned (OpenSpec.ofChange Rows.fnExactShapeOkSpec) :=
  OpenClaim.holds_of_wide 5 Try.f5 rfl rfl rfl rfl rfl rfl rfl ⟨rfl, rfl, rfl, rfl, rfl⟩ rfl rfl rfl rfl rfl (by kernel_rfl) Try.func5 (by kernel_rfl)
    (of_decide_eq_true (by kernel_rfl)) (by unfold Func.isWrapper; first | (rw [if_pos (by decide +kernel)]; kernel_rfl) | (rw [if_neg (by decide +kernel)]; exact ⟨rfl, rfl⟩))
    (fun os started H enc _ => fnExactShapeOk_lifted os started H enc)

/-- the given statement -/
theorem fnExactShapeOk_holds : Rows.FnExactShapeOkSaid := fnExactShapeOk_over

end Go.Proofs.Ytopbpokcffdjnaa
