/- Proved here: the law FnExactShapeBox answers true at every argument, and leaves it as it was; no condition. -/
import Derived.Test.YtopbpokcffdjnaaWShape
import Derived.Test.YtopbpokcffdjnaaWArg
import Derived.Test.YtopbpokcffdjnaaWBox
import Derived.Deep.RegionHeld3
import Derived.Deep.DeepCutAuto
namespace Go.Proofs.Ytopbpokcffdjnaa
set_option linter.unusedVariables false
open Go.ChangeShapes Go.WideShapes Go.ChangeAt Go.RowKit

set_option maxRecDepth 100000 in
set_option maxHeartbeats 3200000 in
theorem fnExactShapeBox_walk (k : Int) (a : Option Addr) (cap : Nat) (ps : List (Int × Int)) (w : World) (hp : PtsAt w a ps) (hl : ps.length ≤ 1048576) :
    Calls Try.prog 11 #[.agg #[.int .i64 k, .slice a ps.length cap]] w fun e w' => e = .returned (.bool true) ∧ Below w.heap.size w w' := by
  have HP := Lib.hid hp
  clear hp
  go_enter Try.func11, Try.ntmps11
  go_wp2_with fail
  refine (szShape_fits _ _ _ _ _ _ (by omega) (by omega)).mono ?_
  rintro e w1 ⟨rfl, hb1⟩
  have c0 := cell_later hb1 (a := ⟨w.heap.size, 0, none⟩) (v := .int .i64 k) (by simp [go_sem])
  have c1 := cell_later hb1 (a := ⟨w.heap.size, 1, none⟩) (v := .slice a ps.length cap) (by simp [go_sem])
  have B1 : Hid (Below w.heap.size w w1) := ((Below.refl _ _).alloc (Nat.le_refl _) _).trans (hb1.mono (by simp))
  clear hb1
  go_wp2_with fail
  refine (toShape_any k a cap ps _ (HP.out.below B1.out) hl).mono ?_
  rintro e w2 ⟨b2, rfl, r2, _, hb2⟩
  replace c0 := cell_later hb2 c0
  replace c1 := cell_later hb2 c1
  have B2 : Hid (Below w.heap.size w w2) := B1.out.trans (hb2.mono B1.out.size)
  have H2 := Lib.hid (PtsAt.of_row r2)
  clear hb2 r2 B1
  go_wp2_with fail
  refine (specShapeBox_any k _ _ ps _ H2.out hl).mono ?_
  rintro e w3 ⟨rfl, hb3⟩
  replace c0 := cell_later hb3 c0
  replace c1 := cell_later hb3 c1
  have B3 : Hid (Below w.heap.size w w3) := B2.out.trans (hb3.mono B2.out.size)
  have y0 : w.heap.size < w3.heap.size := World.block_lt_of_cell? _ _ c0
  clear hb3 B2 H2
  generalize hlx : boxLX k ps = lx
  generalize hly : boxLY k ps = ly
  generalize hhx : boxHX k ps = hx
  generalize hhy : boxHY k ps = hy
  have HLX := Lib.hid hlx
  have HLY := Lib.hid hly
  have HHX := Lib.hid hhx
  have HHY := Lib.hid hhy
  clear hlx hly hhx hhy
  go_wp2_with fail
  refine (toShape_any k a cap ps _ (HP.out.below ((B3.out.alloc B3.out.size _).alloc (by have := B3.out.size; simp; omega) _)) hl).mono ?_
  rintro e w4 ⟨bX, rfl, rX, _, hb4⟩
  have hb34 : Below w3.heap.size w3 w4 := (((Below.refl _ _).alloc (Nat.le_refl _) _).alloc (by simp) _).trans (hb4.mono (by simp; omega))
  have p0 := cell_later hb4 (a := ⟨w3.heap.size, 0, none⟩) (v := .int .i64 lx) (by simp [go_sem])
  have p1 := cell_later hb4 (a := ⟨w3.heap.size, 1, none⟩) (v := .int .i64 ly) (by simp [go_sem])
  have p2 := cell_later hb4 (a := ⟨w3.heap.size + 1, 0, none⟩) (v := .int .i64 hx) (by simp [go_sem])
  have p3 := cell_later hb4 (a := ⟨w3.heap.size + 1, 1, none⟩) (v := .int .i64 hy) (by simp [go_sem])
  replace c0 := cell_later hb34 c0
  replace c1 := cell_later hb34 c1
  have B4 : Hid (Below w.heap.size w w4) := B3.out.trans (hb34.mono B3.out.size)
  have HX := Lib.hid (PtsAt.of_row rX)
  have z0 : w.heap.size < w4.heap.size := World.block_lt_of_cell? _ _ c0
  have z1 : w3.heap.size < w4.heap.size := World.block_lt_of_cell? _ _ p0
  have z2 : w3.heap.size + 1 < w4.heap.size := World.block_lt_of_cell? _ _ p2
  clear hb4 hb34 rX B3
  go_wp2_with fail
  refine (implShapeBox_any k _ _ ps _ (HX.out.below ((Below.refl _ _).alloc (Nat.le_refl _) _))).mono ?_
  rintro e w5 ⟨rfl, hb5⟩
  rw [HLX.out, HLY.out, HHX.out, HHY.out]
  have hb45 : Below w4.heap.size w4 w5 := ((Below.refl _ _).alloc (Nat.le_refl _) _).trans (hb5.mono (by simp))
  have d0 := cell_later hb5 (a := ⟨w4.heap.size, 0, none⟩) (v := .int .i64 k) (by simp [go_sem])
  have d1 := cell_later hb5 (a := ⟨w4.heap.size, 1, none⟩) (v := .slice (some ⟨bX, 0, none⟩) ps.length ps.length) (by simp [go_sem])
  replace c0 := cell_later hb45 c0
  replace c1 := cell_later hb45 c1
  replace p0 := cell_later hb45 p0
  replace p1 := cell_later hb45 p1
  replace p2 := cell_later hb45 p2
  replace p3 := cell_later hb45 p3
  have B5 : Hid (Below w.heap.size w w5) := B4.out.trans (hb45.mono B4.out.size)
  have HX5 := Lib.hid (HX.out.below hb45)
  have z3 : w3.heap.size < w5.heap.size := World.block_lt_of_cell? _ _ p0
  have z4 : w3.heap.size + 1 < w5.heap.size := World.block_lt_of_cell? _ _ p2
  clear hb5 hb45 B4 HX
  have ee1 : ptEq (lx, ly) (lx, ly) = true := by simp [ptEq]
  have ee2 : ptEq (hx, hy) (hx, hy) = true := by simp [ptEq]
  go_wp2_with fail
  refine (eqPt_any _ _ _ _ _).mono ?_
  rintro e w6 ⟨rfl, hb6⟩
  have hb56 : Below w5.heap.size w5 w6 := (((Below.refl _ _).alloc (Nat.le_refl _) _).alloc (by simp) _).trans (hb6.mono (by simp; omega))
  have g2 := cell_later hb6 (a := ⟨w5.heap.size + 1, 0, none⟩) (v := .int .i64 hx) (by simp [go_sem])
  have g3 := cell_later hb6 (a := ⟨w5.heap.size + 1, 1, none⟩) (v := .int .i64 hy) (by simp [go_sem])
  replace c0 := cell_later hb56 c0
  replace c1 := cell_later hb56 c1
  replace d0 := cell_later hb56 d0
  replace d1 := cell_later hb56 d1
  replace p2 := cell_later hb56 p2
  replace p3 := cell_later hb56 p3
  have B6 : Hid (Below w.heap.size w w6) := B5.out.trans (hb56.mono B5.out.size)
  have HX6 := Lib.hid (HX5.out.below hb56)
  clear hb6 hb56 B5 HX5 p0 p1
  go_wp2_with fail
  refine (eqPt_any _ _ _ _ _).mono ?_
  rintro e w7 ⟨rfl, hb7⟩
  replace c0 := cell_later hb7 c0
  replace c1 := cell_later hb7 c1
  replace d0 := cell_later hb7 d0
  replace d1 := cell_later hb7 d1
  have B5 : Hid (Below w.heap.size w w7) := B6.out.trans (hb7.mono B6.out.size)
  have HX5 := Lib.hid (HX6.out.below hb7)
  clear hb7 B6 HX6 p2 p3 g2 g3
  go_upto_region 10 with (fail)
  go_cut [41] (fun s41 wx => s41 = .bool false ∧ Below w.heap.size w wx)
  case first =>
    go_region_held3 (fun w' => w'.cell? ⟨w.heap.size, 0, none⟩ = some (.int .i64 k) ∧ w'.cell? ⟨w.heap.size, 1, none⟩ = some (.slice a ps.length cap) ∧ w'.cell? ⟨w4.heap.size, 0, none⟩ = some (.int .i64 k) ∧ w'.cell? ⟨w4.heap.size, 1, none⟩ = some (.slice (some ⟨bX, 0, none⟩) ps.length ps.length) ∧ Below w7.heap.size w7 w')
      (first
        | exact ⟨c0, c1, d0, d1, (Below.refl _ _).drew⟩
        | (go_split_ands
           rename_i hS0 hS1 hS2 hS3 hS4
           exact ⟨cell_later hbn hS0, cell_later hbn hS1, cell_later hbn hS2, cell_later hbn hS3, hS4.trans (hbn.mono hS4.size)⟩))
      (first
        | (go_at_call 20
           refine (toShape_any k a cap ps _ ?_ hl).mono ?_
           · (go_split_ands; exact HP.out.below (B5.out.trans (Below.mono (by assumption) B5.out.size)))
           rintro e wn ⟨bA, rfl, rA, hbA, hbn⟩)
        | (go_at_call 22
           refine (eqShape_any _ _ _ _ _ _ _ _ _ ?_ ?_ hl hl).mono ?_
           · (go_split_ands; exact HX5.out.below (by assumption))
           · (exact PtsAt.of_row (by assumption))
           rintro e wn ⟨rfl, hbn⟩))
    all_goals (go_wp2_with fail; go_meet; go_split_ands; exact ⟨by simp [ptsEq], B5.out.trans (Below.mono (by assumption) B5.out.size)⟩)
  case rest =>
    obtain ⟨rfl, hB⟩ := hcut
    have B := Lib.hid hB
    clear hB
    go_wp2
    go_ret
    exact ⟨rfl, B.out⟩

set_option maxHeartbeats 400000 in
theorem fnExactShapeBox_large (k : Int) (a : Option Addr) (n cap : Nat) (w : World) (hn : 1048576 < n) (hm : n ≤ maxLen) :
    Calls Try.prog 11 #[.agg #[.int .i64 k, .slice a n cap]] w fun e w' => e = .returned (.bool true) ∧ Below w.heap.size w w' := by
  go_enter Try.func11, Try.ntmps11
  go_wp2_with fail
  refine (szShape_over _ _ _ _ _ _ (by omega) (by omega) (by omega) hm).mono ?_
  rintro e w1 ⟨rfl, hb1⟩
  have B1 : Hid (Below w.heap.size w w1) := ((Below.refl _ _).alloc (Nat.le_refl _) _).trans (hb1.mono (by simp))
  clear hb1
  go_wp2
  go_ret
  exact ⟨rfl, B1.out⟩

theorem fnExactShapeBox_all (k : Int) (a : Option Addr) (cap : Nat) (ps : List (Int × Int)) (w : World) (hp : PtsAt w a ps) (hm : ps.length ≤ maxLen) :
    Calls Try.prog 11 #[.agg #[.int .i64 k, .slice a ps.length cap]] w fun e w' => e = .returned (.bool true) ∧ Below w.heap.size w w' := by
  by_cases h1 : ps.length ≤ 1048576
  · exact fnExactShapeBox_walk k a cap ps w hp h1
  · exact fnExactShapeBox_large k a _ cap w (by omega) hm

set_option maxRecDepth 100000 in
theorem fnExactShapeBox_lifted (os : Os) (started : os.Started) (H : Type) (enc : TypeId × Value → H) :
    ReturnsInHanded {} Try.checked os 11 .any (Rows.fnExactShapeBoxSpec.pre6 enc Try.prog Try.f11 Rows.fnExactShapeBoxRow.domain false) (Rows.fnExactShapeBoxSpec.post enc Try.prog Try.f11 false true false false) := by
  refine returnsInHanded_of_change (C := Try.checked) own started (by kernel_rfl) Try.func11
    (ChangeSpec.witness6 (enc := enc) (C := Try.checked) false ⟨#[], #[.agg #[.int .i64 0, .slice none 0 0]], []⟩ 8 (by kernel_rfl) (by kernel_rfl) (by kernel_rfl) (by kernel_rfl)) ?_
  intro W base args ds gs before hval0 hW _ _
  have hval : ∀ (j : Nat) t v, Try.f11.params[j]? = some t → args[j]? = some v → Value.okWide Try.prog W .any base t v := hval0
  have hW' := hW
  obtain ⟨p, q, hA0, hV, rfl, _, _⟩ := hW
  have hA : DataW.TrodAll enc Try.prog W 0 (fun _ => true) true Try.f11.params.toList args.toList ds p := hA0
  rw [Try.params11] at hA hval
  obtain ⟨v0, vs0, d0, ds0, p0, q0, hargs, rfl, rfl, h0, r0⟩ := trodAll_cons hA
  obtain ⟨rfl, rfl, rfl⟩ := trodAll_nil r0
  obtain rfl : args = #[v0] := by cases args; simp_all
  obtain ⟨rfl, rfl⟩ := trodVars_none hV
  have k0 := h0
  have lt0 : ∀ x ∈ p0, x.block < W.heap.size := by obtain ⟨m, hm⟩ := k0; exact DataW.trod_lt m _ _ _ hm
  obtain ⟨x0, a0, c0, s0, rfl, f0, g0⟩ := open_shape (hval 0 36 v0 rfl rfl) h0
  clear hA0 hval0
  refine (fnExactShapeBox_all x0 a0 c0 s0 W f0 g0).mono fun e W' ⟨he, bel⟩ => ?_
  subst he
  exact ⟨_, rfl, _, _, _, [], _, [], hW', trodAll_mk1 (shut_bool Try.underlying4 _), (trodAll_cons_mk (Below.trod laidOut (by kernel_rfl) (of_decide_eq_true (by kernel_rfl)) k0 bel lt0) trodAll_mk0), rfl, bel.frame _, fun h => by cases h⟩

theorem fnExactShapeBox_over : Rows.fnExactShapeBoxRow.holds Try.pinned (OpenSpec.ofChange Rows.fnExactShapeBoxSpec) :=
  OpenClaim.holds_of_wide 11 Try.f11 rfl rfl rfl rfl rfl rfl rfl ⟨rfl, rfl, rfl, rfl, rfl⟩ rfl rfl rfl rfl rfl (by kernel_rfl) Try.func11 (by kernel_rfl)
    (of_decide_eq_true (by kernel_rfl)) (by unfold Func.isWrapper; first | (rw [if_pos (by decide +kernel)]; kernel_rfl) | (rw [if_neg (by decide +kernel)]; exact ⟨rfl, rfl⟩))
    (fun os started H enc _ => fnExactShapeBox_lifted os started H enc)

/-- the given statement -/
theorem fnExactShapeBox_holds : Rows.FnExactShapeBoxSaid := fnExactShapeBox_over

end Go.Proofs.Ytopbpokcffdjnaa
