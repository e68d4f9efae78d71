/- Proved here: the law FnExactShapeSame answers true at every two shapes, and leaves them as they were; no condition. -/
import Derived.Test.YtopbpokcffdjnaaWShape
import Derived.Test.YtopbpokcffdjnaaWArg
import Derived.Deep.RegionHeld3
import Derived.Deep.DeepCutAuto
namespace Go.Proofs.Ytopbpokcffdjnaa
set_option linter.unusedVariables false
open Go.ChangeShapes Go.WideShapes Go.ChangeAt Go.RowKit

set_option maxRecDepth 100000 in
set_option maxHeartbeats 3200000 in
theorem fnShapeSame_walk (k k' : Int) (a a' : Option Addr) (cap cap' : Nat) (ps qs : List (Int × Int)) (w : World) (hp : PtsAt w a ps) (hq : PtsAt w a' qs) (hsum : ps.length + qs.length ≤ 1048576) :
    Calls Try.prog 6 #[.agg #[.int .i64 k, .slice a ps.length cap], .agg #[.int .i64 k', .slice a' qs.length cap']] w fun e w' => e = .returned (.bool true) ∧ Below w.heap.size w w' := by
  have HP := Lib.hid hp
  have HQ := Lib.hid hq
  clear hp hq
  have hl : ps.length ≤ 1048576 := by omega
  have hl' : qs.length ≤ 1048576 := by omega
  go_enter Try.func6, Try.ntmps6
  go_wp2_with fail
  refine (szShape_fits _ _ _ _ _ _ (by omega) (by omega)).mono ?_
  rintro e w1 ⟨rfl, hb1⟩
  have c0 := cell_later hb1 (a := ⟨w.heap.size, 0, none⟩) (v := .int .i64 k) (by simp [go_sem])
  have c1 := cell_later hb1 (a := ⟨w.heap.size, 1, none⟩) (v := .slice a ps.length cap) (by simp [go_sem])
  have c2 := cell_later hb1 (a := ⟨w.heap.size + 1, 0, none⟩) (v := .int .i64 k') (by simp [go_sem])
  have c3 := cell_later hb1 (a := ⟨w.heap.size + 1, 1, none⟩) (v := .slice a' qs.length cap') (by simp [go_sem])
  have B1 : Hid (Below w.heap.size w w1) := (((Below.refl _ _).alloc (Nat.le_refl _) _).alloc (by simp) _).trans (hb1.mono (by simp; omega))
  clear hb1
  go_wp2_with fail
  refine (szShape_fits _ _ _ _ _ _ (by omega) (by omega)).mono ?_
  rintro e w2 ⟨rfl, hb2⟩
  replace c0 := cell_later hb2 c0
  replace c1 := cell_later hb2 c1
  replace c2 := cell_later hb2 c2
  replace c3 := cell_later hb2 c3
  have B2 : Hid (Below w.heap.size w w2) := B1.out.trans (hb2.mono B1.out.size)
  clear hb2 B1
  go_upto_region 8 with (fail)
  go_cut [6] (fun s6 wx => s6 = .bool (decide (k = k') && ptsEq ps qs) ∧ wx.cell? ⟨w.heap.size, 0, none⟩ = some (.int .i64 k) ∧ wx.cell? ⟨w.heap.size, 1, none⟩ = some (.slice a ps.length cap) ∧ wx.cell? ⟨w.heap.size + 1, 0, none⟩ = some (.int .i64 k') ∧ wx.cell? ⟨w.heap.size + 1, 1, none⟩ = some (.slice a' qs.length cap') ∧ Below w.heap.size w wx)
  case first =>
    go_region_held3 (fun w' => w'.cell? ⟨w.heap.size, 0, none⟩ = some (.int .i64 k) ∧ w'.cell? ⟨w.heap.size, 1, none⟩ = some (.slice a ps.length cap) ∧ w'.cell? ⟨w.heap.size + 1, 0, none⟩ = some (.int .i64 k') ∧ w'.cell? ⟨w.heap.size + 1, 1, none⟩ = some (.slice a' qs.length cap') ∧ Below w.heap.size w w')
      (first
        | exact ⟨c0, c1, c2, c3, B2.out.drew⟩
        | (go_split_ands
           rename_i hS0 hS1 hS2 hS3 hS4
           exact ⟨cell_later hbn hS0, cell_later hbn hS1, cell_later hbn hS2, cell_later hbn hS3, hS4.trans (hbn.mono hS4.size)⟩))
      (first
        | (go_at_call_of 20 (Value.agg #[Value.int IntKind.i64 k, Value.slice a ps.length cap])
           refine (toShape_any k a cap ps _ ?_ hl).mono ?_
           · (go_split_ands; exact HP.out.below (by assumption))
           rintro e wn ⟨bA, rfl, rA, hbA, hbn⟩)
        | (go_at_call_of 20 (Value.agg #[Value.int IntKind.i64 k', Value.slice a' qs.length cap'])
           refine (toShape_any k' a' cap' qs _ ?_ hl').mono ?_
           · (go_split_ands; exact HQ.out.below (by assumption))
           rintro e wn ⟨bB, rfl, rB, hbB, hbn⟩)
        | (go_at_call 23
           refine (specShapeSame_any _ _ _ _ _ _ _ _ _ ?_ ?_ hl hl').mono ?_
           · (first | exact PtsAt.of_row (by assumption) | exact (PtsAt.of_row (by assumption)).below (by assumption))
           · (first | exact PtsAt.of_row (by assumption) | exact (PtsAt.of_row (by assumption)).below (by assumption))
           rintro e wn ⟨rfl, hbn⟩))
    all_goals (go_wp2_with fail; go_meet; exact ⟨rfl, by assumption⟩)
  case rest =>
    clear c0 c1 c2 c3 B2 w1 w2
    obtain ⟨rfl, c0, c1, c2, c3, hB⟩ := hcut
    have B := Lib.hid hB
    clear hB
    go_wp2_with fail
    refine (toShape_any k a cap ps _ (HP.out.below B.out) hl).mono ?_
    rintro e w3 ⟨bX, rfl, rX, hbX, hb3⟩
    replace c0 := cell_later hb3 c0
    replace c1 := cell_later hb3 c1
    replace c2 := cell_later hb3 c2
    replace c3 := cell_later hb3 c3
    have B3 : Hid (Below w.heap.size w w3) := B.out.trans (hb3.mono B.out.size)
    have HX := Lib.hid (PtsAt.of_row rX)
    have z0 : w.heap.size < w3.heap.size := World.block_lt_of_cell? _ _ c0
    have z1 : w.heap.size + 1 < w3.heap.size := World.block_lt_of_cell? _ _ c2
    clear hb3 rX B hbX
    go_wp2_with fail
    refine (toShape_any k' a' cap' qs _ (HQ.out.below (B3.out.alloc B3.out.size _)) hl').mono ?_
    rintro e w4 ⟨bY, rfl, rY, hbY, hb4⟩
    have hb34 : Below w3.heap.size w3 w4 := ((Below.refl _ _).alloc (Nat.le_refl _) _).trans (hb4.mono (by simp))
    have d0 := cell_later hb4 (a := ⟨w3.heap.size, 0, none⟩) (v := .int .i64 k) (by simp [go_sem])
    have d1 := cell_later hb4 (a := ⟨w3.heap.size, 1, none⟩) (v := .slice (some ⟨bX, 0, none⟩) ps.length ps.length) (by simp [go_sem])
    replace c0 := cell_later hb34 c0
    replace c1 := cell_later hb34 c1
    replace c2 := cell_later hb34 c2
    replace c3 := cell_later hb34 c3
    have B4 : Hid (Below w.heap.size w w4) := B3.out.trans (hb34.mono B3.out.size)
    have HX4 := Lib.hid (HX.out.below hb34)
    have HY4 := Lib.hid (PtsAt.of_row rY)
    have z2 : w3.heap.size < w4.heap.size := World.block_lt_of_cell? _ _ d0
    have z3 : w.heap.size < w4.heap.size := World.block_lt_of_cell? _ _ c0
    have z4 : w.heap.size + 1 < w4.heap.size := World.block_lt_of_cell? _ _ c2
    clear hb4 hb34 rY hbY B3 HX
    go_wp2_with fail
    refine (implShapeSame_any _ _ _ _ _ _ _ _ _ (HX4.out.below ((Below.refl _ _).alloc (Nat.le_refl _) _)) (HY4.out.below ((Below.refl _ _).alloc (Nat.le_refl _) _)) hl hl').mono ?_
    rintro e w5 ⟨rfl, hb5⟩
    have hb45 : Below w4.heap.size w4 w5 := ((Below.refl _ _).alloc (Nat.le_refl _) _).trans (hb5.mono (by simp))
    have e0 := cell_later hb5 (a := ⟨w4.heap.size, 0, none⟩) (v := .int .i64 k') (by simp [go_sem])
    have e1 := cell_later hb5 (a := ⟨w4.heap.size, 1, none⟩) (v := .slice (some ⟨bY, 0, none⟩) qs.length qs.length) (by simp [go_sem])
    replace c0 := cell_later hb45 c0
    replace c1 := cell_later hb45 c1
    replace c2 := cell_later hb45 c2
    replace c3 := cell_later hb45 c3
    replace d0 := cell_later hb45 d0
    replace d1 := cell_later hb45 d1
    have B5 : Hid (Below w.heap.size w w5) := B4.out.trans (hb45.mono B4.out.size)
    have HX5 := Lib.hid (HX4.out.below hb45)
    have HY5 := Lib.hid (HY4.out.below hb45)
    clear hb5 hb45 B4 HX4 HY4
    go_upto_region 14 with (fail)
    go_cut [39] (fun s39 wx => s39 = .bool false ∧ wx.cell? ⟨w.heap.size + 1, 0, none⟩ = some (.int .i64 k') ∧ wx.cell? ⟨w.heap.size + 1, 1, none⟩ = some (.slice a' qs.length cap') ∧ wx.cell? ⟨w4.heap.size, 0, none⟩ = some (.int .i64 k') ∧ wx.cell? ⟨w4.heap.size, 1, none⟩ = some (.slice (some ⟨bY, 0, none⟩) qs.length qs.length) ∧ Below w.heap.size w wx ∧ PtsAt wx (some ⟨bY, 0, none⟩) qs)
    case first =>
      go_region_held3 (fun w' => w'.cell? ⟨w.heap.size, 0, none⟩ = some (.int .i64 k) ∧ w'.cell? ⟨w.heap.size, 1, none⟩ = some (.slice a ps.length cap) ∧ w'.cell? ⟨w3.heap.size, 0, none⟩ = some (.int .i64 k) ∧ w'.cell? ⟨w3.heap.size, 1, none⟩ = some (.slice (some ⟨bX, 0, none⟩) ps.length ps.length) ∧ Below w5.heap.size w5 w')
        (first
          | exact ⟨c0, c1, d0, d1, (Below.refl _ _).drew⟩
          | (go_split_ands
             rename_i hS0 hS1 hS2 hS3 hS4
             exact ⟨cell_later hbn hS0, cell_later hbn hS1, cell_later hbn hS2, cell_later hbn hS3, hS4.trans (hbn.mono hS4.size)⟩))
        (first
          | (go_at_call 20
             refine (toShape_any k a cap ps _ ?_ hl).mono ?_
             · (go_split_ands; exact HP.out.below (B5.out.trans (Below.mono (by assumption) B5.out.size)))
             rintro e wn ⟨bA, rfl, rA, hbA, hbn⟩)
          | (go_at_call 22
             refine (eqShape_any _ _ _ _ _ _ _ _ _ ?_ ?_ hl hl).mono ?_
             · (go_split_ands; exact HX5.out.below (by assumption))
             · (exact PtsAt.of_row (by assumption))
             rintro e wn ⟨rfl, hbn⟩))
      all_goals (go_wp2_with fail; go_meet; go_split_ands; exact ⟨by simp [ptsEq], cell_later ‹Below w5.heap.size w5 _› c2, cell_later ‹Below w5.heap.size w5 _› c3, cell_later ‹Below w5.heap.size w5 _› e0, cell_later ‹Below w5.heap.size w5 _› e1, B5.out.trans (Below.mono ‹Below w5.heap.size w5 _› B5.out.size), HY5.out.below ‹Below w5.heap.size w5 _›⟩)
    case rest =>
      clear c0 c1 c2 c3 d0 d1 e0 e1 B5 HX5 HY5
      obtain ⟨rfl, c2, c3, e0, e1, hB, hY⟩ := hcut
      have B := Lib.hid hB
      have HY := Lib.hid hY
      clear hB hY
      go_upto_region 16 with (fail)
      go_cut [44] (fun s44 wx => s44 = .bool false ∧ Below w.heap.size w wx)
      case first =>
        go_region_held3 (fun w' => w'.cell? ⟨w.heap.size + 1, 0, none⟩ = some (.int .i64 k') ∧ w'.cell? ⟨w.heap.size + 1, 1, none⟩ = some (.slice a' qs.length cap') ∧ w'.cell? ⟨w4.heap.size, 0, none⟩ = some (.int .i64 k') ∧ w'.cell? ⟨w4.heap.size, 1, none⟩ = some (.slice (some ⟨bY, 0, none⟩) qs.length qs.length) ∧ Below wc.heap.size wc w')
          (first
            | exact ⟨c2, c3, e0, e1, (Below.refl _ _).drew⟩
            | (go_split_ands
               rename_i hS0 hS1 hS2 hS3 hS4
               exact ⟨cell_later hbn hS0, cell_later hbn hS1, cell_later hbn hS2, cell_later hbn hS3, hS4.trans (hbn.mono hS4.size)⟩))
          (first
            | (go_at_call 20
               refine (toShape_any k' a' cap' qs _ ?_ hl').mono ?_
               · (go_split_ands; exact HQ.out.below (B.out.trans (Below.mono (by assumption) B.out.size)))
               rintro e wn ⟨bA, rfl, rA, hbA, hbn⟩)
            | (go_at_call 22
               refine (eqShape_any _ _ _ _ _ _ _ _ _ ?_ ?_ hl' hl').mono ?_
               · (go_split_ands; exact HY.out.below (by assumption))
               · (exact PtsAt.of_row (by assumption))
               rintro e wn ⟨rfl, hbn⟩))
        all_goals (go_wp2_with fail; go_meet; go_split_ands; exact ⟨by simp [ptsEq], B.out.trans (Below.mono (by assumption) B.out.size)⟩)
      case rest =>
        clear c2 c3 e0 e1 B HY
        obtain ⟨rfl, hB⟩ := hcut
        have B := Lib.hid hB
        clear hB
        go_wp2
        go_ret
        exact ⟨rfl, B.out⟩

set_option maxHeartbeats 400000 in
theorem fnShapeSame_over1 (k k' : Int) (a a' : Option Addr) (n n' cap cap' : Nat) (w : World) (hn : 1048576 < n) (hm : n ≤ maxLen) :
    Calls Try.prog 6 #[.agg #[.int .i64 k, .slice a n cap], .agg #[.int .i64 k', .slice a' n' cap']] w fun e w' => e = .returned (.bool true) ∧ Below w.heap.size w w' := by
  go_enter Try.func6, Try.ntmps6
  go_wp2_with fail
  refine (szShape_over _ _ _ _ _ _ (by omega) (by omega) (by omega) hm).mono ?_
  rintro e w1 ⟨rfl, hb1⟩
  have B1 : Hid (Below w.heap.size w w1) := (((Below.refl _ _).alloc (Nat.le_refl _) _).alloc (by simp) _).trans (hb1.mono (by simp; omega))
  clear hb1
  go_wp2
  go_ret
  exact ⟨rfl, B1.out⟩

set_option maxHeartbeats 400000 in
theorem fnShapeSame_over2 (k k' : Int) (a a' : Option Addr) (n n' cap cap' : Nat) (w : World) (hn : n ≤ 1048576) (hs : 1048576 < n + n') (hm : n' ≤ maxLen) :
    Calls Try.prog 6 #[.agg #[.int .i64 k, .slice a n cap], .agg #[.int .i64 k', .slice a' n' cap']] w fun e w' => e = .returned (.bool true) ∧ Below w.heap.size w w' := by
  go_enter Try.func6, Try.ntmps6
  go_wp2_with fail
  refine (szShape_fits _ _ _ _ _ _ (by omega) (by omega)).mono ?_
  rintro e w1 ⟨rfl, hb1⟩
  have c2 := cell_later hb1 (a := ⟨w.heap.size + 1, 0, none⟩) (v := .int .i64 k') (by simp [go_sem])
  have c3 := cell_later hb1 (a := ⟨w.heap.size + 1, 1, none⟩) (v := .slice a' n' cap') (by simp [go_sem])
  have B1 : Hid (Below w.heap.size w w1) := (((Below.refl _ _).alloc (Nat.le_refl _) _).alloc (by simp) _).trans (hb1.mono (by simp; omega))
  clear hb1
  go_wp2_with fail
  refine (szShape_over _ _ _ _ _ _ (by omega) (by omega) (by omega) hm).mono ?_
  rintro e w2 ⟨rfl, hb2⟩
  have B2 : Hid (Below w.heap.size w w2) := B1.out.trans (hb2.mono B1.out.size)
  clear hb2
  go_wp2
  go_ret
  exact ⟨rfl, B2.out⟩

theorem fnShapeSame_all (k : Int) (a : Option Addr) (cap : Nat) (ps : List (Int × Int)) (k' : Int) (a' : Option Addr) (cap' : Nat) (qs : List (Int × Int)) (w : World) (hp : PtsAt w a ps) (hm : ps.length ≤ maxLen) (hq : PtsAt w a' qs) (hm' : qs.length ≤ maxLen) :
    Calls Try.prog 6 #[.agg #[.int .i64 k, .slice a ps.length cap], .agg #[.int .i64 k', .slice a' qs.length cap']] w fun e w' => e = .returned (.bool true) ∧ Below w.heap.size w w' := by
  by_cases h1 : ps.length ≤ 1048576
  · by_cases h2 : ps.length + qs.length ≤ 1048576
    · exact fnShapeSame_walk k k' a a' cap cap' ps qs w hp hq h2
    · exact fnShapeSame_over2 k k' a a' _ _ cap cap' w h1 (by omega) hm'
  · exact fnShapeSame_over1 k k' a a' _ _ cap cap' w (by omega) hm

set_option maxRecDepth 100000 in
theorem fnExactShapeSame_lifted (os : Os) (started : os.Started) (H : Type) (enc : TypeId × Value → H) :
    ReturnsInHanded {} Try.checked os 6 .any (Rows.fnExactShapeSameSpec.pre6 enc Try.prog Try.f6 Rows.fnExactShapeSameRow.domain false) (Rows.fnExactShapeSameSpec.post enc Try.prog Try.f6 false true false false) := by
  refine returnsInHanded_of_change (C := Try.checked) own started (by kernel_rfl) Try.func6
    (ChangeSpec.witness6 (enc := enc) (C := Try.checked) false ⟨#[], #[.agg #[.int .i64 0, .slice none 0 0], .agg #[.int .i64 0, .slice none 0 0]], []⟩ 8 (by kernel_rfl) (by kernel_rfl) (by kernel_rfl) (by kernel_rfl)) ?_
  intro W base args ds gs before hval0 hW _ _
  have hval : ∀ (j : Nat) t v, Try.f6.params[j]? = some t → args[j]? = some v → Value.okWide Try.prog W .any base t v := hval0
  have hW' := hW
  obtain ⟨p, q, hA0, hV, rfl, _, _⟩ := hW
  have hA : DataW.TrodAll enc Try.prog W 0 (fun _ => true) true Try.f6.params.toList args.toList ds p := hA0
  rw [Try.params6] at hA hval
  obtain ⟨v0, vs0, d0, ds0, p0, q0, hargs, rfl, rfl, h0, r0⟩ := trodAll_cons hA
  obtain ⟨v1, vs1, d1, ds1, p1, q1, rfl, rfl, rfl, h1, r1⟩ := trodAll_cons r0
  obtain ⟨rfl, rfl, rfl⟩ := trodAll_nil r1
  obtain rfl : args = #[v0, v1] := by cases args; simp_all
  obtain ⟨rfl, rfl⟩ := trodVars_none hV
  have k0 := h0
  have lt0 : ∀ x ∈ p0, x.block < W.heap.size := by obtain ⟨m, hm⟩ := k0; exact DataW.trod_lt m _ _ _ hm
  obtain ⟨x0, a0, c0, s0, rfl, f0, g0⟩ := open_shape (hval 0 36 v0 rfl rfl) h0
  have k1 := h1
  have lt1 : ∀ x ∈ p1, x.block < W.heap.size := by obtain ⟨m, hm⟩ := k1; exact DataW.trod_lt m _ _ _ hm
  obtain ⟨x1, a1, c1, s1, rfl, f1, g1⟩ := open_shape (hval 1 36 v1 rfl rfl) h1
  clear hA0 hval0
  refine (fnShapeSame_all x0 a0 c0 s0 x1 a1 c1 s1 W f0 g0 f1 g1).mono fun e W' ⟨he, bel⟩ => ?_
  subst he
  exact ⟨_, rfl, _, _, _, [], _, [], hW', trodAll_mk1 (shut_bool Try.underlying4 _), (trodAll_cons_mk (Below.trod laidOut (by kernel_rfl) (of_decide_eq_true (by kernel_rfl)) k0 bel lt0) (trodAll_cons_mk (Below.trod laidOut (by kernel_rfl) (of_decide_eq_true (by kernel_rfl)) k1 bel lt1) trodAll_mk0)), rfl, bel.frame _, fun h => by cases h⟩

theorem fnExactShapeSame_over : Rows.fnExactShapeSameRow.holds Try.pinned (OpenSpec.ofChange Rows.fnExactShapeSameSpec) :=
  OpenClaim.holds_of_wide 6 Try.f6 rfl rfl rfl rfl rfl rfl rfl ⟨rfl, rfl, rfl, rfl, rfl⟩ rfl rfl rfl rfl rfl (by kernel_rfl) Try.func6 (by kernel_rfl)
    (of_decide_eq_true (by kernel_rfl)) (by unfold Func.isWrapper; first | (rw [if_pos (by decide +kernel)]; kernel_rfl) | (rw [if_neg (by decide +kernel)]; exact ⟨rfl, rfl⟩))
    (fun os started H enc _ => fnExactShapeSame_lifted os started H enc)

/-- the given statement -/
theorem fnExactShapeSame_holds : Rows.FnExactShapeSameSaid := fnExactShapeSame_over

end Go.Proofs.Ytopbpokcffdjnaa
