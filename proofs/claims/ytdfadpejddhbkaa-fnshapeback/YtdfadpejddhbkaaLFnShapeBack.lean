/- Proved here: the law FnShapeBack answers true at every code, and leaves it as it was; no condition. -/
import Derived.Test.YtdfadpejddhbkaaWDrawShapes
import Derived.Test.YtdfadpejddhbkaaWShapeMath
import Derived.Test.YtdfadpejddhbkaaWShape
import Derived.Deep.RegionHeld3
import Derived.Deep.DeepCutAuto
namespace Go.Proofs.Ytdfadpejddhbkaa
set_option linter.unusedVariables false
open Go.ChangeShapes Go.WideShapes Go.ChangeAt Go.RowKit

set_option maxRecDepth 100000 in
set_option maxHeartbeats 8000000 in
theorem fnShapeBack_walk (a : Option Addr) (n cap : Nat) (w : World) (h : CodeAt w a n) (hl : n ≤ 1048576) (hc : n ≤ cap) :
    Calls Try.prog 3 #[.slice a n cap] w fun e w' => e = .returned (.bool true) ∧ Below w.heap.size w w' := by
  have HC := Lib.hid h
  clear h
  have hg : ¬ (1048576 : Int) < (n : Int) := by omega
  have heq := run_ptEql
  go_enter Try.func3, Try.ntmps3
  go_wp2_with fail
  refine (drawShapeBack_any _ _ _ _ HC.out hl hc).mono ?_
  rintro e w1 ⟨k, g, c2, ps, rfl, hpt, hlen, hb1⟩
  have P := Lib.hid hpt
  have B1 := Lib.hid hb1
  clear hpt hb1
  go_wp2_with fail
  refine (implShapeBack_any _ _ _ _ _ (P.out.below ((Below.refl _ _).alloc (Nat.le_refl _) _))).mono ?_
  rintro e w2 ⟨ab, cb, rfl, hq, _, _, hb2⟩
  have hb12 : Below w1.heap.size w1 w2 := ((Below.refl _ _).alloc (Nat.le_refl _) _).trans (hb2.mono (by simp))
  have c0 := cell_later hb2 (a := ⟨w1.heap.size, 0, none⟩) (v := .int .i64 k) (by simp [go_sem])
  have c1 := cell_later hb2 (a := ⟨w1.heap.size, 1, none⟩) (v := .slice (some ⟨g, 0, none⟩) ps.length c2) (by simp [go_sem])
  have Q := Lib.hid hq
  have z1 : w1.heap.size < w2.heap.size := World.block_lt_of_cell? _ _ c0
  have SB : Hid (∀ a c u, PtsAt u a ps → Calls Try.prog 12 #[.agg #[.int .i64 k, .slice a ps.length c]] u (ShapeAns u (backK k ps) (backP k ps))) := fun a c u h => specShapeBack_any k a c ps u h (by omega)
  have IA : Hid (∀ a c u, PtsAt u a ps → Calls Try.prog 13 #[.agg #[.int .i64 k, .slice a ps.length c]] u fun e w' => e = .returned (.int .i64 (shapeArea k ps)) ∧ Below u.heap.size u w') := fun a c u h => implShapeArea_any k a c ps u h
  have SA : Hid (∀ a c u, PtsAt u a ps → Calls Try.prog 14 #[.agg #[.int .i64 k, .slice a ps.length c]] u fun e w' => e = .returned (.int .i64 (shapeArea k ps)) ∧ Below u.heap.size u w') := fun a c u h => specShapeArea_any k a c ps u h (by omega)
  have NO : Hid (shapeOk k ps = false → (backP k ps) = [] ∧ shapeArea k ps = 0) := fun h => ⟨by simp [backP, h], by simp [shapeArea, h]⟩
  have YES : Hid (shapeOk k ps = true → shapeOk (backK k ps) (backP k ps) = true ∧ (backK (backK k ps) (backP k ps) = k ∧ backP (backK k ps) (backP k ps) = ps) ∧ shapeArea (backK k ps) (backP k ps) = - shapeArea k ps ∧ boxLX (backK k ps) (backP k ps) = boxLX k ps ∧ boxLY (backK k ps) (backP k ps) = boxLY k ps ∧ boxHX (backK k ps) (backP k ps) = boxHX k ps ∧ boxHY (backK k ps) (backP k ps) = boxHY k ps) := fun h => by
    have e1 : backK k ps = k := by simp [backK, h]
    have e2 : backP k ps = ps.reverse := by simp [backP, h]
    rw [e1, e2]
    exact ⟨ok_reverse h, back_twice h, area_reverse h, boxes_reverse h⟩
  have few := area_few k ps
  have hrl : (backP k ps).length ≤ 1048576 := backP_len (by omega)
  replace P := Lib.hid (P.out.below hb12)
  replace B1 : Hid (Below w.heap.size w w2) := B1.out.trans (hb12.mono B1.out.size)
  clear hb2 hb12 hq
  generalize backK k ps = rk at *
  generalize backP k ps = rp at *
  generalize har : shapeArea k ps = ar at IA SA NO YES few
  go_upto_region 5 with (fail)
  obtain ⟨u, hu⟩ : ∃ u, u = w2.alloc (.cells #[.int .i64 rk, .slice ab rp.length cb] 25) := ⟨_, rfl⟩
  rw [← hu]
  have hbu : Below w2.heap.size w2 u := by rw [hu]; exact (Below.refl _ _).alloc (Nat.le_refl _) _
  have d0 : u.cell? ⟨w2.heap.size, 0, none⟩ = some (.int .i64 rk) := by rw [hu]; simp [go_sem]
  have d1 : u.cell? ⟨w2.heap.size, 1, none⟩ = some (.slice ab rp.length cb) := by rw [hu]; simp [go_sem]
  replace c0 := cell_later hbu c0
  replace c1 := cell_later hbu c1
  replace P := Lib.hid (P.out.below hbu)
  replace Q := Lib.hid (Q.out.below hbu)
  replace B1 : Hid (Below w.heap.size w u) := B1.out.trans (hbu.mono B1.out.size)
  have z2 : w2.heap.size < u.heap.size := World.block_lt_of_cell? _ _ d0
  have z3 : w1.heap.size < u.heap.size := World.block_lt_of_cell? _ _ c0
  clear hu hbu
  have SS : Hid (∀ a c a' c' u, PtsAt u a rp → PtsAt u a' rp → Calls Try.prog 11 #[.agg #[.int .i64 rk, .slice a rp.length c], .agg #[.int .i64 rk, .slice a' rp.length c']] u fun e w' => e = .returned (.bool true) ∧ Below u.heap.size u w') := fun a c a' c' u h h' => (implShapeSame_any rk rk a a' c c' rp rp u h h' hrl hrl).mono fun e w' ⟨he, hb⟩ => ⟨by rw [he]; simp [ptsEq], hb⟩
  go_cut [27] (fun s27 wx => s27 = .bool false ∧ Below u.heap.size u wx)
  case first =>
    go_region_held3 (fun w' => w'.cell? ⟨w1.heap.size, 0, none⟩ = some (.int .i64 k) ∧ w'.cell? ⟨w1.heap.size, 1, none⟩ = some (.slice (some ⟨g, 0, none⟩) ps.length c2) ∧ w'.cell? ⟨w2.heap.size, 0, none⟩ = some (.int .i64 rk) ∧ w'.cell? ⟨w2.heap.size, 1, none⟩ = some (.slice ab rp.length cb) ∧ Below u.heap.size u w')
      (first
        | exact ⟨c0, c1, d0, d1, (Below.refl _ _).drew⟩
        | (go_split_ands
           rename_i hS0 hS1 hS2 hS3 hS4
           exact ⟨cell_later hbn hS0, cell_later hbn hS1, cell_later hbn hS2, cell_later hbn hS3, hS4.trans (hbn.mono hS4.size)⟩))
      (first
        | (go_at_call 12
           refine (SB.out _ _ _ ?_).mono ?_
           · (go_split_ands; exact P.out.below (by assumption))
           rintro e wn ⟨aW, cW, rfl, hW, _, _, hbn⟩)
        | (go_at_call 11
           refine (SS.out _ _ _ _ _ ?_ ?_).mono ?_
           · (go_split_ands; exact Q.out.below (by assumption))
           · (first | exact (by assumption) | exact hW)
           rintro e wn ⟨rfl, hbn⟩)
        | (go_at_call 13
           refine (IA.out _ _ _ ?_).mono ?_
           · (go_split_ands; exact P.out.below (by assumption))
           rintro e wn ⟨rfl, hbn⟩)
        | (go_at_call 14
           refine (SA.out _ _ _ ?_).mono ?_
           · (go_split_ands; exact P.out.below (by assumption))
           rintro e wn ⟨rfl, hbn⟩))
    all_goals (go_wp2_with fail; go_meet; go_split_ands; exact ⟨by simp, by assumption⟩)
  case rest =>
    obtain ⟨rfl, hbc⟩ := hcut
    replace c0 := cell_later hbc c0
    replace c1 := cell_later hbc c1
    replace d0 := cell_later hbc d0
    replace d1 := cell_later hbc d1
    replace P := Lib.hid (P.out.below hbc)
    replace Q := Lib.hid (Q.out.below hbc)
    replace B1 : Hid (Below w.heap.size w wc) := B1.out.trans (hbc.mono B1.out.size)
    clear hbc
    go_wp2_with fail
    refine (specShapeOk_any _ _ _ _ _ P.out (by omega)).mono ?_
    rintro e w3 ⟨rfl, hb3⟩
    replace c0 := cell_later hb3 c0
    replace c1 := cell_later hb3 c1
    replace d0 := cell_later hb3 d0
    replace d1 := cell_later hb3 d1
    replace P := Lib.hid (P.out.below hb3)
    replace Q := Lib.hid (Q.out.below hb3)
    replace B1 : Hid (Below w.heap.size w w3) := B1.out.trans (hb3.mono B1.out.size)
    clear hb3
    by_cases hok : shapeOk k ps = true
    · obtain ⟨y1, ⟨y2, y3⟩, y4, y5, y6, y7, y8⟩ := YES.out hok
      have OB : Hid (∀ a c u, PtsAt u a rp → Calls Try.prog 17 #[.agg #[.int .i64 rk, .slice a rp.length c]] u fun e w' => e = .returned (.bool true) ∧ Below u.heap.size u w') := fun a c u h => (implShapeOk_any rk a c rp u h).mono fun e w' ⟨he, hb⟩ => ⟨by rw [he, y1], hb⟩
      have BB : Hid (∀ a c u, PtsAt u a rp → Calls Try.prog 10 #[.agg #[.int .i64 rk, .slice a rp.length c]] u (ShapeAns u k ps)) := fun a c u h => by
        have := implShapeBack_any rk a c rp u h
        rw [y2, y3] at this
        exact this
      have XB : Hid (∀ a c u, PtsAt u a rp → Calls Try.prog 16 #[.agg #[.int .i64 rk, .slice a rp.length c]] u fun e w' => e = .returned (.tuple #[.agg #[.int .i64 (boxLX k ps), .int .i64 (boxLY k ps)], .agg #[.int .i64 (boxHX k ps), .int .i64 (boxHY k ps)]]) ∧ Below u.heap.size u w') := fun a c u h => by
        have := implShapeBox_any rk a c rp u h
        rw [y5, y6, y7, y8] at this
        exact this
      clear YES NO y1 y2 y3 y5 y6 y7 y8
      go_wp2_with fail
      refine (implShapeBox_any _ _ _ _ _ P.out).mono ?_
      rintro e w4 ⟨rfl, hb4⟩
      replace c0 := cell_later hb4 c0
      replace c1 := cell_later hb4 c1
      replace d0 := cell_later hb4 d0
      replace d1 := cell_later hb4 d1
      replace P := Lib.hid (P.out.below hb4)
      replace Q := Lib.hid (Q.out.below hb4)
      replace B1 : Hid (Below w.heap.size w w4) := B1.out.trans (hb4.mono B1.out.size)
      clear hb4
      generalize boxLX k ps = lx at *
      generalize boxLY k ps = ly at *
      generalize boxHX k ps = hx at *
      generalize boxHY k ps = hy at *
      have z4 : w2.heap.size < w4.heap.size := World.block_lt_of_cell? _ _ d0
      have z5 : w1.heap.size < w4.heap.size := World.block_lt_of_cell? _ _ c0
      go_wp2_with fail
      refine (XB.out _ _ _ (Q.out.below (((Below.refl _ _).alloc (Nat.le_refl _) _).alloc (by simp) _))).mono ?_
      rintro e w5 ⟨rfl, hb5⟩
      have hb45 : Below w4.heap.size w4 w5 := (((Below.refl _ _).alloc (Nat.le_refl _) _).alloc (by simp) _).trans (hb5.mono (by simp; omega))
      have p0 := cell_later hb5 (a := ⟨w4.heap.size, 0, none⟩) (v := .int .i64 lx) (by simp [go_sem])
      have p1 := cell_later hb5 (a := ⟨w4.heap.size, 1, none⟩) (v := .int .i64 ly) (by simp [go_sem])
      have p2 := cell_later hb5 (a := ⟨w4.heap.size + 1, 0, none⟩) (v := .int .i64 hx) (by simp [go_sem])
      have p3 := cell_later hb5 (a := ⟨w4.heap.size + 1, 1, none⟩) (v := .int .i64 hy) (by simp [go_sem])
      replace c0 := cell_later hb45 c0
      replace c1 := cell_later hb45 c1
      replace d0 := cell_later hb45 d0
      replace d1 := cell_later hb45 d1
      replace P := Lib.hid (P.out.below hb45)
      replace Q := Lib.hid (Q.out.below hb45)
      replace B1 : Hid (Below w.heap.size w w5) := B1.out.trans (hb45.mono B1.out.size)
      clear hb5 hb45
      have z6 : w2.heap.size < w5.heap.size := World.block_lt_of_cell? _ _ d0
      have z7 : w1.heap.size < w5.heap.size := World.block_lt_of_cell? _ _ c0
      have z8 : w4.heap.size < w5.heap.size := World.block_lt_of_cell? _ _ p0
      have z9 : w4.heap.size + 1 < w5.heap.size := World.block_lt_of_cell? _ _ p2
      go_upto_region 11 with (fail)
      obtain ⟨v, hv⟩ : ∃ v, v = (w5.alloc (.cells #[.int .i64 lx, .int .i64 ly] 32)).alloc (.cells #[.int .i64 hx, .int .i64 hy] 32) := ⟨_, rfl⟩
      rw [← hv]
      have hbv : Below w5.heap.size w5 v := by rw [hv]; exact ((Below.refl _ _).alloc (Nat.le_refl _) _).alloc (by simp) _
      have q0 : v.cell? ⟨w5.heap.size, 0, none⟩ = some (.int .i64 lx) := by rw [hv]; simp [go_sem]
      have q1 : v.cell? ⟨w5.heap.size, 1, none⟩ = some (.int .i64 ly) := by rw [hv]; simp [go_sem]
      have q2 : v.cell? ⟨w5.heap.size + 1, 0, none⟩ = some (.int .i64 hx) := by rw [hv]; simp [go_sem]
      have q3 : v.cell? ⟨w5.heap.size + 1, 1, none⟩ = some (.int .i64 hy) := by rw [hv]; simp [go_sem]
      replace c0 := cell_later hbv c0
      replace c1 := cell_later hbv c1
      replace d0 := cell_later hbv d0
      replace d1 := cell_later hbv d1
      replace p0 := cell_later hbv p0
      replace p1 := cell_later hbv p1
      replace p2 := cell_later hbv p2
      replace p3 := cell_later hbv p3
      replace P := Lib.hid (P.out.below hbv)
      replace Q := Lib.hid (Q.out.below hbv)
      replace B1 : Hid (Below w.heap.size w v) := B1.out.trans (hbv.mono B1.out.size)
      clear hv hbv
      have e1 : ptEq (lx, ly) (lx, ly) = true := by simp [ptEq]
      have e2 : ptEq (hx, hy) (hx, hy) = true := by simp [ptEq]
      have e3 : IntKind.i64.wrap (-ar) = -ar := IntWalk.i64_in _ (by omega)
      have hps : ps.length ≤ 1048576 := by omega
      have SS : Hid (∀ a c a' c' u, PtsAt u a ps → PtsAt u a' ps → Calls Try.prog 11 #[.agg #[.int .i64 k, .slice a ps.length c], .agg #[.int .i64 k, .slice a' ps.length c']] u fun e w' => e = .returned (.bool true) ∧ Below u.heap.size u w') := fun a c a' c' u h h' => (implShapeSame_any k k a a' c c' ps ps u h h' hps hps).mono fun e w' ⟨he, hb⟩ => ⟨by rw [he]; simp [ptsEq], hb⟩
      go_cut [2] (fun s2 wx => s2 = .bool true ∧ Below v.heap.size v wx)
      case first =>
        go_region_held3 (fun w' => w'.cell? ⟨w1.heap.size, 0, none⟩ = some (.int .i64 k) ∧ w'.cell? ⟨w1.heap.size, 1, none⟩ = some (.slice (some ⟨g, 0, none⟩) ps.length c2) ∧ w'.cell? ⟨w2.heap.size, 0, none⟩ = some (.int .i64 rk) ∧ w'.cell? ⟨w2.heap.size, 1, none⟩ = some (.slice ab rp.length cb) ∧ w'.cell? ⟨w4.heap.size, 0, none⟩ = some (.int .i64 lx) ∧ w'.cell? ⟨w4.heap.size, 1, none⟩ = some (.int .i64 ly) ∧ w'.cell? ⟨w4.heap.size + 1, 0, none⟩ = some (.int .i64 hx) ∧ w'.cell? ⟨w4.heap.size + 1, 1, none⟩ = some (.int .i64 hy) ∧ w'.cell? ⟨w5.heap.size, 0, none⟩ = some (.int .i64 lx) ∧ w'.cell? ⟨w5.heap.size, 1, none⟩ = some (.int .i64 ly) ∧ w'.cell? ⟨w5.heap.size + 1, 0, none⟩ = some (.int .i64 hx) ∧ w'.cell? ⟨w5.heap.size + 1, 1, none⟩ = some (.int .i64 hy) ∧ Below v.heap.size v w')
          (first
            | exact ⟨c0, c1, d0, d1, p0, p1, p2, p3, q0, q1, q2, q3, (Below.refl _ _).drew⟩
            | (go_split_ands
               rename_i hS0 hS1 hS2 hS3 hS4 hS5 hS6 hS7 hS8 hS9 hSA hSB hSC
               exact ⟨cell_later hbn hS0, cell_later hbn hS1, cell_later hbn hS2, cell_later hbn hS3, cell_later hbn hS4, cell_later hbn hS5, cell_later hbn hS6, cell_later hbn hS7, cell_later hbn hS8, cell_later hbn hS9, cell_later hbn hSA, cell_later hbn hSB, hSC.trans (hbn.mono hSC.size)⟩))
          (first
            | (go_at_call 17
               refine (OB.out _ _ _ ?_).mono ?_
               · (go_split_ands; exact Q.out.below (by assumption))
               rintro e wn ⟨rfl, hbn⟩)
            | (go_at_call 10
               refine (BB.out _ _ _ ?_).mono ?_
               · (go_split_ands; exact Q.out.below (by assumption))
               rintro e wn ⟨aW, cW, rfl, hW, _, _, hbn⟩)
            | (go_at_call 11
               refine (SS.out _ _ _ _ _ ?_ ?_).mono ?_
               · (first | exact (by assumption) | exact hW)
               · (go_split_ands; exact P.out.below (by assumption))
               rintro e wn ⟨rfl, hbn⟩)
            | (go_at_call 13
               refine (implShapeArea_any _ _ _ _ _ ?_).mono ?_
               · (go_split_ands; first | exact Q.out.below (by assumption) | exact P.out.below (by assumption))
               rintro e wn ⟨rfl, hbn⟩
               first | rw [y4] | rw [har]))
        all_goals (go_wp2_with fail; go_meet; go_split_ands; exact ⟨by simp, by assumption⟩)
      case rest =>
        obtain ⟨rfl, hbc⟩ := hcut
        go_wp2
        go_ret
        exact ⟨rfl, B1.out.trans (hbc.mono B1.out.size)⟩
    · have hok' : shapeOk k ps = false := by simpa using hok
      obtain ⟨rfl, rfl⟩ := NO.out hok'
      clear hok YES NO
      go_wp2_with fail
      refine (IA.out _ _ _ P.out).mono ?_
      rintro e w4 ⟨rfl, hb4⟩
      replace B1 : Hid (Below w.heap.size w w4) := B1.out.trans (hb4.mono B1.out.size)
      clear hb4
      go_wp2
      go_ret
      exact ⟨rfl, B1.out⟩

set_option maxHeartbeats 400000 in
theorem fnShapeBack_large (a : Option Addr) (n cap : Nat) (w : World) (hn : 1048576 < n) :
    Calls Try.prog 3 #[.slice a n cap] w fun e w' => e = .returned (.bool true) ∧ Below w.heap.size w w' := by
  have hg : (1048576 : Int) < (n : Int) := by omega
  go_enter Try.func3, Try.ntmps3
  go_wp2
  go_ret
  exact ⟨rfl, Below.refl _ _⟩

theorem fnShapeBack_all (a : Option Addr) (n cap : Nat) (w : World) (h : CodeAt w a n) (hc : n ≤ cap) (_ : n ≤ maxLen) :
    Calls Try.prog 3 #[.slice a n cap] w fun e w' => e = .returned (.bool true) ∧ Below w.heap.size w w' := by
  by_cases h1 : n ≤ 1048576
  · exact fnShapeBack_walk a n cap w h h1 hc
  · exact fnShapeBack_large a n cap w (by omega)

set_option maxRecDepth 100000 in
theorem fnShapeBack_lifted (os : Os) (started : os.Started) (H : Type) (enc : TypeId × Value → H) :
    ReturnsInHanded {} Try.checked os 3 .any (Rows.fnShapeBackSpec.pre6 enc Try.prog Try.f3 Rows.fnShapeBackRow.domain false) (Rows.fnShapeBackSpec.post enc Try.prog Try.f3 false true false false) := by
  refine returnsInHanded_of_change (C := Try.checked) own started (by kernel_rfl) Try.func3
    (ChangeSpec.witness6 (enc := enc) (C := Try.checked) false ⟨#[], #[.slice none 0 0], []⟩ 8 (by kernel_rfl) (by kernel_rfl) (by kernel_rfl) (by kernel_rfl)) ?_
  intro W base args ds gs before hval0 hW _ _
  have hval : ∀ (j : Nat) t v, Try.f3.params[j]? = some t → args[j]? = some v → Value.okWide Try.prog W .any base t v := hval0
  have hW' := hW
  obtain ⟨p, q, hA0, hV, rfl, _, _⟩ := hW
  have hA : DataW.TrodAll enc Try.prog W 0 (fun _ => true) true Try.f3.params.toList args.toList ds p := hA0
  rw [Try.params3] at hA hval
  obtain ⟨v0, vs0, d0, ds0, p0, q0, hargs, rfl, rfl, h0, r0⟩ := trodAll_cons hA
  obtain ⟨rfl, rfl, rfl⟩ := trodAll_nil r0
  obtain rfl : args = #[v0] := by cases args; simp_all
  obtain ⟨rfl, rfl⟩ := trodVars_none hV
  have k0 := h0
  have lt0 : ∀ x ∈ p0, x.block < W.heap.size := by obtain ⟨m, hm⟩ := k0; exact DataW.trod_lt m _ _ _ hm
  obtain ⟨a0, n0, c0, rfl, f0, g0, m0⟩ := open_code (hval 0 22 v0 rfl rfl) h0
  clear hA0 hval0
  refine (fnShapeBack_all a0 n0 c0 W f0 g0 m0).mono fun e W' ⟨he, bel⟩ => ?_
  subst he
  exact ⟨_, rfl, _, _, _, [], _, [], hW', trodAll_mk1 (shut_bool Try.underlying4 _), (trodAll_cons_mk (Below.trod laidOut (by kernel_rfl) (of_decide_eq_true (by kernel_rfl)) k0 bel lt0) trodAll_mk0), rfl, bel.frame _, fun h => by cases h⟩

theorem fnShapeBack_over : Rows.fnShapeBackRow.holds Try.pinned (OpenSpec.ofChange Rows.fnShapeBackSpec) :=
  OpenClaim.holds_of_wide 3 Try.f3 rfl rfl rfl rfl rfl rfl rfl ⟨rfl, rfl, rfl, rfl, rfl⟩ rfl rfl rfl rfl rfl (by kernel_rfl) Try.func3 (by kernel_rfl)
    (of_decide_eq_true (by kernel_rfl)) (by unfold Func.isWrapper; first | (rw [if_pos (by decide +kernel)]; kernel_rfl) | (rw [if_neg (by decide +kernel)]; exact ⟨rfl, rfl⟩))
    (fun os started H enc _ => fnShapeBack_lifted os started H enc)

/-- the given statement -/
theorem fnShapeBack_holds : Rows.FnShapeBackSaid := fnShapeBack_over

end Go.Proofs.Ytdfadpejddhbkaa
