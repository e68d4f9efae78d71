/- Proved here: the law FnShapeMove answers true at every code, and leaves it as it was; no condition. -/
import Derived.Test.YtdfadpejddhbkaaWDrawMove
import Derived.Test.YtdfadpejddhbkaaWShapeMath
import Derived.Test.YtdfadpejddhbkaaWShape
import Derived.Deep.RegionHeld3
import Derived.Deep.DeepCutAuto
namespace Go.Proofs.Ytdfadpejddhbkaa
set_option linter.unusedVariables false
open Go.ChangeShapes Go.WideShapes Go.ChangeAt Go.RowKit

theorem boxes_few {k : Int} {ps : List (Int × Int)} (h : shapeOk k ps = true) : (-1000 ≤ boxLX k ps ∧ boxLX k ps ≤ 1000) ∧ (-1000 ≤ boxLY k ps ∧ boxLY k ps ≤ 1000) ∧ (-1000 ≤ boxHX k ps ∧ boxHX k ps ≤ 1000) ∧ (-1000 ≤ boxHY k ps ∧ boxHY k ps ≤ 1000) := by
  have hp := ok_pos' h
  obtain ⟨_, _, hg⟩ := shapeOk_parts h
  obtain ⟨m, hm⟩ : ∃ m, ps.length = m + 1 := ⟨ps.length - 1, by omega⟩
  obtain ⟨i1, h1, e1⟩ := least_at (px ps) (loX ps) rfl (fun _ => rfl) m
  obtain ⟨i2, h2, e2⟩ := least_at (py ps) (loY ps) rfl (fun _ => rfl) m
  obtain ⟨i3, h3, e3⟩ := most_at (px ps) (hiX ps) rfl (fun _ => rfl) m
  obtain ⟨i4, h4, e4⟩ := most_at (py ps) (hiY ps) rfl (fun _ => rfl) m
  have g1 := good_bd hg (i := i1) (by omega)
  have g2 := good_bd hg (i := i2) (by omega)
  have g3 := good_bd hg (i := i3) (by omega)
  have g4 := good_bd hg (i := i4) (by omega)
  unfold boxLX boxLY boxHX boxHY
  simp only [h, if_true, hm]
  exact ⟨by omega, by omega, by omega, by omega⟩

theorem move_no {k : Int} {ps : List (Int × Int)} {dx dy : Int} (h : moveB k ps dx dy = false) : moveK k ps dx dy = 0 ∧ moveP k ps dx dy = [] := by
  unfold moveB at h
  unfold moveK moveP
  cases hm : moveIn k ps dx dy
  · simp
  · rw [hm] at h
    simp only [if_true, mvB] at h
    simp [mvK, mvP, h]

theorem move_yes {k : Int} {ps : List (Int × Int)} {dx dy : Int} (h : moveB k ps dx dy = true) : shapeOk k ps = true ∧ shapeOk k (moved ps dx dy) = true ∧ moveK k ps dx dy = k ∧ moveP k ps dx dy = moved ps dx dy ∧ (-2000 ≤ dx ∧ dx ≤ 2000) ∧ -2000 ≤ dy ∧ dy ≤ 2000 := by
  unfold moveB at h
  unfold moveK moveP
  cases hm : moveIn k ps dx dy
  · rw [hm] at h; simp at h
  · rw [hm] at h
    simp only [if_true, mvB] at h
    obtain ⟨h1, _, _, h4, h5⟩ := moveIn_parts hm
    exact ⟨h1, h, by simp [mvK, h], by simp [mvP, h], h4, h5⟩

theorem move_again {k : Int} {ps : List (Int × Int)} {dx dy : Int} (h : moveB k ps dx dy = true) : moveK k (moved ps dx dy) (-dx) (-dy) = k ∧ moveP k (moved ps dx dy) (-dx) (-dy) = ps ∧ moveB k (moved ps dx dy) (-dx) (-dy) = true := by
  obtain ⟨h1, h2, _, _, h5, h6⟩ := move_yes h
  have hm : moveIn k (moved ps dx dy) (-dx) (-dy) = true := by
    unfold moveIn far2
    simp only [h2, Bool.true_and, Bool.and_eq_true, decide_eq_true_eq]
    omega
  unfold moveK moveP moveB
  simp only [hm, if_true, mvK, mvP, mvB, moved_back, h1]
  exact ⟨trivial, trivial, trivial⟩

set_option maxRecDepth 100000 in
set_option maxHeartbeats 8000000 in
theorem fnShapeMove_walk (a : Option Addr) (n cap : Nat) (w : World) (h : CodeAt w a n) (hl : n ≤ 1048576) (hc : n ≤ cap) :
    Calls Try.prog 4 #[.slice a n cap] w fun e w' => e = .returned (.bool true) ∧ Below w.heap.size w w' := by
  have HC := Lib.hid h
  clear h
  have hg : ¬ (1048576 : Int) < (n : Int) := by omega
  have heq := run_ptEql
  go_enter Try.func4, Try.ntmps4
  go_wp2_with fail
  refine (drawShapeMove_any _ _ _ _ HC.out hl hc).mono ?_
  rintro e w1 ⟨k, g, c2, ps, dx, dy, rfl, hpt, hlen, hdx, hdy, hb1⟩
  have P := Lib.hid hpt
  have B1 := Lib.hid hb1
  clear hpt hb1
  have hps : ps.length ≤ 1048576 := by omega
  have IM : Hid (∀ a c u, PtsAt u a ps → Calls Try.prog 19 #[.agg #[.int .i64 k, .slice a ps.length c], .int .i64 dx, .int .i64 dy] u (MoveAns u (moveK k ps dx dy) (moveP k ps dx dy) (moveB k ps dx dy))) := fun a c u h => implShapeMove_any k a c ps dx dy u h
  have SM : Hid (∀ a c u, PtsAt u a ps → Calls Try.prog 20 #[.agg #[.int .i64 k, .slice a ps.length c], .int .i64 dx, .int .i64 dy] u (MoveAns u (moveK k ps dx dy) (moveP k ps dx dy) (moveB k ps dx dy))) := fun a c u h => specShapeMove_any k a c ps dx dy u h hps
  have NO : Hid (moveB k ps dx dy = false → moveK k ps dx dy = 0 ∧ moveP k ps dx dy = []) := fun h => move_no h
  have YES : Hid (moveB k ps dx dy = true → (moveK (moveK k ps dx dy) (moveP k ps dx dy) (-dx) (-dy) = k ∧ moveP (moveK k ps dx dy) (moveP k ps dx dy) (-dx) (-dy) = ps ∧ moveB (moveK k ps dx dy) (moveP k ps dx dy) (-dx) (-dy) = true) ∧ shapeArea (moveK k ps dx dy) (moveP k ps dx dy) = shapeArea k ps ∧ (boxLX (moveK k ps dx dy) (moveP k ps dx dy) = boxLX k ps + dx ∧ boxLY (moveK k ps dx dy) (moveP k ps dx dy) = boxLY k ps + dy ∧ boxHX (moveK k ps dx dy) (moveP k ps dx dy) = boxHX k ps + dx ∧ boxHY (moveK k ps dx dy) (moveP k ps dx dy) = boxHY k ps + dy) ∧ shapeOk k ps = true) := fun h => by
    obtain ⟨h1, h2, h3, h4, _⟩ := move_yes h
    rw [h3, h4]
    exact ⟨move_again h, area_moved h1 h2, boxes_moved h1 h2, h1⟩
  have hml : (moveP k ps dx dy).length ≤ 1048576 := moveP_len hps
  generalize moveK k ps dx dy = mk at *
  generalize moveP k ps dx dy = mp at *
  generalize moveB k ps dx dy = ok at *
  have SS : Hid (∀ a c a' c' u, PtsAt u a mp → PtsAt u a' mp → Calls Try.prog 11 #[.agg #[.int .i64 mk, .slice a mp.length c], .agg #[.int .i64 mk, .slice a' mp.length c']] u fun e w' => e = .returned (.bool true) ∧ Below u.heap.size u w') := fun a c a' c' u h h' => (implShapeSame_any mk mk a a' c c' mp mp u h h' hml hml).mono fun e w' ⟨he, hb⟩ => ⟨by rw [he]; simp [ptsEq], hb⟩
  go_wp2_with fail
  refine (IM.out _ _ _ (P.out.below ((Below.refl _ _).alloc (Nat.le_refl _) _))).mono ?_
  rintro e w2 ⟨am, cm, rfl, hq, _, _, hb2⟩
  have hb12 : Below w1.heap.size w1 w2 := ((Below.refl _ _).alloc (Nat.le_refl _) _).trans (hb2.mono (by simp))
  have c0 := cell_later hb2 (a := ⟨w1.heap.size, 0, none⟩) (v := .int .i64 k) (by simp [go_sem])
  have c1 := cell_later hb2 (a := ⟨w1.heap.size, 1, none⟩) (v := .slice (some ⟨g, 0, none⟩) ps.length c2) (by simp [go_sem])
  have Q := Lib.hid hq
  have z1 : w1.heap.size < w2.heap.size := World.block_lt_of_cell? _ _ c0
  replace P := Lib.hid (P.out.below hb12)
  replace B1 : Hid (Below w.heap.size w w2) := B1.out.trans (hb12.mono B1.out.size)
  clear hb2 hb12 hq
  go_wp2_with fail
  refine (SM.out _ _ _ (P.out.below ((Below.refl _ _).alloc (Nat.le_refl _) _))).mono ?_
  rintro e w3 ⟨ax, cx, rfl, hx, _, _, hb3⟩
  have hb23 : Below w2.heap.size w2 w3 := ((Below.refl _ _).alloc (Nat.le_refl _) _).trans (hb3.mono (by simp))
  have d0 := cell_later hb3 (a := ⟨w2.heap.size, 0, none⟩) (v := .int .i64 mk) (by simp [go_sem])
  have d1 := cell_later hb3 (a := ⟨w2.heap.size, 1, none⟩) (v := .slice am mp.length cm) (by simp [go_sem])
  replace c0 := cell_later hb23 c0
  replace c1 := cell_later hb23 c1
  replace P := Lib.hid (P.out.below hb23)
  replace Q := Lib.hid (Q.out.below hb23)
  replace B1 : Hid (Below w.heap.size w w3) := B1.out.trans (hb23.mono B1.out.size)
  have X := Lib.hid hx
  have z2 : w1.heap.size < w3.heap.size := World.block_lt_of_cell? _ _ c0
  have z3 : w2.heap.size < w3.heap.size := World.block_lt_of_cell? _ _ d0
  clear hb3 hb23 hx SM IM
  cases ok
  · obtain ⟨rfl, rfl⟩ := NO.out rfl
    clear YES NO
    go_wp2_with fail
    refine (SS.out _ _ _ _ _ (Q.out.below ((Below.refl _ _).alloc (Nat.le_refl _) _)) (X.out.below ((Below.refl _ _).alloc (Nat.le_refl _) _))).mono ?_
    rintro e w4 ⟨rfl, hb4⟩
    have hb34 : Below w3.heap.size w3 w4 := ((Below.refl _ _).alloc (Nat.le_refl _) _).trans (hb4.mono (by simp))
    replace c0 := cell_later hb34 c0
    replace c1 := cell_later hb34 c1
    replace d0 := cell_later hb34 d0
    replace d1 := cell_later hb34 d1
    replace B1 : Hid (Below w.heap.size w w4) := B1.out.trans (hb34.mono B1.out.size)
    clear hb4 hb34
    go_wp2
    go_ret
    exact ⟨rfl, B1.out⟩
  · obtain ⟨⟨y1, y2, y3⟩, y4, ⟨y5, y6, y7, y8⟩, hok⟩ := YES.out rfl
    have few := boxes_few hok
    have IB : Hid (∀ a c u, PtsAt u a mp → Calls Try.prog 19 #[.agg #[.int .i64 mk, .slice a mp.length c], .int .i64 (-dx), .int .i64 (-dy)] u (MoveAns u k ps true)) := fun a c u h => by
      have := implShapeMove_any mk a c mp (-dx) (-dy) u h
      rw [y1, y2, y3] at this
      exact this
    have XB : Hid (∀ a c u, PtsAt u a mp → Calls Try.prog 16 #[.agg #[.int .i64 mk, .slice a mp.length c]] u fun e w' => e = .returned (.tuple #[.agg #[.int .i64 (boxLX k ps + dx), .int .i64 (boxLY k ps + dy)], .agg #[.int .i64 (boxHX k ps + dx), .int .i64 (boxHY k ps + dy)]]) ∧ Below u.heap.size u w') := fun a c u h => by
      have := implShapeBox_any mk a c mp u h
      rw [y5, y6, y7, y8] at this
      exact this
    have XA : Hid (∀ a c u, PtsAt u a ps → Calls Try.prog 16 #[.agg #[.int .i64 k, .slice a ps.length c]] u fun e w' => e = .returned (.tuple #[.agg #[.int .i64 (boxLX k ps), .int .i64 (boxLY k ps)], .agg #[.int .i64 (boxHX k ps), .int .i64 (boxHY k ps)]]) ∧ Below u.heap.size u w') := fun a c u h => implShapeBox_any k a c ps u h
    generalize har : shapeArea k ps = ar at y4
    generalize boxLX k ps = lx at *
    generalize boxLY k ps = ly at *
    generalize boxHX k ps = hx at *
    generalize boxHY k ps = hy at *
    clear YES NO y1 y2 y3 y5 y6 y7 y8 hok
    have n1 : IntKind.i64.wrap (-dx) = -dx := IntWalk.i64_in _ (by omega)
    have n2 : IntKind.i64.wrap (-dy) = -dy := IntWalk.i64_in _ (by omega)
    go_wp2_with fail
    refine (SS.out _ _ _ _ _ (Q.out.below ((Below.refl _ _).alloc (Nat.le_refl _) _)) (X.out.below ((Below.refl _ _).alloc (Nat.le_refl _) _))).mono ?_
    rintro e w4 ⟨rfl, hb4⟩
    have hb34 : Below w3.heap.size w3 w4 := ((Below.refl _ _).alloc (Nat.le_refl _) _).trans (hb4.mono (by simp))
    replace c0 := cell_later hb34 c0
    replace c1 := cell_later hb34 c1
    replace d0 := cell_later hb34 d0
    replace d1 := cell_later hb34 d1
    replace P := Lib.hid (P.out.below hb34)
    replace Q := Lib.hid (Q.out.below hb34)
    replace B1 : Hid (Below w.heap.size w w4) := B1.out.trans (hb34.mono B1.out.size)
    have z4 : w2.heap.size < w4.heap.size := World.block_lt_of_cell? _ _ d0
    have z5 : w1.heap.size < w4.heap.size := World.block_lt_of_cell? _ _ c0
    clear hb4 hb34 X SS
    go_wp2_with fail
    refine (IB.out _ _ _ Q.out).mono ?_
    rintro e w5 ⟨ab, cb, rfl, hy', _, _, hb5⟩
    replace c0 := cell_later hb5 c0
    replace c1 := cell_later hb5 c1
    replace d0 := cell_later hb5 d0
    replace d1 := cell_later hb5 d1
    replace P := Lib.hid (P.out.below hb5)
    replace Q := Lib.hid (Q.out.below hb5)
    replace B1 : Hid (Below w.heap.size w w5) := B1.out.trans (hb5.mono B1.out.size)
    have Y := Lib.hid hy'
    have z6 : w2.heap.size < w5.heap.size := World.block_lt_of_cell? _ _ d0
    have z7 : w1.heap.size < w5.heap.size := World.block_lt_of_cell? _ _ c0
    clear hb5 hy' IB
    go_wp2_with fail
    refine (XA.out _ _ _ (P.out.below ((Below.refl _ _).alloc (Nat.le_refl _) _))).mono ?_
    rintro e w6 ⟨rfl, hb6⟩
    have hb56 : Below w5.heap.size w5 w6 := ((Below.refl _ _).alloc (Nat.le_refl _) _).trans (hb6.mono (by simp))
    have e0 := cell_later hb6 (a := ⟨w5.heap.size, 0, none⟩) (v := .int .i64 k) (by simp [go_sem])
    have e1 := cell_later hb6 (a := ⟨w5.heap.size, 1, none⟩) (v := .slice ab ps.length cb) (by simp [go_sem])
    replace c0 := cell_later hb56 c0
    replace c1 := cell_later hb56 c1
    replace d0 := cell_later hb56 d0
    replace d1 := cell_later hb56 d1
    replace P := Lib.hid (P.out.below hb56)
    replace Q := Lib.hid (Q.out.below hb56)
    replace Y := Lib.hid (Y.out.below hb56)
    replace B1 : Hid (Below w.heap.size w w6) := B1.out.trans (hb56.mono B1.out.size)
    have z8 : w2.heap.size < w6.heap.size := World.block_lt_of_cell? _ _ d0
    have z9 : w1.heap.size < w6.heap.size := World.block_lt_of_cell? _ _ c0
    have zA : w5.heap.size < w6.heap.size := World.block_lt_of_cell? _ _ e0
    clear hb6 hb56 XA
    go_wp2_with fail
    refine (XB.out _ _ _ (Q.out.below (((Below.refl _ _).alloc (Nat.le_refl _) _).alloc (by simp) _))).mono ?_
    rintro e w7 ⟨rfl, hb7⟩
    have hb67 : Below w6.heap.size w6 w7 := (((Below.refl _ _).alloc (Nat.le_refl _) _).alloc (by simp) _).trans (hb7.mono (by simp; omega))
    have p0 := cell_later hb7 (a := ⟨w6.heap.size, 0, none⟩) (v := .int .i64 lx) (by simp [go_sem])
    have p1 := cell_later hb7 (a := ⟨w6.heap.size, 1, none⟩) (v := .int .i64 ly) (by simp [go_sem])
    have p2 := cell_later hb7 (a := ⟨w6.heap.size + 1, 0, none⟩) (v := .int .i64 hx) (by simp [go_sem])
    have p3 := cell_later hb7 (a := ⟨w6.heap.size + 1, 1, none⟩) (v := .int .i64 hy) (by simp [go_sem])
    replace c0 := cell_later hb67 c0
    replace c1 := cell_later hb67 c1
    replace d0 := cell_later hb67 d0
    replace d1 := cell_later hb67 d1
    replace e0 := cell_later hb67 e0
    replace e1 := cell_later hb67 e1
    replace P := Lib.hid (P.out.below hb67)
    replace Q := Lib.hid (Q.out.below hb67)
    replace Y := Lib.hid (Y.out.below hb67)
    replace B1 : Hid (Below w.heap.size w w7) := B1.out.trans (hb67.mono B1.out.size)
    have zB : w2.heap.size < w7.heap.size := World.block_lt_of_cell? _ _ d0
    have zC : w1.heap.size < w7.heap.size := World.block_lt_of_cell? _ _ c0
    have zD : w5.heap.size < w7.heap.size := World.block_lt_of_cell? _ _ e0
    have zE : w6.heap.size < w7.heap.size := World.block_lt_of_cell? _ _ p0
    have zF : w6.heap.size + 1 < w7.heap.size := World.block_lt_of_cell? _ _ p2
    clear hb7 hb67 XB
    go_upto_region 13 with (fail)
    obtain ⟨v, hv⟩ : ∃ v, v = (w7.alloc (.cells #[.int .i64 (lx + dx), .int .i64 (ly + dy)] 32)).alloc (.cells #[.int .i64 (hx + dx), .int .i64 (hy + dy)] 32) := ⟨_, rfl⟩
    rw [← hv]
    have hbv : Below w7.heap.size w7 v := by rw [hv]; exact (((Below.refl _ _).alloc (Nat.le_refl _) _).alloc (by simp) _)
    have q0 : v.cell? ⟨w7.heap.size, 0, none⟩ = some (.int .i64 (lx + dx)) := by rw [hv]; simp [go_sem]
    have q1 : v.cell? ⟨w7.heap.size, 1, none⟩ = some (.int .i64 (ly + dy)) := by rw [hv]; simp [go_sem]
    have q2 : v.cell? ⟨w7.heap.size + 1, 0, none⟩ = some (.int .i64 (hx + dx)) := by rw [hv]; simp [go_sem]
    have q3 : v.cell? ⟨w7.heap.size + 1, 1, none⟩ = some (.int .i64 (hy + dy)) := by rw [hv]; simp [go_sem]
    replace c0 := cell_later hbv c0
    replace c1 := cell_later hbv c1
    replace d0 := cell_later hbv d0
    replace d1 := cell_later hbv d1
    replace e0 := cell_later hbv e0
    replace e1 := cell_later hbv e1
    replace p0 := cell_later hbv p0
    replace p1 := cell_later hbv p1
    replace p2 := cell_later hbv p2
    replace p3 := cell_later hbv p3
    replace P := Lib.hid (P.out.below hbv)
    replace Q := Lib.hid (Q.out.below hbv)
    replace Y := Lib.hid (Y.out.below hbv)
    replace B1 : Hid (Below w.heap.size w v) := B1.out.trans (hbv.mono B1.out.size)
    clear hv hbv
    have x1 : ptEq (lx + dx, ly + dy) (lx + dx, ly + dy) = true := by simp [ptEq]
    have x2 : ptEq (hx + dx, hy + dy) (hx + dx, hy + dy) = true := by simp [ptEq]
    have x3 : IntKind.i64.wrap (lx + dx) = lx + dx := IntWalk.i64_in _ (by omega)
    have x4 : IntKind.i64.wrap (ly + dy) = ly + dy := IntWalk.i64_in _ (by omega)
    have x5 : IntKind.i64.wrap (hx + dx) = hx + dx := IntWalk.i64_in _ (by omega)
    have x6 : IntKind.i64.wrap (hy + dy) = hy + dy := IntWalk.i64_in _ (by omega)
    have ST : Hid (∀ a c a' c' u, PtsAt u a ps → PtsAt u a' ps → Calls Try.prog 11 #[.agg #[.int .i64 k, .slice a ps.length c], .agg #[.int .i64 k, .slice a' ps.length c']] u fun e w' => e = .returned (.bool true) ∧ Below u.heap.size u w') := fun a c a' c' u h h' => (implShapeSame_any k k a a' c c' ps ps u h h' hps hps).mono fun e w' ⟨he, hb⟩ => ⟨by rw [he]; simp [ptsEq], hb⟩
    clear few hdx hdy n1 n2
    go_cut [2] (fun s2 wx => s2 = .bool true ∧ Below v.heap.size v wx)
    case first =>
      go_region_held3 (fun w' => w'.cell? ⟨w1.heap.size, 0, none⟩ = some (.int .i64 k) ∧ w'.cell? ⟨w1.heap.size, 1, none⟩ = some (.slice (some ⟨g, 0, none⟩) ps.length c2) ∧ w'.cell? ⟨w2.heap.size, 0, none⟩ = some (.int .i64 mk) ∧ w'.cell? ⟨w2.heap.size, 1, none⟩ = some (.slice am mp.length cm) ∧ w'.cell? ⟨w5.heap.size, 0, none⟩ = some (.int .i64 k) ∧ w'.cell? ⟨w5.heap.size, 1, none⟩ = some (.slice ab ps.length cb) ∧ w'.cell? ⟨w6.heap.size, 0, none⟩ = some (.int .i64 lx) ∧ w'.cell? ⟨w6.heap.size, 1, none⟩ = some (.int .i64 ly) ∧ w'.cell? ⟨w6.heap.size + 1, 0, none⟩ = some (.int .i64 hx) ∧ w'.cell? ⟨w6.heap.size + 1, 1, none⟩ = some (.int .i64 hy) ∧ w'.cell? ⟨w7.heap.size, 0, none⟩ = some (.int .i64 (lx + dx)) ∧ w'.cell? ⟨w7.heap.size, 1, none⟩ = some (.int .i64 (ly + dy)) ∧ w'.cell? ⟨w7.heap.size + 1, 0, none⟩ = some (.int .i64 (hx + dx)) ∧ w'.cell? ⟨w7.heap.size + 1, 1, none⟩ = some (.int .i64 (hy + dy)) ∧ Below v.heap.size v w')
        (first
          | exact ⟨c0, c1, d0, d1, e0, e1, p0, p1, p2, p3, q0, q1, q2, q3, (Below.refl _ _).drew⟩
          | (go_split_ands
             rename_i hS0 hS1 hS2 hS3 hS4 hS5 hS6 hS7 hS8 hS9 hS10 hS11 hS12 hS13 hSZ
             exact ⟨cell_later hbn hS0, cell_later hbn hS1, cell_later hbn hS2, cell_later hbn hS3, cell_later hbn hS4, cell_later hbn hS5, cell_later hbn hS6, cell_later hbn hS7, cell_later hbn hS8, cell_later hbn hS9, cell_later hbn hS10, cell_later hbn hS11, cell_later hbn hS12, cell_later hbn hS13, hSZ.trans (hbn.mono hSZ.size)⟩))
        (first
          | (go_at_call 11
             refine (ST.out _ _ _ _ _ ?_ ?_).mono ?_
             · (go_split_ands; exact Y.out.below (by assumption))
             · (go_split_ands; exact P.out.below (by assumption))
             rintro e wn ⟨rfl, hbn⟩)
          | (go_at_call 13
             refine (implShapeArea_any _ _ _ _ _ ?_).mono ?_
             · (go_split_ands; first | exact Q.out.below (by assumption) | exact P.out.below (by assumption))
             rintro e wn ⟨rfl, hbn⟩
             first | rw [y4] | rw [har]))
      all_goals (go_wp2_with fail; go_meet; go_split_ands; exact ⟨by simp, by assumption⟩)
    case rest =>
      obtain ⟨rfl, hbc⟩ := hcut
      go_wp2
      go_ret
      exact ⟨rfl, B1.out.trans (hbc.mono B1.out.size)⟩

set_option maxHeartbeats 400000 in
theorem fnShapeMove_large (a : Option Addr) (n cap : Nat) (w : World) (hn : 1048576 < n) :
    Calls Try.prog 4 #[.slice a n cap] w fun e w' => e = .returned (.bool true) ∧ Below w.heap.size w w' := by
  have hg : (1048576 : Int) < (n : Int) := by omega
  go_enter Try.func4, Try.ntmps4
  go_wp2
  go_ret
  exact ⟨rfl, Below.refl _ _⟩

theorem fnShapeMove_all (a : Option Addr) (n cap : Nat) (w : World) (h : CodeAt w a n) (hc : n ≤ cap) (_ : n ≤ maxLen) :
    Calls Try.prog 4 #[.slice a n cap] w fun e w' => e = .returned (.bool true) ∧ Below w.heap.size w w' := by
  by_cases h1 : n ≤ 1048576
  · exact fnShapeMove_walk a n cap w h h1 hc
  · exact fnShapeMove_large a n cap w (by omega)

set_option maxRecDepth 100000 in
theorem fnShapeMove_lifted (os : Os) (started : os.Started) (H : Type) (enc : TypeId × Value → H) :
    ReturnsInHanded {} Try.checked os 4 .any (Rows.fnShapeMoveSpec.pre6 enc Try.prog Try.f4 Rows.fnShapeMoveRow.domain false) (Rows.fnShapeMoveSpec.post enc Try.prog Try.f4 false true false false) := by
  refine returnsInHanded_of_change (C := Try.checked) own started (by kernel_rfl) Try.func4
    (ChangeSpec.witness6 (enc := enc) (C := Try.checked) false ⟨#[], #[.slice none 0 0], []⟩ 8 (by kernel_rfl) (by kernel_rfl) (by kernel_rfl) (by kernel_rfl)) ?_
  intro W base args ds gs before hval0 hW _ _
  have hval : ∀ (j : Nat) t v, Try.f4.params[j]? = some t → args[j]? = some v → Value.okWide Try.prog W .any base t v := hval0
  have hW' := hW
  obtain ⟨p, q, hA0, hV, rfl, _, _⟩ := hW
  have hA : DataW.TrodAll enc Try.prog W 0 (fun _ => true) true Try.f4.params.toList args.toList ds p := hA0
  rw [Try.params4] at hA hval
  obtain ⟨v0, vs0, d0, ds0, p0, q0, hargs, rfl, rfl, h0, r0⟩ := trodAll_cons hA
  obtain ⟨rfl, rfl, rfl⟩ := trodAll_nil r0
  obtain rfl : args = #[v0] := by cases args; simp_all
  obtain ⟨rfl, rfl⟩ := trodVars_none hV
  have k0 := h0
  have lt0 : ∀ x ∈ p0, x.block < W.heap.size := by obtain ⟨m, hm⟩ := k0; exact DataW.trod_lt m _ _ _ hm
  obtain ⟨a0, n0, c0, rfl, f0, g0, m0⟩ := open_code (hval 0 22 v0 rfl rfl) h0
  clear hA0 hval0
  refine (fnShapeMove_all a0 n0 c0 W f0 g0 m0).mono fun e W' ⟨he, bel⟩ => ?_
  subst he
  exact ⟨_, rfl, _, _, _, [], _, [], hW', trodAll_mk1 (shut_bool Try.underlying4 _), (trodAll_cons_mk (Below.trod laidOut (by kernel_rfl) (of_decide_eq_true (by kernel_rfl)) k0 bel lt0) trodAll_mk0), rfl, bel.frame _, fun h => by cases h⟩

theorem fnShapeMove_over : Rows.fnShapeMoveRow.holds Try.pinned (OpenSpec.ofChange Rows.fnShapeMoveSpec) :=
  OpenClaim.holds_of_wide 4 Try.f4 rfl rfl rfl rfl rfl rfl rfl ⟨rfl, rfl, rfl, rfl, rfl⟩ rfl rfl rfl rfl rfl (by kernel_rfl) Try.func4 (by kernel_rfl)
    (of_decide_eq_true (by kernel_rfl)) (by unfold Func.isWrapper; first | (rw [if_pos (by decide +kernel)]; kernel_rfl) | (rw [if_neg (by decide +kernel)]; exact ⟨rfl, rfl⟩))
    (fun os started H enc _ => fnShapeMove_lifted os started H enc)

/-- the given statement -/
theorem fnShapeMove_holds : Rows.FnShapeMoveSaid := fnShapeMove_over

end Go.Proofs.Ytdfadpejddhbkaa
