/- Proved here: the law FnExactShapeTurn answers true at every argument, and leaves it as it was; no condition. -/
import Derived.Test.YtopbpokcffdjnaaWShape
import Derived.Test.YtopbpokcffdjnaaWArg
import Derived.Test.YtopbpokcffdjnaaWTurnI
import Derived.Deep.RegionHeld3
import Derived.Deep.DeepCutAuto
namespace Go.Proofs.Ytopbpokcffdjnaa
set_option linter.unusedVariables false
open Go.ChangeShapes Go.WideShapes Go.ChangeAt Go.RowKit

set_option maxRecDepth 100000 in
set_option maxHeartbeats 6400000 in
theorem fnExactShapeTurn_walk (k : Int) (a : Option Addr) (cap : Nat) (ps : List (Int × Int)) (rk : Int) (rp : List (Int × Int)) (w : World) (hp : PtsAt w a ps) (hl : ps.length ≤ 1048576) (hr : rp.length ≤ 1048576)
    (hspec : ∀ (a : Option Addr) (cap : Nat) (w : World), PtsAt w a ps → ps.length ≤ cap → Calls Try.prog 31 #[.agg #[.int .i64 k, .slice a ps.length cap]] w (ShapeAns w rk rp))
    (himpl : ∀ (a : Option Addr) (cap : Nat) (w : World), PtsAt w a ps → ps.length ≤ cap → Calls Try.prog 32 #[.agg #[.int .i64 k, .slice a ps.length cap]] w (ShapeAns w rk rp)) :
    Calls Try.prog 9 #[.agg #[.int .i64 k, .slice a ps.length cap]] w fun e w' => e = .returned (.bool true) ∧ Below w.heap.size w w' := by
  have HP := Lib.hid hp
  have SPEC := Lib.hid hspec
  have IMPL := Lib.hid himpl
  clear hp hspec himpl
  go_enter Try.func9, Try.ntmps9
  go_wp2_with fail
  refine (szShape_fits _ _ _ _ _ _ (by omega) (by omega)).mono ?_
  rintro e w1 ⟨rfl, hb1⟩
  have c0 := cell_later hb1 (a := ⟨w.heap.size, 0, none⟩) (v := .int .i64 k) (by simp [go_sem])
  have c1 := cell_later hb1 (a := ⟨w.heap.size, 1, none⟩) (v := .slice a ps.length cap) (by simp [go_sem])
  have B1 : Hid (Below w.heap.size w w1) := ((Below.refl _ _).alloc (Nat.le_refl _) _).trans (hb1.mono (by simp))
  clear hb1
  go_wp2_with fail
  refine (toShape_any k a cap ps _ (HP.out.below B1.out) hl).mono ?_
  rintro e w2 ⟨b2, rfl, r2, _, hb2⟩
  replace c0 := cell_later hb2 c0
  replace c1 := cell_later hb2 c1
  have B2 : Hid (Below w.heap.size w w2) := B1.out.trans (hb2.mono B1.out.size)
  have H2 := Lib.hid (PtsAt.of_row r2)
  clear hb2 r2 B1
  go_wp2_with fail
  refine (SPEC.out _ _ _ H2.out (Nat.le_refl _)).mono ?_
  rintro e w3 ⟨aW, capW, rfl, hW, _, nW, hb3⟩
  replace c0 := cell_later hb3 c0
  replace c1 := cell_later hb3 c1
  have B3 : Hid (Below w.heap.size w w3) := B2.out.trans (hb3.mono B2.out.size)
  have W3 := Lib.hid hW
  have y0 : w.heap.size < w3.heap.size := World.block_lt_of_cell? _ _ c0
  have NW : Hid (∀ x, blk aW = some x → x < w3.heap.size) := fun x e => (nW x e).2
  clear hb3 B2 H2 hW nW
  go_wp2_with fail
  refine (toShape_any k a cap ps _ (HP.out.below (B3.out.alloc B3.out.size _)) hl).mono ?_
  rintro e w4 ⟨bX, rfl, rX, hbX, hb4⟩
  have hb34 : Below w3.heap.size w3 w4 := ((Below.refl _ _).alloc (Nat.le_refl _) _).trans (hb4.mono (by simp))
  have p0 := cell_later hb4 (a := ⟨w3.heap.size, 0, none⟩) (v := .int .i64 rk) (by simp [go_sem])
  have p1 := cell_later hb4 (a := ⟨w3.heap.size, 1, none⟩) (v := .slice aW rp.length capW) (by simp [go_sem])
  replace c0 := cell_later hb34 c0
  replace c1 := cell_later hb34 c1
  have B4 : Hid (Below w.heap.size w w4) := B3.out.trans (hb34.mono B3.out.size)
  have W4 := Lib.hid (W3.out.below hb34)
  have X4 := Lib.hid (PtsAt.of_row rX)
  have S4 : Hid (Soft w4 (some ⟨bX, 0, none⟩) ps.length) := Soft.of_row rX
  have y1 : w3.heap.size < bX := by simp at hbX; omega
  have y2 : bX < w4.heap.size := rX.lt
  have y3 : w.heap.size < w4.heap.size := World.block_lt_of_cell? _ _ c0
  have y4 : w3.heap.size < w4.heap.size := World.block_lt_of_cell? _ _ p0
  clear hb4 hb34 rX hbX B3
  go_wp2_with fail
  refine (IMPL.out _ _ _ (X4.out.below ((Below.refl _ _).alloc (Nat.le_refl _) _)) (Nat.le_refl _)).mono ?_
  rintro e w5 ⟨aG, capG, rfl, hG, sG, nG, hb5⟩
  have hb45 : Below w4.heap.size w4 w5 := ((Below.refl _ _).alloc (Nat.le_refl _) _).trans (hb5.mono (by simp))
  have d0 := cell_later hb5 (a := ⟨w4.heap.size, 0, none⟩) (v := .int .i64 k) (by simp [go_sem])
  have d1 := cell_later hb5 (a := ⟨w4.heap.size, 1, none⟩) (v := .slice (some ⟨bX, 0, none⟩) ps.length ps.length) (by simp [go_sem])
  replace c0 := cell_later hb45 c0
  replace c1 := cell_later hb45 c1
  replace p0 := cell_later hb45 p0
  replace p1 := cell_later hb45 p1
  have B5 : Hid (Below w.heap.size w w5) := B4.out.trans (hb45.mono B4.out.size)
  have W5 := Lib.hid (W4.out.below hb45)
  have X5 := Lib.hid (X4.out.below hb45)
  have S5 := Lib.hid (S4.out.below X4.out hb45)
  have G5 := Lib.hid hG
  have SG5 := Lib.hid sG
  have NG : Hid (∀ x, blk aG = some x → w4.heap.size < x ∧ x < w5.heap.size) := fun x e => ⟨by have := (nG x e).1; simp at this; omega, (nG x e).2⟩
  have y5 : w4.heap.size < w5.heap.size := World.block_lt_of_cell? _ _ d0
  have y6 : w3.heap.size < w5.heap.size := World.block_lt_of_cell? _ _ p0
  have y7 : w.heap.size < w5.heap.size := World.block_lt_of_cell? _ _ c0
  clear hb5 hb45 B4 W3 W4 X4 S4 hG sG nG
  go_wp2_with fail
  refine (eqShape_any _ _ _ _ _ _ _ _ _ (G5.out.below ((Below.refl _ _).alloc (Nat.le_refl _) _)) (W5.out.below ((Below.refl _ _).alloc (Nat.le_refl _) _)) hr hr).mono ?_
  rintro e w6 ⟨rfl, hb6⟩
  have hb56 : Below w5.heap.size w5 w6 := ((Below.refl _ _).alloc (Nat.le_refl _) _).trans (hb6.mono (by simp))
  have g0 := cell_later hb6 (a := ⟨w5.heap.size, 0, none⟩) (v := .int .i64 rk) (by simp [go_sem])
  have g1 := cell_later hb6 (a := ⟨w5.heap.size, 1, none⟩) (v := .slice aG rp.length capG) (by simp [go_sem])
  replace c0 := cell_later hb56 c0
  replace c1 := cell_later hb56 c1
  replace p0 := cell_later hb56 p0
  replace p1 := cell_later hb56 p1
  replace d0 := cell_later hb56 d0
  replace d1 := cell_later hb56 d1
  have B6 : Hid (Below w.heap.size w w6) := B5.out.trans (hb56.mono B5.out.size)
  have W6 := Lib.hid (W5.out.below hb56)
  have X6 := Lib.hid (X5.out.below hb56)
  have S6 := Lib.hid (S5.out.below X5.out hb56)
  have G6 := Lib.hid (G5.out.below hb56)
  have SG6 := Lib.hid (SG5.out.below G5.out hb56)
  have ee : ptsEq rp rp = true := by simp [ptsEq]
  clear hb6 hb56 B5 W5 X5 S5 SG5
  clear G5
  go_upto_region 10 with (fail)
  go_cut [31] (fun s31 wx => s31 = .bool false ∧ Below w6.heap.size w6 wx)
  case first =>
    go_region_held3 (fun w' => w'.cell? ⟨w.heap.size, 0, none⟩ = some (.int .i64 k) ∧ w'.cell? ⟨w.heap.size, 1, none⟩ = some (.slice a ps.length cap) ∧ w'.cell? ⟨w4.heap.size, 0, none⟩ = some (.int .i64 k) ∧ w'.cell? ⟨w4.heap.size, 1, none⟩ = some (.slice (some ⟨bX, 0, none⟩) ps.length ps.length) ∧ Below w6.heap.size w6 w')
      (first
        | exact ⟨c0, c1, d0, d1, (Below.refl _ _).drew⟩
        | (go_split_ands
           rename_i hS0 hS1 hS2 hS3 hS4
           exact ⟨cell_later hbn hS0, cell_later hbn hS1, cell_later hbn hS2, cell_later hbn hS3, hS4.trans (hbn.mono hS4.size)⟩))
      (first
        | (go_at_call 20
           refine (toShape_any k a cap ps _ ?_ hl).mono ?_
           · (go_split_ands; exact HP.out.below (B6.out.trans (Below.mono (by assumption) B6.out.size)))
           rintro e wn ⟨bA, rfl, rA, hbA, hbn⟩)
        | (go_at_call 22
           refine (eqShape_any _ _ _ _ _ _ _ _ _ ?_ ?_ hl hl).mono ?_
           · (go_split_ands; exact X6.out.below (by assumption))
           · (exact PtsAt.of_row (by assumption))
           rintro e wn ⟨rfl, hbn⟩))
    all_goals (go_wp2_with fail; go_meet; go_split_ands; exact ⟨by simp [ptsEq], by assumption⟩)
  case rest =>
    obtain ⟨rfl, hb7⟩ := hcut
    replace c0 := cell_later hb7 c0
    replace c1 := cell_later hb7 c1
    replace p0 := cell_later hb7 p0
    replace p1 := cell_later hb7 p1
    replace d0 := cell_later hb7 d0
    replace d1 := cell_later hb7 d1
    replace g0 := cell_later hb7 g0
    replace g1 := cell_later hb7 g1
    have B7 : Hid (Below w.heap.size w wc) := B6.out.trans (hb7.mono B6.out.size)
    have W7 := Lib.hid (W6.out.below hb7)
    have X7 := Lib.hid (X6.out.below hb7)
    have S7 := Lib.hid (S6.out.below X6.out hb7)
    have G7 := Lib.hid (G6.out.below hb7)
    have SG7 := Lib.hid (SG6.out.below G6.out hb7)
    clear hb7 B6 W6 X6 S6 G6 SG6
    go_wp2_with fail
    refine (markShape_any _ _ _ _ _ _ X7.out S7.out hl (by omega) (by omega)).mono ?_
    rintro e w8 ⟨rfl, _, _, hg8⟩
    have mark8 : ∀ {x o : Nat} {u : Value}, x ≠ bX → wc.cell? ⟨x, o, none⟩ = some u → w8.cell? ⟨x, o, none⟩ = some u := fun hne h => (hg8.cell_far _ (World.block_lt_of_cell? _ _ h) (by simpa [blk] using hne)).trans h
    replace c0 := mark8 (by omega) c0
    replace c1 := mark8 (by omega) c1
    replace p0 := mark8 (by omega) p0
    replace p1 := mark8 (by omega) p1
    replace g0 := mark8 (by omega) g0
    replace g1 := mark8 (by omega) g1
    have B8 : Hid (Below w.heap.size w w8) := B7.out.grown hg8 B7.out.size (fun j e => by simp [blk] at e; omega)
    have hWne : blk aW ≠ blk (some ⟨bX, 0, none⟩) := fun e => by have := NW.out bX e; omega
    have hGne : blk aG ≠ blk (some ⟨bX, 0, none⟩) := fun e => by have := (NG.out bX e).1; omega
    have W8 := Lib.hid (W7.out.grown hg8 (.inr hWne))
    have G8 := Lib.hid (G7.out.grown hg8 (.inr hGne))
    have SG8 : Hid (Soft w8 aG rp.length) := by
      intro i hi b off e
      have hlt : b < wc.heap.size := by
        obtain ⟨b', off', e', h, _, _⟩ := G7.out i hi
        obtain ⟨rfl, rfl⟩ : b = b' ∧ off = off' := by rw [e] at e'; simpa using e'
        exact h
      have hne : some b ≠ blk (some ⟨bX, 0, none⟩) := by rw [e] at hGne; exact hGne
      obtain ⟨s1, s2⟩ := SG7.out i hi b off e
      exact ⟨(hg8.frozen_far ⟨b, _, none⟩ hlt hne).trans s1, (hg8.frozen_far ⟨b, _, none⟩ hlt hne).trans s2⟩
    clear hg8 mark8 hGne hWne d0 d1 B7 W7 X7 S7 G7 SG7
    go_wp2_with fail
    refine (eqShape_any _ _ _ _ _ _ _ _ _ G8.out W8.out hr hr).mono ?_
    rintro e w9 ⟨rfl, hb9⟩
    replace c0 := cell_later hb9 c0
    replace c1 := cell_later hb9 c1
    replace p0 := cell_later hb9 p0
    replace p1 := cell_later hb9 p1
    replace g0 := cell_later hb9 g0
    replace g1 := cell_later hb9 g1
    have B9 : Hid (Below w.heap.size w w9) := B8.out.trans (hb9.mono B8.out.size)
    have W9 := Lib.hid (W8.out.below hb9)
    have G9 := Lib.hid (G8.out.below hb9)
    have SG9 := Lib.hid (SG8.out.below G8.out hb9)
    clear hb9 B8 W8 G8 SG8
    go_wp2_with fail
    refine (markShape_any _ _ _ _ _ _ G9.out SG9.out hr (by omega) (by omega)).mono ?_
    rintro e w10 ⟨rfl, hM, _, hg10⟩
    have far10 : ∀ {x o : Nat} {u : Value}, blk aG ≠ some x → w9.cell? ⟨x, o, none⟩ = some u → w10.cell? ⟨x, o, none⟩ = some u := fun hne h => (hg10.cell_far _ (World.block_lt_of_cell? _ _ h) (Ne.symm hne)).trans h
    have n1 : blk aG ≠ some w.heap.size := fun e => by have := (NG.out _ e).1; omega
    have n2 : blk aG ≠ some w3.heap.size := fun e => by have := (NG.out _ e).1; omega
    have n3 : blk aG ≠ some w5.heap.size := fun e => by have := (NG.out _ e).2; omega
    replace c0 := far10 n1 c0
    replace c1 := far10 n1 c1
    replace p0 := far10 n2 p0
    replace p1 := far10 n2 p1
    replace g0 := far10 n3 g0
    replace g1 := far10 n3 g1
    have B10 : Hid (Below w.heap.size w w10) := B9.out.grown hg10 B9.out.size (fun j e => by have := (NG.out j e).1; omega)
    have W10 : Hid (PtsAt w10 aW rp) := by
      by_cases h : rp.length = 0
      · exact W9.out.grown hg10 (.inl h)
      · refine W9.out.grown hg10 (.inr fun e => ?_)
        obtain ⟨b, off, e', hlt, _, _⟩ := W9.out 0 (by omega)
        have x1 := NW.out b (by rw [e']; rfl)
        have x2 := (NG.out b (by rw [← e, e']; rfl)).1
        omega
    have M10 := Lib.hid hM
    clear hM hg10 far10 n1 n2 n3 B9 W9 G9 SG9
    go_wp2_with fail
    refine (heldShape_any _ _ _ _ _ _ M10.out hr (by omega) (by omega)).mono ?_
    rintro e w11 ⟨rfl, hb11⟩
    replace c0 := cell_later hb11 c0
    replace c1 := cell_later hb11 c1
    replace p0 := cell_later hb11 p0
    replace p1 := cell_later hb11 p1
    replace g0 := cell_later hb11 g0
    replace g1 := cell_later hb11 g1
    have B11 : Hid (Below w.heap.size w w11) := B10.out.trans (hb11.mono B10.out.size)
    have W11 := Lib.hid (W10.out.below hb11)
    have M11 := Lib.hid (M10.out.below hb11)
    have ne1 : ((1 + 2 * (rp.length : Int)) != (1 + 2 * (rp.length : Int))) = false := by simp
    clear hb11 B10 W10 M10
    go_wp2_with fail
    refine (toShape_any k a cap ps _ (HP.out.below B11.out) hl).mono ?_
    rintro e w12 ⟨bZ, rfl, rZ, _, hb12⟩
    replace p0 := cell_later hb12 p0
    replace p1 := cell_later hb12 p1
    replace g0 := cell_later hb12 g0
    replace g1 := cell_later hb12 g1
    have B12 : Hid (Below w.heap.size w w12) := B11.out.trans (hb12.mono B11.out.size)
    have W12 := Lib.hid (W11.out.below hb12)
    have M12 := Lib.hid (M11.out.below hb12)
    have Z12 := Lib.hid (PtsAt.of_row rZ)
    clear hb12 rZ B11 W11 M11 c0 c1
    go_wp2_with fail
    refine (IMPL.out _ _ _ Z12.out (Nat.le_refl _)).mono ?_
    rintro e w13 ⟨aH, capH, rfl, hH, _, _, hb13⟩
    replace p0 := cell_later hb13 p0
    replace p1 := cell_later hb13 p1
    replace g0 := cell_later hb13 g0
    replace g1 := cell_later hb13 g1
    have B13 : Hid (Below w.heap.size w w13) := B12.out.trans (hb13.mono B12.out.size)
    have W13 := Lib.hid (W12.out.below hb13)
    have M13 := Lib.hid (M12.out.below hb13)
    have H13 := Lib.hid hH
    have v1 : w3.heap.size < w13.heap.size := World.block_lt_of_cell? _ _ p0
    have v2 : w5.heap.size < w13.heap.size := World.block_lt_of_cell? _ _ g0
    clear hb13 hH B12 W12 M12 Z12
    go_wp2_with fail
    refine (eqShape_any _ _ _ _ _ _ _ _ _ (H13.out.below ((Below.refl _ _).alloc (Nat.le_refl _) _)) (W13.out.below ((Below.refl _ _).alloc (Nat.le_refl _) _)) hr hr).mono ?_
    rintro e w14 ⟨rfl, hb14⟩
    have hb1314 : Below w13.heap.size w13 w14 := ((Below.refl _ _).alloc (Nat.le_refl _) _).trans (hb14.mono (by simp))
    replace g0 := cell_later hb1314 g0
    replace g1 := cell_later hb1314 g1
    have B14 : Hid (Below w.heap.size w w14) := B13.out.trans (hb1314.mono B13.out.size)
    have M14 := Lib.hid (M13.out.below hb1314)
    clear hb14 hb1314 B13 M13 W13 H13 p0 p1
    go_wp2_with fail
    refine (heldShape_any _ _ _ _ _ _ M14.out hr (by omega) (by omega)).mono ?_
    rintro e w15 ⟨rfl, hb15⟩
    have B15 : Hid (Below w.heap.size w w15) := B14.out.trans (hb15.mono B14.out.size)
    clear hb15 B14 M14 g0 g1
    go_wp2
    go_ret
    exact ⟨rfl, B15.out⟩

set_option maxHeartbeats 400000 in
theorem fnExactShapeTurn_large (k : Int) (a : Option Addr) (n cap : Nat) (w : World) (hn : 1048576 < n) (hm : n ≤ maxLen) :
    Calls Try.prog 9 #[.agg #[.int .i64 k, .slice a n cap]] w fun e w' => e = .returned (.bool true) ∧ Below w.heap.size w w' := by
  go_enter Try.func9, Try.ntmps9
  go_wp2_with fail
  refine (szShape_over _ _ _ _ _ _ (by omega) (by omega) (by omega) hm).mono ?_
  rintro e w1 ⟨rfl, hb1⟩
  have B1 : Hid (Below w.heap.size w w1) := ((Below.refl _ _).alloc (Nat.le_refl _) _).trans (hb1.mono (by simp))
  clear hb1
  go_wp2
  go_ret
  exact ⟨rfl, B1.out⟩

theorem fnExactShapeTurn_all (k : Int) (a : Option Addr) (cap : Nat) (ps : List (Int × Int)) (w : World) (hp : PtsAt w a ps) (hm : ps.length ≤ maxLen) :
    Calls Try.prog 9 #[.agg #[.int .i64 k, .slice a ps.length cap]] w fun e w' => e = .returned (.bool true) ∧ Below w.heap.size w w' := by
  by_cases h1 : ps.length ≤ 1048576
  · exact fnExactShapeTurn_walk k a cap ps (turnK k ps) (turnP k ps) w hp h1 (turnP_len h1) (fun a cap w h hc => specShapeTurn_any k a cap ps w h h1 hc) (fun a cap w h hc => implShapeTurn_any k a cap ps w h hc)
  · exact fnExactShapeTurn_large k a _ cap w (by omega) hm

set_option maxRecDepth 100000 in
theorem fnExactShapeTurn_lifted (os : Os) (started : os.Started) (H : Type) (enc : TypeId × Value → H) :
    ReturnsInHanded {} Try.checked os 9 .any (Rows.fnExactShapeTurnSpec.pre6 enc Try.prog Try.f9 Rows.fnExactShapeTurnRow.domain false) (Rows.fnExactShapeTurnSpec.post enc Try.prog Try.f9 false true false false) := by
  refine returnsInHanded_of_change (C := Try.checked) own started (by kernel_rfl) Try.func9
    (ChangeSpec.witness6 (enc := enc) (C := Try.checked) false ⟨#[], #[.agg #[.int .i64 0, .slice none 0 0]], []⟩ 8 (by kernel_rfl) (by kernel_rfl) (by kernel_rfl) (by kernel_rfl)) ?_
  intro W base args ds gs before hval0 hW _ _
  have hval : ∀ (j : Nat) t v, Try.f9.params[j]? = some t → args[j]? = some v → Value.okWide Try.prog W .any base t v := hval0
  have hW' := hW
  obtain ⟨p, q, hA0, hV, rfl, _, _⟩ := hW
  have hA : DataW.TrodAll enc Try.prog W 0 (fun _ => true) true Try.f9.params.toList args.toList ds p := hA0
  rw [Try.params9] at hA hval
  obtain ⟨v0, vs0, d0, ds0, p0, q0, hargs, rfl, rfl, h0, r0⟩ := trodAll_cons hA
  obtain ⟨rfl, rfl, rfl⟩ := trodAll_nil r0
  obtain rfl : args = #[v0] := by cases args; simp_all
  obtain ⟨rfl, rfl⟩ := trodVars_none hV
  have k0 := h0
  have lt0 : ∀ x ∈ p0, x.block < W.heap.size := by obtain ⟨m, hm⟩ := k0; exact DataW.trod_lt m _ _ _ hm
  obtain ⟨x0, a0, c0, s0, rfl, f0, g0⟩ := open_shape (hval 0 36 v0 rfl rfl) h0
  clear hA0 hval0
  refine (fnExactShapeTurn_all x0 a0 c0 s0 W f0 g0).mono fun e W' ⟨he, bel⟩ => ?_
  subst he
  exact ⟨_, rfl, _, _, _, [], _, [], hW', trodAll_mk1 (shut_bool Try.underlying4 _), (trodAll_cons_mk (Below.trod laidOut (by kernel_rfl) (of_decide_eq_true (by kernel_rfl)) k0 bel lt0) trodAll_mk0), rfl, bel.frame _, fun h => by cases h⟩

theorem fnExactShapeTurn_over : Rows.fnExactShapeTurnRow.holds Try.pinned (OpenSpec.ofChange Rows.fnExactShapeTurnSpec) :=
  OpenClaim.holds_of_wide 9 Try.f9 rfl rfl rfl rfl rfl rfl rfl ⟨rfl, rfl, rfl, rfl, rfl⟩ rfl rfl rfl rfl rfl (by kernel_rfl) Try.func9 (by kernel_rfl)
    (of_decide_eq_true (by kernel_rfl)) (by unfold Func.isWrapper; first | (rw [if_pos (by decide +kernel)]; kernel_rfl) | (rw [if_neg (by decide +kernel)]; exact ⟨rfl, rfl⟩))
    (fun os started H enc _ => fnExactShapeTurn_lifted os started H enc)

/-- the given statement -/
theorem fnExactShapeTurn_holds : Rows.FnExactShapeTurnSaid := fnExactShapeTurn_over

end Go.Proofs.Ytopbpokcffdjnaa
