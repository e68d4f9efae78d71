/- Proved here: the law FnExactFeatPut answers true at every argument, and leaves it as it was; no condition. -/
import Derived.Test.YthkfofldpcbjiaaWFeatTo
import Derived.Test.YthkfofldpcbjiaaWFeatEq
import Derived.Test.YthkfofldpcbjiaaWFeatArg
import Derived.Test.YthkfofldpcbjiaaWFeatPutI
import Derived.Test.YthkfofldpcbjiaaWMarkFeat
import Derived.Test.YthkfofldpcbjiaaWBox4
import Derived.Deep.RegionHeld3
import Derived.Deep.DeepCutAuto
namespace Go.Proofs.Ythkfofldpcbjiaa
set_option linter.unusedVariables false
open Go.ChangeShapes Go.WideShapes Go.ChangeAt Go.RowKit

set_option maxRecDepth 100000 in
set_option maxHeartbeats 12800000 in
theorem fnFeatPut_walk (id : ByteArray) (k : Int) (a : Option Addr) (cap : Nat) (ps : List (Int × Int)) (c : Option Addr) (ca : Nat) (ts : List Tg) (key : ByteArray) (val : ByteArray) (rI : ByteArray) (rK : Int) (rP : List (Int × Int)) (rT : List Tg) (rB : Bool) (w : World) (hf : FeatIn w id a ps c ts) (hkey : key.size ≤ 1048576) (hval : val.size ≤ 1048576) (hrP : rP.length ≤ 1048576) (hrT : rT.length ≤ 1048576)
    (hspec : ∀ (a : Option Addr) (cap : Nat) (c : Option Addr) (ca : Nat) (w : World), PtsAt w a ps → TagsAt w c ts → id.size ≤ 1048576 → ps.length ≤ 1048576 → ts.length ≤ 1048576 → TagsLen ts 1048576 → Calls Try.prog 20 #[.agg #[.string id, .int .i64 k, .slice a ps.length cap, .slice c ts.length ca], .string key, .string val] w (PutAns w rI rK rP rT rB))
    (himpl : ∀ (a : Option Addr) (cap : Nat) (c : Option Addr) (ca : Nat) (w : World), PtsAt w a ps → TagsAt w c ts → id.size ≤ 1048576 → ps.length ≤ 1048576 → ts.length ≤ 1048576 → TagsLen ts 1048576 → Calls Try.prog 21 #[.agg #[.string id, .int .i64 k, .slice a ps.length cap, .slice c ts.length ca], .string key, .string val] w (PutAns w rI rK rP rT rB)) :
    Calls Try.prog 7 #[.agg #[.string id, .int .i64 k, .slice a ps.length cap, .slice c ts.length ca], .string key, .string val] w fun e w' => e = .returned (.bool true) ∧ Below w.heap.size w w' := by
  have HF := Lib.hid hf
  have SPEC := Lib.hid hspec
  have IMPL := Lib.hid himpl
  clear hf hspec himpl
  have A0 : Hid (∀ o, Below w.heap.size w (w.alloc o)) := fun o => (Below.refl _ _).alloc (Nat.le_refl _) _
  go_enter Try.func7, Try.ntmps7
  go_wp2_with fail
  refine (szFeat_any _ _ _ _ _ _ _ _ _ _ (HF.out.below (A0.out _)) (by omega) (by omega)).mono ?_
  rintro e w1 ⟨⟨r, rfl, hs⟩, hb1⟩
  have C := Lib.hid ((Box4.new w (.string id) (.int .i64 k) (.slice a ps.length cap) (.slice c ts.length ca) 28).later hb1)
  have B1 : Hid (Below w.heap.size w w1) := (A0.out _).trans (hb1.mono (by simp))
  clear hb1
  rcases hs with rfl | ⟨r0, r1, l1, l2, l3, l4⟩
  · go_wp2
    go_ret
    exact ⟨rfl, B1.out⟩
  have L4 := Lib.hid l4
  clear l4
  have m0 : id.size ≤ 1048576 := by omega
  have m1 : ps.length ≤ 1048576 := by omega
  have m2 : ts.length ≤ 1048576 := by omega
  obtain ⟨c0, c1, c2, c3⟩ := C.out
  go_wp2_with fail
  clear c0 c1 c2 c3
  refine (toFeat_any id k a cap ps c ca ts _ (HF.out.pts.below B1.out) (HF.out.tags.below B1.out) m1 m2).mono ?_
  rintro e w2 ⟨b2, c2, rfl, r2, s2, _, _, _, hb2⟩
  replace C := Lib.hid (C.out.later hb2)
  have B2 : Hid (Below w.heap.size w w2) := B1.out.trans (hb2.mono B1.out.size)
  have P2 := Lib.hid (PtsAt.of_row r2)
  have T2 := Lib.hid (TagsAt.of_row s2)
  clear hb2 r2 s2 B1
  go_wp2_with fail
  refine (SPEC.out _ _ _ _ _ P2.out T2.out m0 m1 m2 L4.out).mono ?_
  rintro e w3 ⟨v, rfl, aW, capW, cW, caW, rfl, hW, -, nW, hWT, -, nWT, -, hb3⟩
  replace C := Lib.hid (C.out.later hb3)
  have B3 : Hid (Below w.heap.size w w3) := B2.out.trans (hb3.mono B2.out.size)
  have WP := Lib.hid hW
  have WT := Lib.hid hWT
  have y0 : w.heap.size < w3.heap.size := C.out.lt
  have NW : Hid (∀ x, blk aW = some x → x < w3.heap.size) := fun x e => (nW x e).2
  have NWT : Hid (∀ x, blk cW = some x → x < w3.heap.size) := fun x e => (nWT x e).2
  clear hb3 B2 P2 T2 hW hWT nW nWT
  obtain ⟨c0, c1, c2, c3⟩ := C.out
  go_wp2_with fail
  clear c0 c1 c2 c3
  have A3 : Hid (∀ o, Below w3.heap.size w3 (w3.alloc o)) := fun o => (Below.refl _ _).alloc (Nat.le_refl _) _
  refine (toFeat_any id k a cap ps c ca ts _ (HF.out.pts.below (B3.out.alloc B3.out.size _)) (HF.out.tags.below (B3.out.alloc B3.out.size _)) m1 m2).mono ?_
  rintro e w4 ⟨bX, cX, rfl, rX, sX, hbX, hcX, hneX, hb4⟩
  have hb34 : Below w3.heap.size w3 w4 := (A3.out _).trans (hb4.mono (by simp))
  have P := Lib.hid ((Box4.new w3 (.string rI) (.int .i64 rK) (.slice aW rP.length capW) (.slice cW rT.length caW) 36).later hb4)
  replace C := Lib.hid (C.out.later hb34)
  have B4 : Hid (Below w.heap.size w w4) := B3.out.trans (hb34.mono B3.out.size)
  replace WP := Lib.hid (WP.out.below hb34)
  replace WT := Lib.hid (WT.out.below hb34)
  have XP := Lib.hid (PtsAt.of_row rX)
  have XT := Lib.hid (TagsAt.of_row sX)
  have XS : Hid (Soft w4 (some ⟨bX, 0, none⟩) ps.length) := Soft.of_row rX
  have XU : Hid (Soft w4 (some ⟨cX, 0, none⟩) ts.length) := Soft.of_row sX
  have y1 : w3.heap.size < bX := by rw [World.size_alloc] at hbX; omega
  have y1' : w3.heap.size < cX := by rw [World.size_alloc] at hcX; omega
  have y2 : bX < w4.heap.size := rX.lt
  have y2' : cX < w4.heap.size := sX.lt
  have y3 : w.heap.size < w4.heap.size := C.out.lt
  have y4 : w3.heap.size < w4.heap.size := P.out.lt
  clear hb4 hb34 rX sX hbX hcX B3 A3
  have A4 : Hid (∀ o, Below w4.heap.size w4 (w4.alloc o)) := fun o => (Below.refl _ _).alloc (Nat.le_refl _) _
  go_wp2_with fail
  refine (IMPL.out _ _ _ _ _ (XP.out.below (A4.out _)) (XT.out.below (A4.out _)) m0 m1 m2 L4.out).mono ?_
  rintro e w5 ⟨v, rfl, aG, capG, cG, caG, rfl, hG, sG, nG, hGT, sGT, nGT, hap, hb5⟩
  have hb45 : Below w4.heap.size w4 w5 := (A4.out _).trans (hb5.mono (by simp))
  have D := Lib.hid ((Box4.new w4 (.string id) (.int .i64 k) (.slice (some ⟨bX, 0, none⟩) ps.length ps.length) (.slice (some ⟨cX, 0, none⟩) ts.length ts.length) 36).later hb5)
  replace C := Lib.hid (C.out.later hb45)
  replace P := Lib.hid (P.out.later hb45)
  have B5 : Hid (Below w.heap.size w w5) := B4.out.trans (hb45.mono B4.out.size)
  replace WP := Lib.hid (WP.out.below hb45)
  replace WT := Lib.hid (WT.out.below hb45)
  replace XS := Lib.hid (XS.out.below XP.out hb45)
  replace XU := Lib.hid (XU.out.belowT XT.out hb45)
  replace XP := Lib.hid (XP.out.below hb45)
  replace XT := Lib.hid (XT.out.below hb45)
  have GP := Lib.hid hG
  have GS := Lib.hid sG
  have GT := Lib.hid hGT
  have GU := Lib.hid sGT
  have AP := Lib.hid hap
  have NG : Hid (∀ x, blk aG = some x → w4.heap.size < x ∧ x < w5.heap.size) := fun x e => ⟨by have := (nG x e).1; rw [World.size_alloc] at this; omega, (nG x e).2⟩
  have NGT : Hid (∀ x, blk cG = some x → w4.heap.size < x ∧ x < w5.heap.size) := fun x e => ⟨by have := (nGT x e).1; rw [World.size_alloc] at this; omega, (nGT x e).2⟩
  have y5 : w4.heap.size < w5.heap.size := D.out.lt
  have y6 : w3.heap.size < w5.heap.size := P.out.lt
  have y7 : w.heap.size < w5.heap.size := C.out.lt
  clear hb5 hb45 B4 A4 hG sG hGT sGT hap nG nGT
  have A5 : Hid (∀ o, Below w5.heap.size w5 (w5.alloc o)) := fun o => (Below.refl _ _).alloc (Nat.le_refl _) _
  obtain ⟨c0, c1, c2, c3⟩ := P.out
  go_wp2_with fail
  clear c0 c1 c2 c3
  refine (eqFeat_any rI rI rK rK _ _ _ _ rP rP _ _ _ _ rT rT _ (GP.out.below (A5.out _)) (WP.out.below (A5.out _)) (GT.out.below (A5.out _)) (WT.out.below (A5.out _)) hrP hrP hrT hrT).mono ?_
  rintro e w6 ⟨rfl, hb6⟩
  have hb56 : Below w5.heap.size w5 w6 := (A5.out _).trans (hb6.mono (by simp))
  have G := Lib.hid ((Box4.new w5 (.string rI) (.int .i64 rK) (.slice aG rP.length capG) (.slice cG rT.length caG) 36).later hb6)
  replace C := Lib.hid (C.out.later hb56)
  replace P := Lib.hid (P.out.later hb56)
  replace D := Lib.hid (D.out.later hb56)
  have B6 : Hid (Below w.heap.size w w6) := B5.out.trans (hb56.mono B5.out.size)
  replace WP := Lib.hid (WP.out.below hb56)
  replace WT := Lib.hid (WT.out.below hb56)
  replace XS := Lib.hid (XS.out.below XP.out hb56)
  replace XU := Lib.hid (XU.out.belowT XT.out hb56)
  replace XP := Lib.hid (XP.out.below hb56)
  replace XT := Lib.hid (XT.out.below hb56)
  replace GS := Lib.hid (GS.out.below GP.out hb56)
  replace GU := Lib.hid (GU.out.belowT GT.out hb56)
  replace GP := Lib.hid (GP.out.below hb56)
  replace GT := Lib.hid (GT.out.below hb56)
  clear hb6 hb56 B5 A5
  have ee : featEq rI rI rK rK rP rP rT rT = true := by simp [featEq, shEq, ptsEq, tgsEq]
  have ne : (rB != rB) = false := by simp
  rw [ee]
  go_upto_region 14 with (fail)
  go_cut [59] (fun s wx => s = .bool false ∧ Below w6.heap.size w6 wx)
  case first =>
    obtain ⟨c0, c1, c2, c3⟩ := C.out
    obtain ⟨d0, d1, d2, d3⟩ := D.out
    go_region_held3 (fun w' => w'.cell? ⟨w.heap.size, 0, none⟩ = some (.string id) ∧ w'.cell? ⟨w.heap.size, 1, none⟩ = some (.int .i64 k) ∧ w'.cell? ⟨w.heap.size, 2, none⟩ = some (.slice a ps.length cap) ∧ w'.cell? ⟨w.heap.size, 3, none⟩ = some (.slice c ts.length ca) ∧ w'.cell? ⟨w4.heap.size, 0, none⟩ = some (.string id) ∧ w'.cell? ⟨w4.heap.size, 1, none⟩ = some (.int .i64 k) ∧ w'.cell? ⟨w4.heap.size, 2, none⟩ = some (.slice (some ⟨bX, 0, none⟩) ps.length ps.length) ∧ w'.cell? ⟨w4.heap.size, 3, none⟩ = some (.slice (some ⟨cX, 0, none⟩) ts.length ts.length) ∧ Below w6.heap.size w6 w')
      (first
        | exact ⟨c0, c1, c2, c3, d0, d1, d2, d3, (Below.refl _ _).drew⟩
        | (go_split_ands
           rename_i hS0 hS1 hS2 hS3 hS4 hS5 hS6 hS7 hS8
           exact ⟨cell_later hbn hS0, cell_later hbn hS1, cell_later hbn hS2, cell_later hbn hS3, cell_later hbn hS4, cell_later hbn hS5, cell_later hbn hS6, cell_later hbn hS7, hS8.trans (hbn.mono hS8.size)⟩))
      (first
        | (go_at_call 13
           refine (toFeat_any id k a cap ps c ca ts _ ?_ ?_ m1 m2).mono ?_
           · (go_split_ands; exact HF.out.pts.below (B6.out.trans (Below.mono (by assumption) B6.out.size)))
           · (go_split_ands; exact HF.out.tags.below (B6.out.trans (Below.mono (by assumption) B6.out.size)))
           rintro e wn ⟨bA, cA, rfl, rA, sA, hbA, hcA, hneA, hbn⟩)
        | (go_at_call 15
           refine (eqFeat_any id id k k _ _ _ _ ps ps _ _ _ _ ts ts _ ?_ ?_ ?_ ?_ m1 m1 m2 m2).mono ?_
           · (go_split_ands; exact XP.out.below (by assumption))
           · (exact PtsAt.of_row (by assumption))
           · (go_split_ands; exact XT.out.below (by assumption))
           · (exact TagsAt.of_row (by assumption))
           rintro e wn ⟨rfl, hbn⟩))
    all_goals (go_wp2_with fail; go_meet; go_split_ands; exact ⟨by simp [featEq, shEq, ptsEq, tgsEq], by assumption⟩)
  case rest =>
    obtain ⟨rfl, hb7⟩ := hcut
    replace C := Lib.hid (C.out.later hb7)
    replace P := Lib.hid (P.out.later hb7)
    replace D := Lib.hid (D.out.later hb7)
    replace G := Lib.hid (G.out.later hb7)
    have B7 : Hid (Below w.heap.size w wc) := B6.out.trans (hb7.mono B6.out.size)
    replace WP := Lib.hid (WP.out.below hb7)
    replace WT := Lib.hid (WT.out.below hb7)
    replace XS := Lib.hid (XS.out.below XP.out hb7)
    replace XU := Lib.hid (XU.out.belowT XT.out hb7)
    replace XP := Lib.hid (XP.out.below hb7)
    replace XT := Lib.hid (XT.out.below hb7)
    replace GS := Lib.hid (GS.out.below GP.out hb7)
    replace GU := Lib.hid (GU.out.belowT GT.out hb7)
    replace GP := Lib.hid (GP.out.below hb7)
    replace GT := Lib.hid (GT.out.below hb7)
    have z7 : w5.heap.size < wc.heap.size := G.out.lt
    clear hb7 B6
    obtain ⟨c0, c1, c2, c3⟩ := D.out
    go_wp2_with fail
    clear c0 c1 c2 c3
    refine (markFeat_any _ _ _ _ ps _ _ ts _ XP.out XS.out XT.out XU.out (fun x e e' => by obtain rfl : bX = x := (by simpa [blk] using e); obtain rfl : cX = bX := (by simpa [blk] using e'); exact hneX rfl) (fun x e => by obtain rfl : bX = x := (by simpa [blk] using e); omega) m1 m2).mono ?_
    rintro e w8 ⟨rfl, _, _, hg8⟩
    have fX : ∀ x, x ≠ bX → x ≠ cX → blk (some ⟨bX, 0, none⟩) ≠ some x ∧ blk (some ⟨cX, 0, none⟩) ≠ some x := fun x h1 h2 => ⟨by simpa [blk] using Ne.symm h1, by simpa [blk] using Ne.symm h2⟩
    replace C := Lib.hid (C.out.grown2 hg8 (fX _ (by omega) (by omega)))
    replace P := Lib.hid (P.out.grown2 hg8 (fX _ (by omega) (by omega)))
    replace G := Lib.hid (G.out.grown2 hg8 (fX _ (by omega) (by omega)))
    have B8 : Hid (Below w.heap.size w w8) := hg8.below B7.out B7.out.size (fun x e => by obtain rfl : bX = x := (by simpa [blk] using e); omega) (fun x e => by obtain rfl : cX = x := (by simpa [blk] using e); omega)
    replace WP := Lib.hid (WP.out.grown2 hg8 (fun x e => fX x (by have := NW.out x e; omega) (by have := NW.out x e; omega)))
    replace WT := Lib.hid (WT.out.grown2 hg8 (fun x e => fX x (by have := NWT.out x e; omega) (by have := NWT.out x e; omega)))
    replace GS := Lib.hid (GS.out.grown2 hg8 (fun x e => by have := (NG.out x e).2; omega) (fun x e => fX x (by have := (NG.out x e).1; omega) (by have := (NG.out x e).1; omega)))
    replace GU := Lib.hid (GU.out.grown2 hg8 (fun x e => by have := (NGT.out x e).2; omega) (fun x e => fX x (by have := (NGT.out x e).1; omega) (by have := (NGT.out x e).1; omega)))
    replace GP := Lib.hid (GP.out.grown2 hg8 (fun x e => fX x (by have := (NG.out x e).1; omega) (by have := (NG.out x e).1; omega)))
    replace GT := Lib.hid (GT.out.grown2 hg8 (fun x e => fX x (by have := (NGT.out x e).1; omega) (by have := (NGT.out x e).1; omega)))
    clear hg8 fX B7 XP XT XS XU D
    obtain ⟨c0, c1, c2, c3⟩ := P.out
    obtain ⟨d0, d1, d2, d3⟩ := G.out
    go_wp2_with fail
    clear c0 c1 c2 c3 d0 d1 d2 d3
    refine (eqFeat_any rI rI rK rK _ _ _ _ rP rP _ _ _ _ rT rT _ GP.out WP.out GT.out WT.out hrP hrP hrT hrT).mono ?_
    rintro e w9 ⟨rfl, hb9⟩
    replace C := Lib.hid (C.out.later hb9)
    replace P := Lib.hid (P.out.later hb9)
    replace G := Lib.hid (G.out.later hb9)
    have B9 : Hid (Below w.heap.size w w9) := B8.out.trans (hb9.mono B8.out.size)
    replace WP := Lib.hid (WP.out.below hb9)
    replace WT := Lib.hid (WT.out.below hb9)
    replace GS := Lib.hid (GS.out.below GP.out hb9)
    replace GU := Lib.hid (GU.out.belowT GT.out hb9)
    replace GP := Lib.hid (GP.out.below hb9)
    replace GT := Lib.hid (GT.out.below hb9)
    have z9 : w5.heap.size < w9.heap.size := G.out.lt
    clear hb9 B8
    rw [ee]
    obtain ⟨c0, c1, c2, c3⟩ := G.out
    go_wp2_with fail
    clear c0 c1 c2 c3
    refine (markFeat_any _ _ _ _ rP _ _ rT _ GP.out GS.out GT.out GU.out AP.out (fun x e => by have := (NG.out x e).2; omega) hrP hrT).mono ?_
    rintro e w10 ⟨rfl, hMP, hMT, hg10⟩
    have fG : ∀ x, (x ≤ w4.heap.size ∨ w5.heap.size ≤ x) → blk aG ≠ some x ∧ blk cG ≠ some x := fun x h => ⟨fun e => by have := NG.out x e; omega, fun e => by have := NGT.out x e; omega⟩
    replace C := Lib.hid (C.out.grown2 hg10 (fG _ (by omega)))
    replace P := Lib.hid (P.out.grown2 hg10 (fG _ (by omega)))
    replace G := Lib.hid (G.out.grown2 hg10 (fG _ (by omega)))
    have B10 : Hid (Below w.heap.size w w10) := hg10.below B9.out B9.out.size (fun x e => by have := (NG.out x e).1; omega) (fun x e => by have := (NGT.out x e).1; omega)
    replace WP := Lib.hid (WP.out.grown2 hg10 (fun x e => fG x (by have := NW.out x e; omega)))
    replace WT := Lib.hid (WT.out.grown2 hg10 (fun x e => fG x (by have := NWT.out x e; omega)))
    have MP := Lib.hid hMP
    have MT := Lib.hid hMT
    clear hMP hMT hg10 fG B9 GP GT GS GU
    obtain ⟨c0, c1, c2, c3⟩ := G.out
    go_wp2_with fail
    clear c0 c1 c2 c3
    refine (heldFeat_any _ _ _ _ _ _ _ _ _ MP.out MT.out hrP hrT).mono ?_
    rintro e w11 ⟨rfl, hb11⟩
    replace C := Lib.hid (C.out.later hb11)
    replace P := Lib.hid (P.out.later hb11)
    replace G := Lib.hid (G.out.later hb11)
    have B11 : Hid (Below w.heap.size w w11) := B10.out.trans (hb11.mono B10.out.size)
    replace WP := Lib.hid (WP.out.below hb11)
    replace WT := Lib.hid (WT.out.below hb11)
    replace MP := Lib.hid (MP.out.below hb11)
    replace MT := Lib.hid (MT.out.below hb11)
    have ne1 : ((1 + 2 * (rP.length : Int) + 2 * (rT.length : Int)) != (1 + 2 * (rP.length : Int) + 2 * (rT.length : Int))) = false := by simp
    clear hb11 B10
    obtain ⟨c0, c1, c2, c3⟩ := C.out
    go_wp2_with fail
    clear c0 c1 c2 c3
    refine (toFeat_any id k a cap ps c ca ts _ (HF.out.pts.below B11.out) (HF.out.tags.below B11.out) m1 m2).mono ?_
    rintro e w12 ⟨bZ, cZ, rfl, rZ, sZ, _, _, _, hb12⟩
    replace P := Lib.hid (P.out.later hb12)
    replace G := Lib.hid (G.out.later hb12)
    have B12 : Hid (Below w.heap.size w w12) := B11.out.trans (hb12.mono B11.out.size)
    replace WP := Lib.hid (WP.out.below hb12)
    replace WT := Lib.hid (WT.out.below hb12)
    replace MP := Lib.hid (MP.out.below hb12)
    replace MT := Lib.hid (MT.out.below hb12)
    have ZP := Lib.hid (PtsAt.of_row rZ)
    have ZT := Lib.hid (TagsAt.of_row sZ)
    clear hb12 rZ sZ B11 C
    go_wp2_with fail
    refine (IMPL.out _ _ _ _ _ ZP.out ZT.out m0 m1 m2 L4.out).mono ?_
    rintro e w13 ⟨v, rfl, aH, capH, cH, caH, rfl, hH, -, -, hHT, -, -, -, hb13⟩
    replace P := Lib.hid (P.out.later hb13)
    replace G := Lib.hid (G.out.later hb13)
    have B13 : Hid (Below w.heap.size w w13) := B12.out.trans (hb13.mono B12.out.size)
    replace WP := Lib.hid (WP.out.below hb13)
    replace WT := Lib.hid (WT.out.below hb13)
    replace MP := Lib.hid (MP.out.below hb13)
    replace MT := Lib.hid (MT.out.below hb13)
    have HHP := Lib.hid hH
    have HHT := Lib.hid hHT
    have v1 : w3.heap.size < w13.heap.size := P.out.lt
    have v2 : w5.heap.size < w13.heap.size := G.out.lt
    have A13 : Hid (∀ o, Below w13.heap.size w13 (w13.alloc o)) := fun o => (Below.refl _ _).alloc (Nat.le_refl _) _
    clear hb13 hH hHT B12 ZP ZT
    obtain ⟨c0, c1, c2, c3⟩ := P.out
    go_wp2_with fail
    clear c0 c1 c2 c3
    refine (eqFeat_any rI rI rK rK _ _ _ _ rP rP _ _ _ _ rT rT _ (HHP.out.below (A13.out _)) (WP.out.below (A13.out _)) (HHT.out.below (A13.out _)) (WT.out.below (A13.out _)) hrP hrP hrT hrT).mono ?_
    rintro e w14 ⟨rfl, hb14⟩
    have hb1314 : Below w13.heap.size w13 w14 := (A13.out _).trans (hb14.mono (by simp))
    replace G := Lib.hid (G.out.later hb1314)
    have B14 : Hid (Below w.heap.size w w14) := B13.out.trans (hb1314.mono B13.out.size)
    replace MP := Lib.hid (MP.out.below hb1314)
    replace MT := Lib.hid (MT.out.below hb1314)
    clear hb14 hb1314 B13 WP WT HHP HHT P A13
    rw [ee]
    obtain ⟨c0, c1, c2, c3⟩ := G.out
    go_wp2_with fail
    clear c0 c1 c2 c3
    refine (heldFeat_any _ _ _ _ _ _ _ _ _ MP.out MT.out hrP hrT).mono ?_
    rintro e w15 ⟨rfl, hb15⟩
    have B15 : Hid (Below w.heap.size w w15) := B14.out.trans (hb15.mono B14.out.size)
    clear hb15 B14 MP MT G
    go_wp2
    go_ret
    exact ⟨rfl, B15.out⟩

set_option maxHeartbeats 1000000 in
theorem fnFeatPut_all (id : ByteArray) (k : Int) (a : Option Addr) (cap : Nat) (ps : List (Int × Int)) (c : Option Addr) (ca : Nat) (ts : List Tg) (key : ByteArray) (val : ByteArray) (w : World) (hf : FeatIn w id a ps c ts) (hmkey : key.size ≤ maxLen) (hmval : val.size ≤ maxLen) :
    Calls Try.prog 7 #[.agg #[.string id, .int .i64 k, .slice a ps.length cap, .slice c ts.length ca], .string key, .string val] w fun e w' => e = .returned (.bool true) ∧ Below w.heap.size w w' := by
  by_cases hkey : key.size ≤ 1048576
  · skip
    by_cases hval : val.size ≤ 1048576
    · skip
      by_cases hb : id.size ≤ 1048576 ∧ ps.length ≤ 1048576 ∧ ts.length ≤ 1048576 ∧ TagsLen ts 1048576
      · obtain ⟨q0, q1, q2, q3⟩ := hb
        have hbd := WFeatPutI_bounds id k ps ts key val q1 q2
        exact fnFeatPut_walk id k a cap ps c ca ts key val (fpI id k ps ts key val) (fpK id k ps ts key val) (fpP id k ps ts key val) (fpT id k ps ts key val) (fpB id k ps ts key val) w hf hkey hval hbd.1 hbd.2
          (fun a cap c ca w h1 h2 h3 h4 h5 h6 => specFeatPut_all id k a cap ps c ca ts key val w h1 h2 h3 h4 h5 h6 hkey hval)
          (fun a cap c ca w h1 h2 h3 h4 h5 h6 => implFeatPut_all id k a cap ps c ca ts key val w h1 h2 h3 h4 h5 h6 hkey hval)
      · have A0 : Hid (∀ o, Below w.heap.size w (w.alloc o)) := fun o => (Below.refl _ _).alloc (Nat.le_refl _) _
        have HF := Lib.hid hf
        have HB := Lib.hid hb
        clear hf hb
        go_enter Try.func7, Try.ntmps7
        go_wp2_with fail
        refine (szFeat_any _ _ _ _ _ _ _ _ _ _ (HF.out.below (A0.out _)) (by omega) (by omega)).mono ?_
        rintro e w1 ⟨⟨r, rfl, hs⟩, hb1⟩
        have B1 : Hid (Below w.heap.size w w1) := (A0.out _).trans (hb1.mono (by simp))
        clear hb1
        rcases hs with rfl | ⟨r0, r1, l1, l2, l3, l4⟩
        · go_wp2
          go_ret
          exact ⟨rfl, B1.out⟩
        · exact absurd ⟨by omega, by omega, by omega, l4⟩ HB.out
    · unfold maxLen at *
      clear hf
      go_enter Try.func7, Try.ntmps7
      go_wp2
      go_ret
      exact ⟨rfl, (Below.refl _ _).alloc (Nat.le_refl _) _⟩
  · unfold maxLen at *
    clear hf
    go_enter Try.func7, Try.ntmps7
    go_wp2
    go_ret
    exact ⟨rfl, (Below.refl _ _).alloc (Nat.le_refl _) _⟩

set_option maxRecDepth 100000 in
theorem fnExactFeatPut_lifted (os : Os) (started : os.Started) (H : Type) (enc : TypeId × Value → H) :
    ReturnsInHanded {} Try.checked os 7 .any (Rows.fnExactFeatPutSpec.pre6 enc Try.prog Try.f7 Rows.fnExactFeatPutRow.domain false) (Rows.fnExactFeatPutSpec.post enc Try.prog Try.f7 false true false false) := by
  refine returnsInHanded_of_change (C := Try.checked) own started (by kernel_rfl) Try.func7
    (ChangeSpec.witness6 (enc := enc) (C := Try.checked) false ⟨#[], #[.agg #[.string .empty, .int .i64 0, .slice none 0 0, .slice none 0 0], .string .empty, .string .empty], []⟩ 8 (by kernel_rfl) (by kernel_rfl) (by kernel_rfl) (by kernel_rfl)) ?_
  intro W base args ds gs before hval0 hW _ _
  have hval : ∀ (j : Nat) t v, Try.f7.params[j]? = some t → args[j]? = some v → Value.okWide Try.prog W .any base t v := hval0
  have hW' := hW
  obtain ⟨p, q, hA0, hV, rfl, _, _⟩ := hW
  have hA : DataW.TrodAll enc Try.prog W 0 (fun _ => true) true Try.f7.params.toList args.toList ds p := hA0
  rw [Try.params7] at hA hval
  obtain ⟨v0, vs0, d0, ds0, p0, q0, hargs, rfl, rfl, h0, r0⟩ := trodAll_cons hA
  obtain ⟨v1, vs1, d1, ds1, p1, q1, rfl, rfl, rfl, h1, r1⟩ := trodAll_cons r0
  obtain ⟨v2, vs2, d2, ds2, p2, q2, rfl, rfl, rfl, h2, r2⟩ := trodAll_cons r1
  obtain ⟨rfl, rfl, rfl⟩ := trodAll_nil r2
  obtain rfl : args = #[v0, v1, v2] := by cases args; simp_all
  obtain ⟨rfl, rfl⟩ := trodVars_none hV
  have k0 := h0
  have lt0 : ∀ x ∈ p0, x.block < W.heap.size := by obtain ⟨m, hm⟩ := k0; exact DataW.trod_lt m _ _ _ hm
  obtain ⟨i0, x0, a0, c0, s0, b0, e0, t0, rfl, f0⟩ := open_feat (hval 0 28 v0 rfl rfl) h0
  obtain ⟨x1, rfl, rfl, rfl, w1⟩ := Go.ChangeMaps.open_string Try.underlying9 (hval 1 9 v1 rfl rfl) h1
  obtain ⟨x2, rfl, rfl, rfl, w2⟩ := Go.ChangeMaps.open_string Try.underlying9 (hval 2 9 v2 rfl rfl) h2
  clear hA0 hval0
  refine (fnFeatPut_all i0 x0 a0 c0 s0 b0 e0 t0 x1 x2 W f0 w1 w2).mono fun e W' ⟨he, bel⟩ => ?_
  subst he
  exact ⟨_, rfl, _, _, _, [], _, [], hW', trodAll_mk1 (shut_bool Try.underlying4 _), (trodAll_cons_mk (Below.trod laidOut (by kernel_rfl) (of_decide_eq_true (by kernel_rfl)) k0 bel lt0) (trodAll_cons_mk (Go.ChangeMaps.shut_string Try.underlying9 w1) (trodAll_cons_mk (Go.ChangeMaps.shut_string Try.underlying9 w2) trodAll_mk0))), rfl, bel.frame _, fun h => by cases h⟩

theorem fnExactFeatPut_over : Rows.fnExactFeatPutRow.holds Try.pinned (OpenSpec.ofChange Rows.fnExactFeatPutSpec) :=
  OpenClaim.holds_of_wide 7 Try.f7 rfl rfl rfl rfl rfl rfl rfl ⟨rfl, rfl, rfl, rfl, rfl⟩ rfl rfl rfl rfl rfl (by kernel_rfl) Try.func7 (by kernel_rfl)
    (of_decide_eq_true (by kernel_rfl)) (by unfold Func.isWrapper; first | (rw [if_pos (by decide +kernel)]; kernel_rfl) | (rw [if_neg (by decide +kernel)]; exact ⟨rfl, rfl⟩))
    (fun os started H enc _ => fnExactFeatPut_lifted os started H enc)

/-- the given statement -/
theorem fnExactFeatPut_holds : Rows.FnExactFeatPutSaid := fnExactFeatPut_over

end Go.Proofs.Ythkfofldpcbjiaa
