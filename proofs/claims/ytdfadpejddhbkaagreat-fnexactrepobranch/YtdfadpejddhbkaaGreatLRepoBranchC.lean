/- Proved here: the law FnExactRepoBranch answers true at every room of versions and every two names, and leaves it as it was; no condition. -/
import Derived.Test.YtdfadpejddhbkaaGreatWRepoBranchIC
import Derived.Test.YtdfadpejddhbkaaGreatWRepoBranchSC
import Derived.Test.YtdfadpejddhbkaaGreatG8
import Derived.Test.YtdfadpejddhbkaaGreatG3
import Derived.Test.YtdfadpejddhbkaaGreatG9
import Derived.Deep.RegionHeld3
import Derived.Deep.DeepCutAuto
namespace Go.Proofs.YtdfadpejddhbkaaGreat
set_option linter.unusedVariables false
open Go.ChangeShapes Go.WideShapes Go.ChangeAt Go.RowKit

set_option maxRecDepth 100000 in
set_option maxHeartbeats 12000000 in
theorem fnExactRepoBranch_walk (a : Option Addr) (ca : Nat) (cs : List Cm) (b : Option Addr) (cb : Nat) (hs : List Hd) (x : ByteArray) (y : ByteArray) (w : World) (hc : CommitsIn w a cs) (hh : HeadsIn w b hs) (hx : x.size ≤ maxLen) (hy : y.size ≤ maxLen) :
    Calls Tryz.prog 10 #[.agg #[.slice a cs.length ca, .slice b hs.length cb], .string x, .string y] w fun e w' => e = .returned (.bool true) ∧ Below w.heap.size w w' := by
  have HC := Lib.hid hc
  have HH := Lib.hid hh
  clear hc hh
  have A0 : Hid (∀ o, Below w.heap.size w (w.alloc o)) := fun o => (Below.refl _ _).alloc (Nat.le_refl _) _
  unfold maxLen at hx
  by_cases gx : (x.size : Int) > 1048576
  · go_enter Tryz.func10, Tryz.ntmps10
    go_wp2
    go_ret
    exact ⟨rfl, A0.out _⟩
  unfold maxLen at hy
  by_cases gy : (y.size : Int) > 1048576
  · go_enter Tryz.func10, Tryz.ntmps10
    go_wp2
    go_ret
    exact ⟨rfl, A0.out _⟩
  obtain ⟨vc, vh, vk, hV⟩ : ∃ vc vh vk, branchV cs hs x y = (vc, vh, vk) := ⟨_, _, _, rfl⟩
  have HV := Lib.hid hV
  clear hV
  go_enter Tryz.func10, Tryz.ntmps10
  go_wp2_with fail
  refine (szRepo_sum _ _ _ _ _ _ _ _ (HC.out.below (A0.out _)) (HH.out.below (A0.out _)) (by omega) (by omega)).mono ?_
  rintro e w1 ⟨⟨r, rfl, hsz⟩, hb1⟩
  have C1 : Hid (Box2 w1 w.heap.size (.slice a cs.length ca) (.slice b hs.length cb)) := (Box2.new w _ _ _).later hb1
  have B1 : Hid (Below w.heap.size w w1) := (A0.out _).trans (hb1.mono (by simp))
  clear hb1
  rcases hsz with rfl | ⟨r0, r1, l1⟩
  · go_wp2
    go_ret
    exact ⟨rfl, B1.out⟩
  have L1 : Hid (RpLen cs hs 1048576) := ⟨by have := l1.cl; omega, by have := l1.hl; omega, l1.cms.mono (by omega), l1.hds.mono (by omega)⟩
  have hW : wC cs cs.length ≤ 1048576 := by omega
  have FT : Hid (RpFit (vc, vh, vk)) := by rw [← HV.out]; exact branchV_fit x y L1.out (by omega)
  clear l1
  obtain ⟨z0, c0, c1⟩ := C1.out
  go_wp2_with fail
  clear c0 c1
  refine (toRepo_any _ _ _ _ _ _ _ (HC.out.reads.below B1.out) (HH.out.reads.below B1.out) L1.out).mono ?_
  rintro e w2 ⟨a2, ca2, b2, cb2, rfl, _, _, hR2, hb2⟩
  replace C1 := Lib.hid (C1.out.later hb2)
  have B2 : Hid (Below w.heap.size w w2) := B1.out.trans (hb2.mono B1.out.size)
  have R2 := Lib.hid hR2
  clear hb2 hR2 B1
  go_wp2_with fail
  refine (specRepoBranch_any _ _ _ _ cs hs x y _ R2.out L1.out (by omega)).mono ?_
  intro e w3 hA3
  obtain ⟨am, cm, bm, dm, ad0, S0, rfl, _, hM, hb3⟩ := RoomAns.parts KS.law HV.out hA3
  replace C1 := Lib.hid (C1.out.later hb3)
  have B3 : Hid (Below w.heap.size w w3) := B2.out.trans (hb3.mono B2.out.size)
  have M0 := Lib.hid hM
  clear hb3 hA3 hM B2 R2
  go_upto_region 10 with (fail)
  obtain ⟨u3, hu3⟩ : ∃ u3, u3 = w3.alloc (.cells #[.slice am vc.length cm, .slice bm vh.length dm] 46) := ⟨_, rfl⟩
  rw [← hu3]
  have A3 : Hid (Below w3.heap.size w3 u3) := by rw [hu3]; exact (Below.refl _ _).alloc (Nat.le_refl _) _
  have P1 : Hid (Box2 u3 w3.heap.size (.slice am vc.length cm) (.slice bm vh.length dm)) := by rw [hu3]; exact Box2.new w3 _ _ _
  replace C1 := Lib.hid (C1.out.later A3.out)
  have MB : Hid (Below w3.heap.size w3 u3) := A3.out
  have BU : Hid (Below w.heap.size w u3) := B3.out.trans (A3.out.mono B3.out.size)
  have zp := P1.out.lt
  have zw3 := B3.out.size
  clear hu3 A3 B3
  obtain ⟨z0, c0, c1⟩ := C1.out
  go_wp2_with fail
  clear c0 c1
  refine (toRepo_lay _ _ _ _ _ _ _ (HC.out.reads.below BU.out) (HH.out.reads.below BU.out) L1.out).mono ?_
  rintro e w4 ⟨bX, ad, cut, qX, rfl, hX, hbX, hqX, hb4⟩
  replace C1 := Lib.hid (C1.out.later hb4)
  replace P1 := Lib.hid (P1.out.later hb4)
  replace MB := Lib.hid (MB.out.trans (hb4.mono MB.out.size))
  have B4 : Hid (Below w.heap.size w w4) := BU.out.trans (hb4.mono BU.out.size)
  have RX := Lib.hid hX
  have hcq := hX.cq
  have hc0 := hX.c0
  have hcn := hX.lay.cut cs.length (Nat.le_refl _)
  clear hb4 hX BU
  go_upto_region 11 with (fail)
  obtain ⟨u4, hu4⟩ : ∃ u4, u4 = w4.alloc (.cells #[.slice (some ⟨bX, 0, none⟩) cs.length cs.length, .slice (some ⟨qX, 0, none⟩) hs.length hs.length] 46) := ⟨_, rfl⟩
  rw [← hu4]
  have A4 : Hid (Below w4.heap.size w4 u4) := by rw [hu4]; exact (Below.refl _ _).alloc (Nat.le_refl _) _
  have X1 : Hid (Box2 u4 w4.heap.size (.slice (some ⟨bX, 0, none⟩) cs.length cs.length) (.slice (some ⟨qX, 0, none⟩) hs.length hs.length)) := by rw [hu4]; exact Box2.new w4 _ _ _
  replace C1 := Lib.hid (C1.out.later A4.out)
  replace P1 := Lib.hid (P1.out.later A4.out)
  replace RX := Lib.hid (RX.out.below A4.out)
  replace MB := Lib.hid (MB.out.trans (A4.out.mono MB.out.size))
  have B4u : Hid (Below w.heap.size w u4) := B4.out.trans (A4.out.mono B4.out.size)
  have zx := X1.out.lt
  clear hu4 A4 B4
  obtain ⟨_, d0, d1⟩ := X1.out
  go_wp2_with fail
  clear d0 d1
  refine (implRepoBranch_any _ _ _ _ cs hs x y _ RX.out.at L1.out (Nat.le_refl _) (by omega) (by omega)).mono ?_
  intro e w5 hA5
  obtain ⟨ag, cg, bg, dg, adG, SG, rfl, hRG, _, hb5⟩ := RoomAns.parts KI.law HV.out hA5
  have RGB := Lib.hid hRG.blocks
  have RG := Lib.hid hRG
  replace C1 := Lib.hid (C1.out.later hb5)
  replace P1 := Lib.hid (P1.out.later hb5)
  replace X1 := Lib.hid (X1.out.later hb5)
  replace RX := Lib.hid (RX.out.below hb5)
  replace MB := Lib.hid (MB.out.trans (hb5.mono MB.out.size))
  have B5 : Hid (Below w.heap.size w w5) := B4u.out.trans (hb5.mono B4u.out.size)
  have zx5 : w4.heap.size < w5.heap.size := by have := hb5.size; omega
  clear hb5 hA5 hRG B4u
  go_upto_region 12 with (fail)
  obtain ⟨u5, hu5⟩ : ∃ u5, u5 = w5.alloc (.cells #[.slice ag vc.length cg, .slice bg vh.length dg] 46) := ⟨_, rfl⟩
  rw [← hu5]
  have A5 : Hid (Below w5.heap.size w5 u5) := by rw [hu5]; exact (Below.refl _ _).alloc (Nat.le_refl _) _
  have G1 : Hid (Box2 u5 w5.heap.size (.slice ag vc.length cg) (.slice bg vh.length dg)) := by rw [hu5]; exact Box2.new w5 _ _ _
  replace C1 := Lib.hid (C1.out.later A5.out)
  replace P1 := Lib.hid (P1.out.later A5.out)
  replace X1 := Lib.hid (X1.out.later A5.out)
  replace RX := Lib.hid (RX.out.below A5.out)
  replace RG := Lib.hid (RG.out.below KI.law A5.out)
  replace MB := Lib.hid (MB.out.trans (A5.out.mono MB.out.size))
  have B5u : Hid (Below w.heap.size w u5) := B5.out.trans (A5.out.mono B5.out.size)
  have zg := G1.out.lt
  clear hu5 A5 B5
  have RA : Hid (∀ {u : World}, Room KI u u4.heap.size (.slice ag vc.length cg) (.slice bg vh.length dg) vc vh adG SG → RepoAt u ag bg vc vh) := fun h => by
    obtain ⟨_, _, _, _, e1, e2, _, _, h⟩ := h.form KI.law
    cases e1
    cases e2
    exact h
  have hne : (vk != vk) = false := by simp
  have hre : rpEq vc vc vh vh = true := rpEq_refl _ _
  obtain ⟨_, p0, p1⟩ := P1.out
  obtain ⟨_, g0, g1⟩ := G1.out
  go_wp2_with fail
  clear p0 p1 g0 g1
  refine (eqRepo_any _ _ _ _ _ _ _ _ vc vc vh vh _ (RA.out RG.out) (M0.out.below MB.out) FT.out.len FT.out.len).mono ?_
  rintro e w6 ⟨rfl, hb6⟩
  rw [hre]
  replace C1 := Lib.hid (C1.out.later hb6)
  replace P1 := Lib.hid (P1.out.later hb6)
  replace X1 := Lib.hid (X1.out.later hb6)
  replace G1 := Lib.hid (G1.out.later hb6)
  replace RX := Lib.hid (RX.out.below hb6)
  replace RG := Lib.hid (RG.out.below KI.law hb6)
  replace MB := Lib.hid (MB.out.trans (hb6.mono MB.out.size))
  have B6 : Hid (Below w.heap.size w w6) := B5u.out.trans (hb6.mono B5u.out.size)
  clear hb6 B5u
  go_upto_region 14 with (fail)
  go_cut [59] (fun s wx => s = .bool false ∧ Below w6.heap.size w6 wx)
  case first =>
    obtain ⟨_, c0, c1⟩ := C1.out
    obtain ⟨_, d0, d1⟩ := X1.out
    go_region_held3 (fun w' => w'.cell? ⟨w.heap.size, 0, none⟩ = some (.slice a cs.length ca) ∧ w'.cell? ⟨w.heap.size, 1, none⟩ = some (.slice b hs.length cb) ∧ w'.cell? ⟨w4.heap.size, 0, none⟩ = some (.slice (some ⟨bX, 0, none⟩) cs.length cs.length) ∧ w'.cell? ⟨w4.heap.size, 1, none⟩ = some (.slice (some ⟨qX, 0, none⟩) hs.length hs.length) ∧ Below w6.heap.size w6 w')
      (first
        | (go_split_ands
           rename_i hS0 hS1 hS2 hS3 hS4
           with_reducible exact ⟨cell_later hbn hS0, cell_later hbn hS1, cell_later hbn hS2, cell_later hbn hS3, hS4.trans (hbn.mono hS4.size)⟩)
        | exact ⟨c0, c1, d0, d1, (Below.refl _ _).drew⟩)
      (first
        | (go_at_call 41
           refine (toRepo_any _ _ _ _ _ _ _ ?_ ?_ L1.out).mono ?_
           · (go_split_ands; exact HC.out.reads.below (B6.out.trans (Below.mono (by assumption) B6.out.size)))
           · (go_split_ands; exact HH.out.reads.below (B6.out.trans (Below.mono (by assumption) B6.out.size)))
           rintro e wn ⟨aA, caA, bA, cbA, rfl, _, _, hRA, hbn⟩)
        | (go_at_call 44
           refine (eqRepo_any _ _ _ _ _ _ _ _ cs cs hs hs _ ?_ ?_ L1.out L1.out).mono ?_
           · (go_split_ands; exact RX.out.at.below (by assumption))
           · (assumption)
           rintro e wn ⟨rfl, hbn⟩))
    all_goals (go_wp2_with fail; go_meet; go_split_ands; exact ⟨by simp [rpEq_refl], by assumption⟩)
  case rest =>
    obtain ⟨rfl, hb7⟩ := hcut
    replace C1 := Lib.hid (C1.out.later hb7)
    replace P1 := Lib.hid (P1.out.later hb7)
    replace X1 := Lib.hid (X1.out.later hb7)
    replace G1 := Lib.hid (G1.out.later hb7)
    replace RX := Lib.hid (RX.out.below hb7)
    replace RG := Lib.hid (RG.out.below KI.law hb7)
    replace MB := Lib.hid (MB.out.trans (hb7.mono MB.out.size))
    have B7 : Hid (Below w.heap.size w wc) := B6.out.trans (hb7.mono B6.out.size)
    clear hb7 B6
    obtain ⟨_, d0, d1⟩ := X1.out
    go_wp2_with fail
    clear d0 d1
    refine (markRepo_lay bX qX ad cut cs hs 1 _ RX.out L1.out hW (by omega) (by omega)).mono ?_
    rintro e w8 ⟨⟨k8, rfl, hk8⟩, ht8⟩
    have zc := C1.out.lt
    have zq := RX.out.hds.lt
    have B8 : Hid (Below w.heap.size w w8) := B7.out.trans (ht8.below B7.out.size fun x hx => by omega)
    replace MB := Lib.hid (MB.out.trans (ht8.below MB.out.size fun x hx => by omega))
    replace C1 := Lib.hid (C1.out.turned ht8 (by omega))
    replace P1 := Lib.hid (P1.out.turned ht8 (by omega))
    replace G1 := Lib.hid (G1.out.turned ht8 (by omega))
    replace RG := Lib.hid (RG.out.turned KI.law ht8 fun x hx hy => by have := (RGB.out x hx).1; omega)
    clear ht8 B7 X1 RX
    obtain ⟨_, p0, p1⟩ := P1.out
    obtain ⟨_, g0, g1⟩ := G1.out
    have hk8' : ¬ k8 < 0 := by omega
    go_wp2_with fail
    clear p0 p1 g0 g1
    refine (eqRepo_any _ _ _ _ _ _ _ _ vc vc vh vh _ (RA.out RG.out) (M0.out.below MB.out) FT.out.len FT.out.len).mono ?_
    rintro e w9 ⟨rfl, hb9⟩
    rw [hre]
    replace C1 := Lib.hid (C1.out.later hb9)
    replace P1 := Lib.hid (P1.out.later hb9)
    replace G1 := Lib.hid (G1.out.later hb9)
    replace RG := Lib.hid (RG.out.below KI.law hb9)
    replace MB := Lib.hid (MB.out.trans (hb9.mono MB.out.size))
    have B9 : Hid (Below w.heap.size w w9) := B8.out.trans (hb9.mono B8.out.size)
    clear hb9 B8
    obtain ⟨_, g0, g1⟩ := G1.out
    go_wp2_with fail
    clear g0 g1
    refine (markRepo_own _ _ _ vc vh adG SG 1 _ RG.out FT.out.c FT.out.h FT.out.len.cms (by omega) (by omega)).mono ?_
    rintro e w10 ⟨rfl, hGM, ht10⟩
    have B10 : Hid (Below w.heap.size w w10) := B9.out.trans (ht10.below B9.out.size fun x hx => by have := (RGB.out x hx).1; omega)
    replace MB := Lib.hid (MB.out.trans (ht10.below MB.out.size fun x hx => by have := (RGB.out x hx).1; omega))
    replace C1 := Lib.hid (C1.out.turned ht10 fun hx => by have := (RGB.out _ hx).1; omega)
    replace P1 := Lib.hid (P1.out.turned ht10 fun hx => by have := (RGB.out _ hx).1; omega)
    replace G1 := Lib.hid (G1.out.turned ht10 fun hx => by have := (RGB.out _ hx).2; omega)
    have IM : Hid (RepoAt w10 ag bg (mkdC vc 1 vc.length) (mkHd vh (cmk vc 1 vc.length) vh.length)) := by
      obtain ⟨_, _, _, _, e1, e2, _, _, h⟩ := hGM.form KI.law
      rw [mkdC_len] at e1
      rw [mkHd_len] at e2
      cases e1
      cases e2
      exact h
    clear ht10 hGM B9 RG RA
    obtain ⟨_, g0, g1⟩ := G1.out
    have hm1 : 0 ≤ cmk vc 1 vc.length := (cmk_le (k := 1) (by omega) (by omega) FT.out.c FT.out.len.cms _ (Nat.le_refl _)).1
    have hm2 : ¬ rmk vc vh 1 < 0 := by unfold rmk; omega
    have hm3 : (rmk vc vh 1 != rmk vc vh 1) = false := by simp
    clear hm1
    go_wp2_with fail
    clear g0 g1
    refine (heldRepo_any _ _ _ _ vc vh 1 _ IM.out FT.out.c FT.out.h FT.out.len.cms (by omega) (by omega)).mono ?_
    rintro e w11 ⟨rfl, hb11⟩
    replace C1 := Lib.hid (C1.out.later hb11)
    replace P1 := Lib.hid (P1.out.later hb11)
    replace G1 := Lib.hid (G1.out.later hb11)
    replace IM := Lib.hid (IM.out.below hb11)
    replace MB := Lib.hid (MB.out.trans (hb11.mono MB.out.size))
    have B11 : Hid (Below w.heap.size w w11) := B10.out.trans (hb11.mono B10.out.size)
    clear hb11 B10
    obtain ⟨_, c0, c1⟩ := C1.out
    go_wp2_with fail
    clear c0 c1
    refine (toRepo_any _ _ _ _ _ _ _ (HC.out.reads.below B11.out) (HH.out.reads.below B11.out) L1.out).mono ?_
    rintro e w12 ⟨a12, ca12, b12, cb12, rfl, hca12, _, hR12, hb12⟩
    replace P1 := Lib.hid (P1.out.later hb12)
    replace G1 := Lib.hid (G1.out.later hb12)
    replace IM := Lib.hid (IM.out.below hb12)
    replace MB := Lib.hid (MB.out.trans (hb12.mono MB.out.size))
    have B12 : Hid (Below w.heap.size w w12) := B11.out.trans (hb12.mono B11.out.size)
    have R12 := Lib.hid hR12
    clear hb12 hR12 B11 C1
    go_wp2_with fail
    refine (implRepoBranch_any _ _ _ _ cs hs x y _ R12.out L1.out hca12 (by omega) (by omega)).mono ?_
    intro e w13 hA13
    obtain ⟨ah, ch, bh, dh, adH, SH, rfl, _, hH, hb13⟩ := RoomAns.parts KI.law HV.out hA13
    have RH := Lib.hid hH
    replace P1 := Lib.hid (P1.out.later hb13)
    replace G1 := Lib.hid (G1.out.later hb13)
    replace IM := Lib.hid (IM.out.below hb13)
    replace MB := Lib.hid (MB.out.trans (hb13.mono MB.out.size))
    have B13 : Hid (Below w.heap.size w w13) := B12.out.trans (hb13.mono B12.out.size)
    clear hb13 hA13 hH B12 R12
    go_upto_region 29 with (fail)
    obtain ⟨u13, hu13⟩ : ∃ u13, u13 = w13.alloc (.cells #[.slice ah vc.length ch, .slice bh vh.length dh] 46) := ⟨_, rfl⟩
    rw [← hu13]
    have A13 : Hid (Below w13.heap.size w13 u13) := by rw [hu13]; exact (Below.refl _ _).alloc (Nat.le_refl _) _
    have H1 : Hid (Box2 u13 w13.heap.size (.slice ah vc.length ch) (.slice bh vh.length dh)) := by rw [hu13]; exact Box2.new w13 _ _ _
    replace P1 := Lib.hid (P1.out.later A13.out)
    replace G1 := Lib.hid (G1.out.later A13.out)
    replace IM := Lib.hid (IM.out.below A13.out)
    replace RH := Lib.hid (RH.out.below A13.out)
    replace MB := Lib.hid (MB.out.trans (A13.out.mono MB.out.size))
    have B13u : Hid (Below w.heap.size w u13) := B13.out.trans (A13.out.mono B13.out.size)
    clear hu13 A13 B13
    obtain ⟨_, p0, p1⟩ := P1.out
    obtain ⟨_, k0, k1⟩ := H1.out
    go_wp2_with fail
    clear p0 p1 k0 k1
    refine (eqRepo_any _ _ _ _ _ _ _ _ vc vc vh vh _ RH.out (M0.out.below MB.out) FT.out.len FT.out.len).mono ?_
    rintro e w14 ⟨rfl, hb14⟩
    rw [hre]
    replace G1 := Lib.hid (G1.out.later hb14)
    replace IM := Lib.hid (IM.out.below hb14)
    have B14 : Hid (Below w.heap.size w w14) := B13u.out.trans (hb14.mono B13u.out.size)
    clear hb14 B13u P1 H1 RH MB
    obtain ⟨_, g0, g1⟩ := G1.out
    go_wp2_with fail
    clear g0 g1
    refine (heldRepo_any _ _ _ _ vc vh 1 _ IM.out FT.out.c FT.out.h FT.out.len.cms (by omega) (by omega)).mono ?_
    rintro e w15 ⟨rfl, hb15⟩
    have B15 : Hid (Below w.heap.size w w15) := B14.out.trans (hb15.mono B14.out.size)
    clear hb15 B14 G1 IM
    go_wp2
    go_ret
    exact ⟨rfl, B15.out⟩

set_option maxRecDepth 100000 in
theorem fnExactRepoBranch_lifted (os : Os) (started : os.Started) (H : Type) (enc : TypeId × Value → H) :
    ReturnsInHanded {} Tryz.checked os 10 .any (Rows.fnExactRepoBranchSpec.pre6 enc Tryz.prog Tryz.f10 Rows.fnExactRepoBranchRow.domain false) (Rows.fnExactRepoBranchSpec.post enc Tryz.prog Tryz.f10 false true false false) := by
  refine returnsInHanded_of_change (C := Tryz.checked) own started (by kernel_rfl) Tryz.func10
    (ChangeSpec.witness6 (enc := enc) (C := Tryz.checked) false ⟨#[], #[.agg #[.slice none 0 0, .slice none 0 0], .string .empty, .string .empty], []⟩ 8 (by kernel_rfl) (by kernel_rfl) (by kernel_rfl) (by kernel_rfl)) ?_
  intro W base args ds gs before hval0 hW _ _
  have hval : ∀ (j : Nat) t v, Tryz.f10.params[j]? = some t → args[j]? = some v → Value.okWide Tryz.prog W .any base t v := hval0
  have hW' := hW
  obtain ⟨p, q, hA0, hV, rfl, _, _⟩ := hW
  have hA : DataW.TrodAll enc Tryz.prog W 0 (fun _ => true) true Tryz.f10.params.toList args.toList ds p := hA0
  rw [Tryz.params10] at hA hval
  obtain ⟨v0, vs0, d0, ds0, p0, q0, hargs, rfl, rfl, h0, r0⟩ := trodAll_cons hA
  obtain ⟨v1, vs1, d1, ds1, p1, q1, rfl, rfl, rfl, h1, r1⟩ := trodAll_cons r0
  obtain ⟨v2, vs2, d2, ds2, p2, q2, rfl, rfl, rfl, h2, r2⟩ := trodAll_cons r1
  obtain ⟨rfl, rfl, rfl⟩ := trodAll_nil r2
  obtain rfl : args = #[v0, v1, v2] := by cases args; simp_all
  obtain ⟨rfl, rfl⟩ := trodVars_none hV
  have k0 := h0
  have lt0 : ∀ x ∈ p0, x.block < W.heap.size := by obtain ⟨m, hm⟩ := k0; exact DataW.trod_lt m _ _ _ hm
  obtain ⟨a0, c0, s0, b0, e0, t0, rfl, f0, g0⟩ := open_repo (hval 0 63 v0 rfl rfl) h0
  obtain ⟨x1, rfl, rfl, rfl, w1⟩ := Go.ChangeMaps.open_string Tryz.underlying9 (hval 1 9 v1 rfl rfl) h1
  obtain ⟨x2, rfl, rfl, rfl, w2⟩ := Go.ChangeMaps.open_string Tryz.underlying9 (hval 2 9 v2 rfl rfl) h2
  clear hA0 hval0
  refine (fnExactRepoBranch_walk a0 c0 s0 b0 e0 t0 x1 x2 W f0 g0 w1 w2).mono fun e W' ⟨he, bel⟩ => ?_
  subst he
  exact ⟨_, rfl, _, _, _, [], _, [], hW', trodAll_mk1 (shut_bool Tryz.underlying4 _), (trodAll_cons_mk (Below.trod laidOut (by kernel_rfl) (of_decide_eq_true (by kernel_rfl)) k0 bel lt0) (trodAll_cons_mk (Go.ChangeMaps.shut_string Tryz.underlying9 w1) (trodAll_cons_mk (Go.ChangeMaps.shut_string Tryz.underlying9 w2) trodAll_mk0))), rfl, bel.frame _, fun h => by cases h⟩

theorem fnExactRepoBranch_c1 : (Rows.fnExactRepoBranchRow.inPlace == Tryz.prog.inPlace 10) = true := by kernel_rfl
theorem fnExactRepoBranch_c2 : (Rows.fnExactRepoBranchRow.unfollowed == Tryz.prog.unfollowed 10) = true := by kernel_rfl
theorem fnExactRepoBranch_c3 : (Rows.fnExactRepoBranchRow.recurses == Tryz.prog.recurses 10) = true := by kernel_rfl
theorem fnExactRepoBranch_c4 : (Rows.fnExactRepoBranchRow.named == Tryz.prog.varsNamed 10) = true := by kernel_rfl
theorem fnExactRepoBranch_c5 : (Rows.fnExactRepoBranchRow.plainKeys == Tryz.prog.plainKeys) = true := pf_plainKeys
theorem fnExactRepoBranch_c6 : (Rows.fnExactRepoBranchRow.lifted == Tryz.prog.liftsFinal) = true := pf_lifted
theorem fnExactRepoBranch_c7 : (Tryz.prog.make == some Rows.fnExactRepoBranchRow.make) = true := pf_make
theorem fnExactRepoBranch_closed : joinedFacts Tryz.prog 10 Tryz.f10 Rows.fnExactRepoBranchSpec Rows.fnExactRepoBranchRow = true := by
  unfold joinedFacts
  simp only [Bool.and_eq_true]
  repeat' apply And.intro
  all_goals first
    | with_reducible exact laidOut
    | with_reducible exact pf_mapsRowed
    | with_reducible exact pf_mayEnter
    | with_reducible exact pf_stopsHeard
    | with_reducible exact fnExactRepoBranch_c1
    | with_reducible exact fnExactRepoBranch_c2
    | with_reducible exact fnExactRepoBranch_c3
    | with_reducible exact fnExactRepoBranch_c4
    | with_reducible exact fnExactRepoBranch_c5
    | with_reducible exact fnExactRepoBranch_c6
    | with_reducible exact fnExactRepoBranch_c7
    | kernel_rfl

theorem fnExactRepoBranch_over : Rows.fnExactRepoBranchRow.holds Tryz.pinned (OpenSpec.ofChange Rows.fnExactRepoBranchSpec) :=
  OpenClaim.holds_of_wide 10 Tryz.f10 rfl rfl rfl rfl rfl rfl rfl ⟨rfl, rfl, rfl, rfl, rfl⟩ rfl rfl rfl rfl rfl (by kernel_rfl) Tryz.func10 fnExactRepoBranch_closed
    (of_decide_eq_true (by kernel_rfl)) (by unfold Func.isWrapper; first | (rw [if_pos (by decide +kernel)]; kernel_rfl) | (rw [if_neg (by decide +kernel)]; exact ⟨rfl, rfl⟩))
    (fun os started H enc _ => fnExactRepoBranch_lifted os started H enc)

/-- the given statement -/
theorem fnExactRepoBranch_holds : Rows.FnExactRepoBranchSaid := fnExactRepoBranch_over

end Go.Proofs.YtdfadpejddhbkaaGreat
