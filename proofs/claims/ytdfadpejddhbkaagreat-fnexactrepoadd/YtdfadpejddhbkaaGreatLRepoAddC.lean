/- Proved here: the law FnExactRepoAdd answers true at every room of versions, every list of things and every two texts, and leaves it as it was; no condition. -/
import Derived.Test.YtdfadpejddhbkaaGreatWRepoAddIC
import Derived.Test.YtdfadpejddhbkaaGreatWRepoAddSC
import Derived.Test.YtdfadpejddhbkaaGreatWRepoLayUC
import Derived.Test.YtdfadpejddhbkaaGreatG8
import Derived.Test.YtdfadpejddhbkaaGreatG3
import Derived.Test.YtdfadpejddhbkaaGreatG9
import Derived.Deep.RegionHeld3
import Derived.Deep.DeepCutAuto
namespace Go.Proofs.YtdfadpejddhbkaaGreat
set_option linter.unusedVariables false
open Go.ChangeShapes Go.WideShapes Go.ChangeAt Go.RowKit

set_option maxRecDepth 100000 in
set_option maxHeartbeats 12000000 in
theorem fnExactRepoAdd_walk (a : Option Addr) (ca : Nat) (cs : List Cm) (b : Option Addr) (cb : Nat) (hs : List Hd) (x : ByteArray) (fa : Option Addr) (fc : Nat) (fs : List Ft) (y : ByteArray) (w : World) (hc : CommitsIn w a cs) (hh : HeadsIn w b hs) (hx : x.size ≤ maxLen) (hf : FeatsIn w fa fs) (hy : y.size ≤ maxLen) :
    Calls Tryz.prog 9 #[.agg #[.slice a cs.length ca, .slice b hs.length cb], .string x, .slice fa fs.length fc, .string y] w fun e w' => e = .returned (.bool true) ∧ Below w.heap.size w w' := by
  have HC := Lib.hid hc
  have HH := Lib.hid hh
  have HF := Lib.hid hf
  clear hc hh hf
  have A0 : Hid (∀ o, Below w.heap.size w (w.alloc o)) := fun o => (Below.refl _ _).alloc (Nat.le_refl _) _
  unfold maxLen at hx
  by_cases gx : (x.size : Int) > 1048576
  · go_enter Tryz.func9, Tryz.ntmps9
    go_wp2
    go_ret
    exact ⟨rfl, A0.out _⟩
  unfold maxLen at hy
  by_cases gy : (y.size : Int) > 1048576
  · go_enter Tryz.func9, Tryz.ntmps9
    go_wp2
    go_ret
    exact ⟨rfl, A0.out _⟩
  obtain ⟨vc, vh, vk, hV⟩ : ∃ vc vh vk, addV cs hs x fs y = (vc, vh, vk) := ⟨_, _, _, rfl⟩
  have HV := Lib.hid hV
  clear hV
  go_enter Tryz.func9, Tryz.ntmps9
  go_wp2_with fail
  refine (szRepo_sum _ _ _ _ _ _ _ _ (HC.out.below (A0.out _)) (HH.out.below (A0.out _)) (by omega) (by omega)).mono ?_
  rintro e w1 ⟨⟨r, rfl, hsz⟩, hb1⟩
  have C1 : Hid (Box2 w1 w.heap.size (.slice a cs.length ca) (.slice b hs.length cb)) := (Box2.new w _ _ _).later hb1
  have B1 : Hid (Below w.heap.size w w1) := (A0.out _).trans (hb1.mono (by simp))
  clear hb1
  rcases hsz with rfl | ⟨r0, r1, l1⟩
  · go_wp2
    go_ret
    exact ⟨rfl, B1.out⟩
  have L1 : Hid (RpLen cs hs 1048576) := ⟨by have := l1.cl; omega, by have := l1.hl; omega, l1.cms.mono (by omega), l1.hds.mono (by omega)⟩
  have hW : wC cs cs.length ≤ 1048576 := by omega
  clear l1
  go_wp2_with fail
  refine (szFeatS_any _ _ _ _ _ (HF.out.below B1.out) (by omega) (by omega)).mono ?_
  rintro e w1f ⟨⟨r', rfl, hs'⟩, hn⟩
  replace C1 := Lib.hid (C1.out.later hn)
  have B1f : Hid (Below w.heap.size w w1f) := B1.out.trans (hn.mono B1.out.size)
  clear hn B1
  rcases hs' with rfl | ⟨r0', r1', l1', l2'⟩
  · go_wp2
    go_ret
    exact ⟨rfl, B1f.out⟩
  have HFL : Hid (FeatsLen fs 1048576) := l2'.mono (by omega)
  have hfl : fs.length ≤ 1048576 := by omega
  have B1 := B1f
  clear l2' B1f
  generalize w1f = w1 at *
  have FT : Hid (RpFit (vc, vh, vk)) := by rw [← HV.out]; exact addV_fit x y fs L1.out hfl HFL.out (by omega)
  obtain ⟨z0, c0, c1⟩ := C1.out
  go_wp2_with fail
  clear c0 c1
  refine (toRepo_any _ _ _ _ _ _ _ (HC.out.reads.below B1.out) (HH.out.reads.below B1.out) L1.out).mono ?_
  rintro e w2 ⟨a2, ca2, b2, cb2, rfl, _, _, hR2, hb2⟩
  replace C1 := Lib.hid (C1.out.later hb2)
  have B2 : Hid (Below w.heap.size w w2) := B1.out.trans (hb2.mono B1.out.size)
  have R2a := Lib.hid hR2
  clear hb2 hR2 B1
  go_wp2_with fail
  refine (toFeatS_any fa fc fs _ (HF.out.reads.below B2.out) hfl HFL.out).mono ?_
  rintro e w2f ⟨bA, adA, rfl, rA, pA, hxA, hbn⟩
  replace C1 := Lib.hid (C1.out.later hbn)
  have R2 := Lib.hid (R2a.out.below hbn)
  have FA2 : Hid (FeatsAt w2f (some ⟨bA, 0, none⟩) fs) := (FeatsUp.of_row rA pA (Nat.zero_le _)).at
  have B2f : Hid (Below w.heap.size w w2f) := B2.out.trans (hbn.mono B2.out.size)
  have B2 := B2f
  clear hbn rA pA hxA B2f R2a
  go_wp2_with fail
  refine (specRepoAdd_any _ _ _ _ cs hs x _ _ fs y _ R2.out L1.out FA2.out hfl HFL.out (by omega)).mono ?_
  intro e w3 hA3
  obtain ⟨am, cm, bm, dm, ad0, S0, rfl, _, hM, hb3⟩ := RoomAns.parts KS.law HV.out hA3
  replace C1 := Lib.hid (C1.out.later hb3)
  have B3 : Hid (Below w.heap.size w w3) := B2.out.trans (hb3.mono B2.out.size)
  have M0 := Lib.hid hM
  clear hb3 hA3 hM B2 R2
  go_upto_region 13 with (fail)
  obtain ⟨u3, hu3⟩ : ∃ u3, u3 = w3.alloc (.cells #[.slice am vc.length cm, .slice bm vh.length dm] 46) := ⟨_, rfl⟩
  rw [← hu3]
  have A3 : Hid (Below w3.heap.size w3 u3) := by rw [hu3]; exact (Below.refl _ _).alloc (Nat.le_refl _) _
  have P1 : Hid (Box2 u3 w3.heap.size (.slice am vc.length cm) (.slice bm vh.length dm)) := by rw [hu3]; exact Box2.new w3 _ _ _
  replace C1 := Lib.hid (C1.out.later A3.out)
  have MB : Hid (Below w3.heap.size w3 u3) := A3.out
  have BU : Hid (Below w.heap.size w u3) := B3.out.trans (A3.out.mono B3.out.size)
  have zp := P1.out.lt
  have zw3 := B3.out.size
  clear hu3 A3 B3
  obtain ⟨z0, c0, c1⟩ := C1.out
  go_wp2_with fail
  clear c0 c1
  refine (toRepo_lay _ _ _ _ _ _ _ (HC.out.reads.below BU.out) (HH.out.reads.below BU.out) L1.out).mono ?_
  rintro e w4 ⟨bX, ad, cut, qX, rfl, hX, hbX, hqX, hb4⟩
  replace C1 := Lib.hid (C1.out.later hb4)
  replace P1 := Lib.hid (P1.out.later hb4)
  replace MB := Lib.hid (MB.out.trans (hb4.mono MB.out.size))
  have B4 : Hid (Below w.heap.size w w4) := BU.out.trans (hb4.mono BU.out.size)
  have RX := Lib.hid hX
  have hcq := hX.cq
  have hc0 := hX.c0
  have hcn := hX.lay.cut cs.length (Nat.le_refl _)
  clear hb4 hX BU
  go_upto_region 14 with (fail)
  obtain ⟨u4, hu4⟩ : ∃ u4, u4 = w4.alloc (.cells #[.slice (some ⟨bX, 0, none⟩) cs.length cs.length, .slice (some ⟨qX, 0, none⟩) hs.length hs.length] 46) := ⟨_, rfl⟩
  rw [← hu4]
  have A4 : Hid (Below w4.heap.size w4 u4) := by rw [hu4]; exact (Below.refl _ _).alloc (Nat.le_refl _) _
  have X1 : Hid (Box2 u4 w4.heap.size (.slice (some ⟨bX, 0, none⟩) cs.length cs.length) (.slice (some ⟨qX, 0, none⟩) hs.length hs.length)) := by rw [hu4]; exact Box2.new w4 _ _ _
  replace C1 := Lib.hid (C1.out.later A4.out)
  replace P1 := Lib.hid (P1.out.later A4.out)
  replace RX := Lib.hid (RX.out.below A4.out)
  replace MB := Lib.hid (MB.out.trans (A4.out.mono MB.out.size))
  have B4u : Hid (Below w.heap.size w u4) := B4.out.trans (A4.out.mono B4.out.size)
  have zx := X1.out.lt
  clear hu4 A4 B4
  go_wp2_with fail
  refine (toFeatS_any fa fc fs _ (HF.out.reads.below B4u.out) hfl HFL.out).mono ?_
  rintro e w4f ⟨bF, adF, rfl, rF, pF, hxF, hbn⟩
  obtain ⟨hLie, hSep⟩ := lies_of_row rF pF
  have SX := Lib.hid hSep
  have HBX := Lib.hid (blocks_of_row (w0 := u4) rF pF hxF)
  have LX := Lib.hid hLie
  replace C1 := Lib.hid (C1.out.later hbn)
  replace P1 := Lib.hid (P1.out.later hbn)
  replace X1 := Lib.hid (X1.out.later hbn)
  replace RX := Lib.hid (RX.out.below hbn)
  replace MB := Lib.hid (MB.out.trans (hbn.mono MB.out.size))
  have B4f : Hid (Below w.heap.size w w4f) := B4u.out.trans (hbn.mono B4u.out.size)
  have zf4 := hbn.size
  clear hbn rF pF hxF hLie hSep B4u
  have B4u := B4f
  clear B4f
  obtain ⟨_, d0, d1⟩ := X1.out
  go_wp2_with fail
  clear d0 d1
  refine (implRepoAdd_any _ _ _ _ cs hs x _ _ fs y _ RX.out.at L1.out (Nat.le_refl _) (by omega) LX.out.reads hfl HFL.out (by omega)).mono ?_
  intro e w5 hA5
  obtain ⟨ag, cg, bg, dg, adG, SG, rfl, hRG, _, hb5⟩ := RoomAns.parts KI.law HV.out hA5
  have RGB := Lib.hid hRG.blocks
  have RG := Lib.hid hRG
  replace C1 := Lib.hid (C1.out.later hb5)
  replace P1 := Lib.hid (P1.out.later hb5)
  replace X1 := Lib.hid (X1.out.later hb5)
  replace RX := Lib.hid (RX.out.below hb5)
  replace LX := Lib.hid (LX.out.below hb5)
  replace MB := Lib.hid (MB.out.trans (hb5.mono MB.out.size))
  have B5 : Hid (Below w.heap.size w w5) := B4u.out.trans (hb5.mono B4u.out.size)
  have zx5 : w4.heap.size < w5.heap.size := by have := hb5.size; omega
  have zf5 := hb5.size
  clear hb5 hA5 hRG B4u
  go_upto_region 16 with (fail)
  obtain ⟨u5, hu5⟩ : ∃ u5, u5 = w5.alloc (.cells #[.slice ag vc.length cg, .slice bg vh.length dg] 46) := ⟨_, rfl⟩
  rw [← hu5]
  have A5 : Hid (Below w5.heap.size w5 u5) := by rw [hu5]; exact (Below.refl _ _).alloc (Nat.le_refl _) _
  have G1 : Hid (Box2 u5 w5.heap.size (.slice ag vc.length cg) (.slice bg vh.length dg)) := by rw [hu5]; exact Box2.new w5 _ _ _
  replace C1 := Lib.hid (C1.out.later A5.out)
  replace P1 := Lib.hid (P1.out.later A5.out)
  replace X1 := Lib.hid (X1.out.later A5.out)
  replace RX := Lib.hid (RX.out.below A5.out)
  replace LX := Lib.hid (LX.out.below A5.out)
  replace RG := Lib.hid (RG.out.below KI.law A5.out)
  replace MB := Lib.hid (MB.out.trans (A5.out.mono MB.out.size))
  have B5u : Hid (Below w.heap.size w u5) := B5.out.trans (A5.out.mono B5.out.size)
  have zg := G1.out.lt
  clear hu5 A5 B5
  have RA : Hid (∀ {u : World}, Room KI u w4f.heap.size (.slice ag vc.length cg) (.slice bg vh.length dg) vc vh adG SG → RepoAt u ag bg vc vh) := fun h => by
    obtain ⟨_, _, _, _, e1, e2, _, _, h⟩ := h.form KI.law
    cases e1
    cases e2
    exact h
  have hne : (vk != vk) = false := by simp
  have hre : rpEq vc vc vh vh = true := rpEq_refl _ _
  obtain ⟨_, p0, p1⟩ := P1.out
  obtain ⟨_, g0, g1⟩ := G1.out
  go_wp2_with fail
  clear p0 p1 g0 g1
  refine (eqRepo_any _ _ _ _ _ _ _ _ vc vc vh vh _ (RA.out RG.out) (M0.out.below MB.out) FT.out.len FT.out.len).mono ?_
  rintro e w6 ⟨rfl, hb6⟩
  rw [hre]
  replace C1 := Lib.hid (C1.out.later hb6)
  replace P1 := Lib.hid (P1.out.later hb6)
  replace X1 := Lib.hid (X1.out.later hb6)
  replace G1 := Lib.hid (G1.out.later hb6)
  replace RX := Lib.hid (RX.out.below hb6)
  replace LX := Lib.hid (LX.out.below hb6)
  replace RG := Lib.hid (RG.out.below KI.law hb6)
  replace MB := Lib.hid (MB.out.trans (hb6.mono MB.out.size))
  have B6 : Hid (Below w.heap.size w w6) := B5u.out.trans (hb6.mono B5u.out.size)
  clear hb6 B5u
  go_upto_region 18 with (fail)
  go_cut [72] (fun s wx => s = .bool false ∧ Below w6.heap.size w6 wx)
  case first =>
    obtain ⟨_, c0, c1⟩ := C1.out
    obtain ⟨_, d0, d1⟩ := X1.out
    go_region_held3 (fun w' => w'.cell? ⟨w.heap.size, 0, none⟩ = some (.slice a cs.length ca) ∧ w'.cell? ⟨w.heap.size, 1, none⟩ = some (.slice b hs.length cb) ∧ w'.cell? ⟨w4.heap.size, 0, none⟩ = some (.slice (some ⟨bX, 0, none⟩) cs.length cs.length) ∧ w'.cell? ⟨w4.heap.size, 1, none⟩ = some (.slice (some ⟨qX, 0, none⟩) hs.length hs.length) ∧ Below w6.heap.size w6 w')
      (first
        | (go_split_ands
           rename_i hS0 hS1 hS2 hS3 hS4
           with_reducible exact ⟨cell_later hbn hS0, cell_later hbn hS1, cell_later hbn hS2, cell_later hbn hS3, hS4.trans (hbn.mono hS4.size)⟩)
        | exact ⟨c0, c1, d0, d1, (Below.refl _ _).drew⟩)
      (first
        | (go_at_call 41
           refine (toRepo_any _ _ _ _ _ _ _ ?_ ?_ L1.out).mono ?_
           · (go_split_ands; exact HC.out.reads.below (B6.out.trans (Below.mono (by assumption) B6.out.size)))
           · (go_split_ands; exact HH.out.reads.below (B6.out.trans (Below.mono (by assumption) B6.out.size)))
           rintro e wn ⟨aA, caA, bA, cbA, rfl, _, _, hRA, hbn⟩)
        | (go_at_call 44
           refine (eqRepo_any _ _ _ _ _ _ _ _ cs cs hs hs _ ?_ ?_ L1.out L1.out).mono ?_
           · (go_split_ands; exact RX.out.at.below (by assumption))
           · (assumption)
           rintro e wn ⟨rfl, hbn⟩))
    all_goals (go_wp2_with fail; go_meet; go_split_ands; exact ⟨by simp [rpEq_refl], by assumption⟩)
  case rest =>
    obtain ⟨rfl, hb7⟩ := hcut
    replace C1 := Lib.hid (C1.out.later hb7)
    replace P1 := Lib.hid (P1.out.later hb7)
    replace X1 := Lib.hid (X1.out.later hb7)
    replace G1 := Lib.hid (G1.out.later hb7)
    replace RX := Lib.hid (RX.out.below hb7)
    replace LX := Lib.hid (LX.out.below hb7)
    replace RG := Lib.hid (RG.out.below KI.law hb7)
    replace MB := Lib.hid (MB.out.trans (hb7.mono MB.out.size))
    have B7 : Hid (Below w.heap.size w wc) := B6.out.trans (hb7.mono B6.out.size)
    clear hb7 B6
    go_wp2_with fail
    refine (toFeatS_any fa fc fs _ (HF.out.reads.below B7.out) hfl HFL.out).mono ?_
    rintro e w7a ⟨bB, adB, rfl, rB, pB, hxB, hbn⟩
    have FB : Hid (FeatsAt w7a (some ⟨bB, 0, none⟩) fs) := (FeatsUp.of_row rB pB (Nat.zero_le _)).at
    replace C1 := Lib.hid (C1.out.later hbn)
    replace P1 := Lib.hid (P1.out.later hbn)
    replace X1 := Lib.hid (X1.out.later hbn)
    replace G1 := Lib.hid (G1.out.later hbn)
    replace RX := Lib.hid (RX.out.below hbn)
    replace LX := Lib.hid (LX.out.below hbn)
    replace RG := Lib.hid (RG.out.below KI.law hbn)
    replace MB := Lib.hid (MB.out.trans (hbn.mono MB.out.size))
    have B7a : Hid (Below w.heap.size w w7a) := B7.out.trans (hbn.mono B7.out.size)
    clear hbn rB pB hxB B7
    go_wp2_with fail
    refine (eqFeatS_any _ _ _ _ fs fs _ LX.out.reads FB.out hfl hfl HFL.out HFL.out).mono ?_
    rintro e w7b ⟨rfl, hbn⟩
    rw [show fsEq fs fs = true by simp [fsEq]]
    replace C1 := Lib.hid (C1.out.later hbn)
    replace P1 := Lib.hid (P1.out.later hbn)
    replace X1 := Lib.hid (X1.out.later hbn)
    replace G1 := Lib.hid (G1.out.later hbn)
    replace RX := Lib.hid (RX.out.below hbn)
    replace LX := Lib.hid (LX.out.below hbn)
    replace RG := Lib.hid (RG.out.below KI.law hbn)
    replace MB := Lib.hid (MB.out.trans (hbn.mono MB.out.size))
    have B7 : Hid (Below w.heap.size w w7b) := B7a.out.trans (hbn.mono B7a.out.size)
    clear hbn FB B7a
    obtain ⟨_, d0, d1⟩ := X1.out
    go_wp2_with fail
    clear d0 d1
    refine (markRepo_layU bX qX ad cut cs hs 1 _ RX.out L1.out hW (by omega) (by omega)).mono ?_
    rintro e w8 ⟨⟨k8, rfl, hk8, hk9⟩, ht8⟩
    have zc := C1.out.lt
    have zq := RX.out.hds.lt
    have B8 : Hid (Below w.heap.size w w8) := B7.out.trans (ht8.below B7.out.size fun x hx => by omega)
    replace MB := Lib.hid (MB.out.trans (ht8.below MB.out.size fun x hx => by omega))
    replace C1 := Lib.hid (C1.out.turned ht8 (by omega))
    replace P1 := Lib.hid (P1.out.turned ht8 (by omega))
    replace G1 := Lib.hid (G1.out.turned ht8 (by omega))
    replace RG := Lib.hid (RG.out.turned KI.law ht8 fun x hx hy => by have := (RGB.out x hx).1; omega)
    replace LX := Lib.hid (LX.out.turned ht8 fun x hx hy => by have := (HBX.out x hx).1; omega)
    clear ht8 B7 X1 RX
    go_wp2_with fail
    refine (markFeatS_some bF 0 _ fs _ k8 _ hfl HFL.out hk8 (by omega) LX.out SX.out).mono ?_
    rintro e w8a ⟨rfl, _, ht8⟩
    have hmk := (lmk_le hk8 (by omega) HFL.out fs.length (Nat.le_refl _)).1
    have B8a : Hid (Below w.heap.size w w8a) := B8.out.trans (ht8.below B8.out.size fun x hx => by have := (HBX.out x hx).1; omega)
    replace MB := Lib.hid (MB.out.trans (ht8.below MB.out.size fun x hx => by have := (HBX.out x hx).1; omega))
    replace C1 := Lib.hid (C1.out.turned ht8 fun hx => by have := (HBX.out _ hx).1; omega)
    replace P1 := Lib.hid (P1.out.turned ht8 fun hx => by have := (HBX.out _ hx).1; omega)
    replace G1 := Lib.hid (G1.out.turned ht8 fun hx => by have := (HBX.out _ hx).2; omega)
    replace RG := Lib.hid (RG.out.turned KI.law ht8 fun x hx hy => by have := (RGB.out x hx).1; have := (HBX.out x hy).2; omega)
    clear ht8 B8
    have B8 := B8a
    clear B8a LX
    generalize lmk fs k8 fs.length = k10 at *
    obtain ⟨_, p0, p1⟩ := P1.out
    obtain ⟨_, g0, g1⟩ := G1.out
    have hk8' : ¬ k10 < 0 := by omega
    go_wp2_with fail
    clear p0 p1 g0 g1
    refine (eqRepo_any _ _ _ _ _ _ _ _ vc vc vh vh _ (RA.out RG.out) (M0.out.below MB.out) FT.out.len FT.out.len).mono ?_
    rintro e w9 ⟨rfl, hb9⟩
    rw [hre]
    replace C1 := Lib.hid (C1.out.later hb9)
    replace P1 := Lib.hid (P1.out.later hb9)
    replace G1 := Lib.hid (G1.out.later hb9)
    replace RG := Lib.hid (RG.out.below KI.law hb9)
    replace MB := Lib.hid (MB.out.trans (hb9.mono MB.out.size))
    have B9 : Hid (Below w.heap.size w w9) := B8.out.trans (hb9.mono B8.out.size)
    clear hb9 B8
    obtain ⟨_, g0, g1⟩ := G1.out
    go_wp2_with fail
    clear g0 g1
    refine (markRepo_own _ _ _ vc vh adG SG 1 _ RG.out FT.out.c FT.out.h FT.out.len.cms (by omega) (by omega)).mono ?_
    rintro e w10 ⟨rfl, hGM, ht10⟩
    have B10 : Hid (Below w.heap.size w w10) := B9.out.trans (ht10.below B9.out.size fun x hx => by have := (RGB.out x hx).1; omega)
    replace MB := Lib.hid (MB.out.trans (ht10.below MB.out.size fun x hx => by have := (RGB.out x hx).1; omega))
    replace C1 := Lib.hid (C1.out.turned ht10 fun hx => by have := (RGB.out _ hx).1; omega)
    replace P1 := Lib.hid (P1.out.turned ht10 fun hx => by have := (RGB.out _ hx).1; omega)
    replace G1 := Lib.hid (G1.out.turned ht10 fun hx => by have := (RGB.out _ hx).2; omega)
    have IM : Hid (RepoAt w10 ag bg (mkdC vc 1 vc.length) (mkHd vh (cmk vc 1 vc.length) vh.length)) := by
      obtain ⟨_, _, _, _, e1, e2, _, _, h⟩ := hGM.form KI.law
      rw [mkdC_len] at e1
      rw [mkHd_len] at e2
      cases e1
      cases e2
      exact h
    clear ht10 hGM B9 RG RA
    obtain ⟨_, g0, g1⟩ := G1.out
    have hm1 : 0 ≤ cmk vc 1 vc.length := (cmk_le (k := 1) (by omega) (by omega) FT.out.c FT.out.len.cms _ (Nat.le_refl _)).1
    have hm2 : ¬ rmk vc vh 1 < 0 := by unfold rmk; omega
    have hm3 : (rmk vc vh 1 != rmk vc vh 1) = false := by simp
    clear hm1
    go_wp2_with fail
    clear g0 g1
    refine (heldRepo_any _ _ _ _ vc vh 1 _ IM.out FT.out.c FT.out.h FT.out.len.cms (by omega) (by omega)).mono ?_
    rintro e w11 ⟨rfl, hb11⟩
    replace C1 := Lib.hid (C1.out.later hb11)
    replace P1 := Lib.hid (P1.out.later hb11)
    replace G1 := Lib.hid (G1.out.later hb11)
    replace IM := Lib.hid (IM.out.below hb11)
    replace MB := Lib.hid (MB.out.trans (hb11.mono MB.out.size))
    have B11 : Hid (Below w.heap.size w w11) := B10.out.trans (hb11.mono B10.out.size)
    clear hb11 B10
    obtain ⟨_, c0, c1⟩ := C1.out
    go_wp2_with fail
    clear c0 c1
    refine (toRepo_any _ _ _ _ _ _ _ (HC.out.reads.below B11.out) (HH.out.reads.below B11.out) L1.out).mono ?_
    rintro e w12 ⟨a12, ca12, b12, cb12, rfl, hca12, _, hR12, hb12⟩
    replace P1 := Lib.hid (P1.out.later hb12)
    replace G1 := Lib.hid (G1.out.later hb12)
    replace IM := Lib.hid (IM.out.below hb12)
    replace MB := Lib.hid (MB.out.trans (hb12.mono MB.out.size))
    have B12 : Hid (Below w.heap.size w w12) := B11.out.trans (hb12.mono B11.out.size)
    have R12a := Lib.hid hR12
    clear hb12 hR12 B11 C1
    go_wp2_with fail
    refine (toFeatS_any fa fc fs _ (HF.out.reads.below B12.out) hfl HFL.out).mono ?_
    rintro e w12f ⟨bH, adH', rfl, rH, pH, hxH, hbn⟩
    have FH : Hid (FeatsAt w12f (some ⟨bH, 0, none⟩) fs) := (FeatsUp.of_row rH pH (Nat.zero_le _)).at
    replace P1 := Lib.hid (P1.out.later hbn)
    replace G1 := Lib.hid (G1.out.later hbn)
    replace IM := Lib.hid (IM.out.below hbn)
    have R12 := Lib.hid (R12a.out.below hbn)
    replace MB := Lib.hid (MB.out.trans (hbn.mono MB.out.size))
    have B12f : Hid (Below w.heap.size w w12f) := B12.out.trans (hbn.mono B12.out.size)
    clear hbn rH pH hxH R12a B12
    have B12 := B12f
    clear B12f
    go_wp2_with fail
    refine (implRepoAdd_any _ _ _ _ cs hs x _ _ fs y _ R12.out L1.out hca12 (by omega) FH.out hfl HFL.out (by omega)).mono ?_
    intro e w13 hA13
    obtain ⟨ah, ch, bh, dh, adH, SH, rfl, _, hH, hb13⟩ := RoomAns.parts KI.law HV.out hA13
    have RH := Lib.hid hH
    replace P1 := Lib.hid (P1.out.later hb13)
    replace G1 := Lib.hid (G1.out.later hb13)
    replace IM := Lib.hid (IM.out.below hb13)
    replace MB := Lib.hid (MB.out.trans (hb13.mono MB.out.size))
    have B13 : Hid (Below w.heap.size w w13) := B12.out.trans (hb13.mono B12.out.size)
    clear hb13 hA13 hH B12 R12
    go_upto_region 36 with (fail)
    obtain ⟨u13, hu13⟩ : ∃ u13, u13 = w13.alloc (.cells #[.slice ah vc.length ch, .slice bh vh.length dh] 46) := ⟨_, rfl⟩
    rw [← hu13]
    have A13 : Hid (Below w13.heap.size w13 u13) := by rw [hu13]; exact (Below.refl _ _).alloc (Nat.le_refl _) _
    have H1 : Hid (Box2 u13 w13.heap.size (.slice ah vc.length ch) (.slice bh vh.length dh)) := by rw [hu13]; exact Box2.new w13 _ _ _
    replace P1 := Lib.hid (P1.out.later A13.out)
    replace G1 := Lib.hid (G1.out.later A13.out)
    replace IM := Lib.hid (IM.out.below A13.out)
    replace RH := Lib.hid (RH.out.below A13.out)
    replace MB := Lib.hid (MB.out.trans (A13.out.mono MB.out.size))
    have B13u : Hid (Below w.heap.size w u13) := B13.out.trans (A13.out.mono B13.out.size)
    clear hu13 A13 B13
    obtain ⟨_, p0, p1⟩ := P1.out
    obtain ⟨_, k0, k1⟩ := H1.out
    go_wp2_with fail
    clear p0 p1 k0 k1
    refine (eqRepo_any _ _ _ _ _ _ _ _ vc vc vh vh _ RH.out (M0.out.below MB.out) FT.out.len FT.out.len).mono ?_
    rintro e w14 ⟨rfl, hb14⟩
    rw [hre]
    replace G1 := Lib.hid (G1.out.later hb14)
    replace IM := Lib.hid (IM.out.below hb14)
    have B14 : Hid (Below w.heap.size w w14) := B13u.out.trans (hb14.mono B13u.out.size)
    clear hb14 B13u P1 H1 RH MB
    obtain ⟨_, g0, g1⟩ := G1.out
    go_wp2_with fail
    clear g0 g1
    refine (heldRepo_any _ _ _ _ vc vh 1 _ IM.out FT.out.c FT.out.h FT.out.len.cms (by omega) (by omega)).mono ?_
    rintro e w15 ⟨rfl, hb15⟩
    have B15 : Hid (Below w.heap.size w w15) := B14.out.trans (hb15.mono B14.out.size)
    clear hb15 B14 G1 IM
    go_wp2
    go_ret
    exact ⟨rfl, B15.out⟩

set_option maxRecDepth 100000 in
theorem fnExactRepoAdd_lifted (os : Os) (started : os.Started) (H : Type) (enc : TypeId × Value → H) :
    ReturnsInHanded {} Tryz.checked os 9 .any (Rows.fnExactRepoAddSpec.pre6 enc Tryz.prog Tryz.f9 Rows.fnExactRepoAddRow.domain false) (Rows.fnExactRepoAddSpec.post enc Tryz.prog Tryz.f9 false true false false) := by
  refine returnsInHanded_of_change (C := Tryz.checked) own started (by kernel_rfl) Tryz.func9
    (ChangeSpec.witness6 (enc := enc) (C := Tryz.checked) false ⟨#[], #[.agg #[.slice none 0 0, .slice none 0 0], .string .empty, .slice none 0 0, .string .empty], []⟩ 8 (by kernel_rfl) (by kernel_rfl) (by kernel_rfl) (by kernel_rfl)) ?_
  intro W base args ds gs before hval0 hW _ _
  have hval : ∀ (j : Nat) t v, Tryz.f9.params[j]? = some t → args[j]? = some v → Value.okWide Tryz.prog W .any base t v := hval0
  have hW' := hW
  obtain ⟨p, q, hA0, hV, rfl, _, _⟩ := hW
  have hA : DataW.TrodAll enc Tryz.prog W 0 (fun _ => true) true Tryz.f9.params.toList args.toList ds p := hA0
  rw [Tryz.params9] at hA hval
  obtain ⟨v0, vs0, d0, ds0, p0, q0, hargs, rfl, rfl, h0, r0⟩ := trodAll_cons hA
  obtain ⟨v1, vs1, d1, ds1, p1, q1, rfl, rfl, rfl, h1, r1⟩ := trodAll_cons r0
  obtain ⟨v2, vs2, d2, ds2, p2, q2, rfl, rfl, rfl, h2, r2⟩ := trodAll_cons r1
  obtain ⟨v3, vs3, d3, ds3, p3, q3, rfl, rfl, rfl, h3, r3⟩ := trodAll_cons r2
  obtain ⟨rfl, rfl, rfl⟩ := trodAll_nil r3
  obtain rfl : args = #[v0, v1, v2, v3] := by cases args; simp_all
  obtain ⟨rfl, rfl⟩ := trodVars_none hV
  have k0 := h0
  have lt0 : ∀ x ∈ p0, x.block < W.heap.size := by obtain ⟨m, hm⟩ := k0; exact DataW.trod_lt m _ _ _ hm
  obtain ⟨a0, c0, s0, b0, e0, t0, rfl, f0, g0⟩ := open_repo (hval 0 63 v0 rfl rfl) h0
  obtain ⟨x1, rfl, rfl, rfl, w1⟩ := Go.ChangeMaps.open_string Tryz.underlying9 (hval 1 9 v1 rfl rfl) h1
  have k2 := h2
  have lt2 : ∀ x ∈ p2, x.block < W.heap.size := by obtain ⟨m, hm⟩ := k2; exact DataW.trod_lt m _ _ _ hm
  obtain ⟨a2, c2, s2, rfl, f2⟩ := open_feats (hval 2 64 v2 rfl rfl) h2
  obtain ⟨x3, rfl, rfl, rfl, w3⟩ := Go.ChangeMaps.open_string Tryz.underlying9 (hval 3 9 v3 rfl rfl) h3
  clear hA0 hval0
  refine (fnExactRepoAdd_walk a0 c0 s0 b0 e0 t0 x1 a2 c2 s2 x3 W f0 g0 w1 f2 w3).mono fun e W' ⟨he, bel⟩ => ?_
  subst he
  exact ⟨_, rfl, _, _, _, [], _, [], hW', trodAll_mk1 (shut_bool Tryz.underlying4 _), (trodAll_cons_mk (Below.trod laidOut (by kernel_rfl) (of_decide_eq_true (by kernel_rfl)) k0 bel lt0) (trodAll_cons_mk (Go.ChangeMaps.shut_string Tryz.underlying9 w1) (trodAll_cons_mk (Below.trod laidOut (by kernel_rfl) (of_decide_eq_true (by kernel_rfl)) k2 bel lt2) (trodAll_cons_mk (Go.ChangeMaps.shut_string Tryz.underlying9 w3) trodAll_mk0)))), rfl, bel.frame _, fun h => by cases h⟩

theorem fnExactRepoAdd_c1 : (Rows.fnExactRepoAddRow.inPlace == Tryz.prog.inPlace 9) = true := by kernel_rfl
theorem fnExactRepoAdd_c2 : (Rows.fnExactRepoAddRow.unfollowed == Tryz.prog.unfollowed 9) = true := by kernel_rfl
theorem fnExactRepoAdd_c3 : (Rows.fnExactRepoAddRow.recurses == Tryz.prog.recurses 9) = true := by kernel_rfl
theorem fnExactRepoAdd_c4 : (Rows.fnExactRepoAddRow.named == Tryz.prog.varsNamed 9) = true := by kernel_rfl
theorem fnExactRepoAdd_c5 : (Rows.fnExactRepoAddRow.plainKeys == Tryz.prog.plainKeys) = true := pf_plainKeys
theorem fnExactRepoAdd_c6 : (Rows.fnExactRepoAddRow.lifted == Tryz.prog.liftsFinal) = true := pf_lifted
theorem fnExactRepoAdd_c7 : (Tryz.prog.make == some Rows.fnExactRepoAddRow.make) = true := pf_make
theorem fnExactRepoAdd_closed : joinedFacts Tryz.prog 9 Tryz.f9 Rows.fnExactRepoAddSpec Rows.fnExactRepoAddRow = true := by
  unfold joinedFacts
  simp only [Bool.and_eq_true]
  repeat' apply And.intro
  all_goals first
    | with_reducible exact laidOut
    | with_reducible exact pf_mapsRowed
    | with_reducible exact pf_mayEnter
    | with_reducible exact pf_stopsHeard
    | with_reducible exact fnExactRepoAdd_c1
    | with_reducible exact fnExactRepoAdd_c2
    | with_reducible exact fnExactRepoAdd_c3
    | with_reducible exact fnExactRepoAdd_c4
    | with_reducible exact fnExactRepoAdd_c5
    | with_reducible exact fnExactRepoAdd_c6
    | with_reducible exact fnExactRepoAdd_c7
    | kernel_rfl

theorem fnExactRepoAdd_over : Rows.fnExactRepoAddRow.holds Tryz.pinned (OpenSpec.ofChange Rows.fnExactRepoAddSpec) :=
  OpenClaim.holds_of_wide 9 Tryz.f9 rfl rfl rfl rfl rfl rfl rfl ⟨rfl, rfl, rfl, rfl, rfl⟩ rfl rfl rfl rfl rfl (by kernel_rfl) Tryz.func9 fnExactRepoAdd_closed
    (of_decide_eq_true (by kernel_rfl)) (by unfold Func.isWrapper; first | (rw [if_pos (by decide +kernel)]; kernel_rfl) | (rw [if_neg (by decide +kernel)]; exact ⟨rfl, rfl⟩))
    (fun os started H enc _ => fnExactRepoAdd_lifted os started H enc)

/-- the given statement -/
theorem fnExactRepoAdd_holds : Rows.FnExactRepoAddSaid := fnExactRepoAdd_over

end Go.Proofs.YtdfadpejddhbkaaGreat
