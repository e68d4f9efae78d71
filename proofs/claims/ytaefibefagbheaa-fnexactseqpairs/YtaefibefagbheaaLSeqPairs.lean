/- Proved here: the law FnExactSeqPairs answers true at every two rows of points, and leaves them as they were; no condition. -/
import Derived.Test.YtaefibefagbheaaWSeqPairsI
import Derived.Test.YtaefibefagbheaaWSeqPairsS
import Derived.Test.YtaefibefagbheaaWPairEq
import Derived.Test.YtaefibefagbheaaWRowLaw
import Derived.Test.YtaefibefagbheaaWShape
import Derived.Test.YtaefibefagbheaaWArg
namespace Go.Proofs.Ytaefibefagbheaa
set_option linter.unusedVariables false
open Go.ChangeShapes Go.WideShapes Go.ChangeAt Go.RowKit

theorem ptsEq_self (ps : List (Int × Int)) : ptsEq ps ps = true := by simp [ptsEq]

/-- a row of points of the laws that came in -/
theorem open_ptsT {H : Type} {enc : TypeId × Value → H} {W : World} {r : Reach} {b0 base : Nat} {spare : Nat → Bool} {held : Bool} {v : Value} {d : DataW H} {p : List MemPlace}
    (hv : Value.okWide Try.prog W r b0 41 v) (h : DataW.Trod enc Try.prog W base spare held 41 v d p) :
    ∃ (a : Option Addr) (cap : Nat) (ps : List (Int × Int)), v = .slice a ps.length cap ∧ PtsAt W a ps ∧ ps.length ≤ maxLen := by
  obtain ⟨a0, len, cap, rfl⟩ := okWide_slice Try.underlying41 hv
  obtain ⟨fuel, hf⟩ := h
  exact open_pts hf

set_option maxRecDepth 100000 in
set_option maxHeartbeats 3200000 in
theorem fnSeqPairs_walk (a a' : Option Addr) (cap cap' : Nat) (ps qs : List (Int × Int)) (w : World) (hp : PtsAt w a ps) (hq : PtsAt w a' qs) (hsum : ps.length + qs.length ≤ 1048576) :
    Calls Try.prog 11 #[.slice a ps.length cap, .slice a' qs.length cap'] w fun e w' => e = .returned (.bool true) ∧ Below w.heap.size w w' := by
  have HA := Lib.hid hp
  have HB := Lib.hid hq
  clear hp hq
  have hl : ps.length ≤ 1048576 := by omega
  have hl' : qs.length ≤ 1048576 := by omega
  go_enter Try.func11, Try.ntmps11
  go_wp2_with fail
  refine (szPtS_fits _ _ _ _ _ (by omega) (by omega)).mono ?_
  rintro e w1 ⟨rfl, rfl⟩
  go_wp2_with fail
  refine (szPtS_fits _ _ _ _ _ (by omega) (by omega)).mono ?_
  rintro e w1 ⟨rfl, rfl⟩
  go_wp2_with fail
  refine (toPtS_any _ _ _ _ HA.out hl).mono ?_
  rintro e w1 ⟨bt, rfl, r1, g1, hb1⟩
  have B1 : Hid (Below w.heap.size w w1) := hb1
  have z1 := hb1.size
  have Pt1 := Lib.hid (PtsAt.of_row r1)
  have lt : bt < w1.heap.size := r1.lt
  have It : Hid (InB (some ⟨bt, 0, none⟩) w.heap.size w1.heap.size) := fun x hx => by obtain rfl : bt = x := (by simpa [blk] using hx); exact ⟨g1, lt⟩
  clear r1 g1 hb1
  go_wp2_with fail
  refine (toPtS_any _ _ _ _ (HB.out.below B1.out) hl').mono ?_
  rintro e w2 ⟨bu, rfl, r2, g2, hb2⟩
  have B2 : Hid (Below w.heap.size w w2) := B1.out.trans (hb2.mono B1.out.size)
  have Pt2 := Lib.hid (Pt1.out.below hb2)
  have z2 := hb2.size
  have Pu2 := Lib.hid (PtsAt.of_row r2)
  have lu : bu < w2.heap.size := r2.lt
  have Iu : Hid (InB (some ⟨bu, 0, none⟩) w1.heap.size w2.heap.size) := fun x hx => by obtain rfl : bu = x := (by simpa [blk] using hx); exact ⟨g2, lu⟩
  clear Pt1 B1 r2 g2 hb2
  go_wp2_with fail
  refine (specSeqPairs_any _ _ _ _ _ _ _ Pt2.out Pu2.out hl hl' (Nat.le_refl _) (Nat.le_refl _)).mono ?_
  rintro e w3 ⟨aW, cW, rfl, h3⟩
  have hb3 := h3.bel
  have B3 : Hid (Below w.heap.size w w3) := B2.out.trans (hb3.mono B2.out.size)
  have Pt3 := Lib.hid (Pt2.out.below hb3)
  have Pu3 := Lib.hid (Pu2.out.below hb3)
  have z3 := hb3.size
  have PW3 := Lib.hid h3.pts
  have SW3 := Lib.hid h3.soft
  have IW : Hid (InB aW w2.heap.size w3.heap.size) := h3.fresh
  clear Pt2 Pu2 B2 h3 hb3
  clear Pt3
  clear Pu3
  go_wp2_with fail
  refine (toPtS_any _ _ _ _ (HA.out.below B3.out) hl).mono ?_
  rintro e w4 ⟨bs, rfl, r4, g4, hb4⟩
  have B4 : Hid (Below w.heap.size w w4) := B3.out.trans (hb4.mono B3.out.size)
  have PW4 := Lib.hid (PW3.out.below hb4)
  have SW4 := Lib.hid (SW3.out.below PW3.out hb4)
  have z4 := hb4.size
  have Ps4 := Lib.hid (PtsAt.of_row r4)
  have Ss4 : Hid (Soft w4 (some ⟨bs, 0, none⟩) ps.length) := Soft.of_row r4
  have ls : bs < w4.heap.size := r4.lt
  have Is : Hid (InB (some ⟨bs, 0, none⟩) w3.heap.size w4.heap.size) := fun x hx => by obtain rfl : bs = x := (by simpa [blk] using hx); exact ⟨g4, ls⟩
  clear PW3 SW3 B3 r4 g4 hb4
  go_wp2_with fail
  refine (toPtS_any _ _ _ _ (HB.out.below B4.out) hl').mono ?_
  rintro e w5 ⟨bv, rfl, r5, g5, hb5⟩
  have B5 : Hid (Below w.heap.size w w5) := B4.out.trans (hb5.mono B4.out.size)
  have PW5 := Lib.hid (PW4.out.below hb5)
  have SW5 := Lib.hid (SW4.out.below PW4.out hb5)
  have Ps5 := Lib.hid (Ps4.out.below hb5)
  have Ss5 := Lib.hid (Ss4.out.below Ps4.out hb5)
  have z5 := hb5.size
  have Pv5 := Lib.hid (PtsAt.of_row r5)
  have Sv5 : Hid (Soft w5 (some ⟨bv, 0, none⟩) qs.length) := Soft.of_row r5
  have lv : bv < w5.heap.size := r5.lt
  have Iv : Hid (InB (some ⟨bv, 0, none⟩) w4.heap.size w5.heap.size) := fun x hx => by obtain rfl : bv = x := (by simpa [blk] using hx); exact ⟨g5, lv⟩
  clear PW4 SW4 Ps4 Ss4 B4 r5 g5 hb5
  go_wp2_with fail
  refine (implSeqPairs_any _ _ _ _ _ _ _ Ps5.out Pv5.out hl hl').mono ?_
  rintro e w6 ⟨aG, cG, rfl, h6⟩
  have hb6 := h6.bel
  have B6 : Hid (Below w.heap.size w w6) := B5.out.trans (hb6.mono B5.out.size)
  have PW6 := Lib.hid (PW5.out.below hb6)
  have SW6 := Lib.hid (SW5.out.below PW5.out hb6)
  have Ps6 := Lib.hid (Ps5.out.below hb6)
  have Ss6 := Lib.hid (Ss5.out.below Ps5.out hb6)
  have Pv6 := Lib.hid (Pv5.out.below hb6)
  have Sv6 := Lib.hid (Sv5.out.below Pv5.out hb6)
  have z6 := hb6.size
  have PG6 := Lib.hid h6.pts
  have SG6 := Lib.hid h6.soft
  have IG : Hid (InB aG w5.heap.size w6.heap.size) := h6.fresh
  clear PW5 SW5 Ps5 Ss5 Pv5 Sv5 B5 h6 hb6
  go_wp2_with fail
  refine (eqPairS_any _ _ _ _ _ _ _ PG6.out PW6.out zp_bd zp_bd).mono ?_
  rintro e w7 ⟨rfl, hb7⟩
  have B7 : Hid (Below w.heap.size w w7) := B6.out.trans (hb7.mono B6.out.size)
  have PW7 := Lib.hid (PW6.out.below hb7)
  have SW7 := Lib.hid (SW6.out.below PW6.out hb7)
  have Ps7 := Lib.hid (Ps6.out.below hb7)
  have Ss7 := Lib.hid (Ss6.out.below Ps6.out hb7)
  have Pv7 := Lib.hid (Pv6.out.below hb7)
  have Sv7 := Lib.hid (Sv6.out.below Pv6.out hb7)
  have PG7 := Lib.hid (PG6.out.below hb7)
  have SG7 := Lib.hid (SG6.out.below PG6.out hb7)
  have z7 := hb7.size
  clear PW6 SW6 Ps6 Ss6 Pv6 Sv6 PG6 SG6 B6 hb7
  rw [ptsEq_self]
  go_wp2_with fail
  refine (toPtS_any _ _ _ _ (HA.out.below B7.out) hl).mono ?_
  rintro e w8 ⟨bt, rfl, r8, g8, hb8⟩
  have B8 : Hid (Below w.heap.size w w8) := B7.out.trans (hb8.mono B7.out.size)
  have PW8 := Lib.hid (PW7.out.below hb8)
  have SW8 := Lib.hid (SW7.out.below PW7.out hb8)
  have Ps8 := Lib.hid (Ps7.out.below hb8)
  have Ss8 := Lib.hid (Ss7.out.below Ps7.out hb8)
  have Pv8 := Lib.hid (Pv7.out.below hb8)
  have Sv8 := Lib.hid (Sv7.out.below Pv7.out hb8)
  have PG8 := Lib.hid (PG7.out.below hb8)
  have SG8 := Lib.hid (SG7.out.below PG7.out hb8)
  have z8 := hb8.size
  have Pt8 := Lib.hid (PtsAt.of_row r8)
  have lt : bt < w8.heap.size := r8.lt
  have It : Hid (InB (some ⟨bt, 0, none⟩) w7.heap.size w8.heap.size) := fun x hx => by obtain rfl : bt = x := (by simpa [blk] using hx); exact ⟨g8, lt⟩
  clear PW7 SW7 Ps7 Ss7 Pv7 Sv7 PG7 SG7 B7 r8 g8 hb8
  go_wp2_with fail
  refine (eqPtS_any _ _ _ _ _ _ _ Ps8.out Pt8.out hl hl).mono ?_
  rintro e w9 ⟨rfl, hb9⟩
  have B9 : Hid (Below w.heap.size w w9) := B8.out.trans (hb9.mono B8.out.size)
  have PW9 := Lib.hid (PW8.out.below hb9)
  have SW9 := Lib.hid (SW8.out.below PW8.out hb9)
  have Ps9 := Lib.hid (Ps8.out.below hb9)
  have Ss9 := Lib.hid (Ss8.out.below Ps8.out hb9)
  have Pv9 := Lib.hid (Pv8.out.below hb9)
  have Sv9 := Lib.hid (Sv8.out.below Pv8.out hb9)
  have PG9 := Lib.hid (PG8.out.below hb9)
  have SG9 := Lib.hid (SG8.out.below PG8.out hb9)
  have Pt9 := Lib.hid (Pt8.out.below hb9)
  have z9 := hb9.size
  clear PW8 SW8 Ps8 Ss8 Pv8 Sv8 PG8 SG8 Pt8 B8 hb9
  rw [ptsEq_self]
  clear Pt9
  go_wp2_with fail
  refine (toPtS_any _ _ _ _ (HB.out.below B9.out) hl').mono ?_
  rintro e w10 ⟨bt, rfl, r10, g10, hb10⟩
  have B10 : Hid (Below w.heap.size w w10) := B9.out.trans (hb10.mono B9.out.size)
  have PW10 := Lib.hid (PW9.out.below hb10)
  have SW10 := Lib.hid (SW9.out.below PW9.out hb10)
  have Ps10 := Lib.hid (Ps9.out.below hb10)
  have Ss10 := Lib.hid (Ss9.out.below Ps9.out hb10)
  have Pv10 := Lib.hid (Pv9.out.below hb10)
  have Sv10 := Lib.hid (Sv9.out.below Pv9.out hb10)
  have PG10 := Lib.hid (PG9.out.below hb10)
  have SG10 := Lib.hid (SG9.out.below PG9.out hb10)
  have z10 := hb10.size
  have Pt10 := Lib.hid (PtsAt.of_row r10)
  have lt : bt < w10.heap.size := r10.lt
  have It : Hid (InB (some ⟨bt, 0, none⟩) w9.heap.size w10.heap.size) := fun x hx => by obtain rfl : bt = x := (by simpa [blk] using hx); exact ⟨g10, lt⟩
  clear PW9 SW9 Ps9 Ss9 Pv9 Sv9 PG9 SG9 B9 r10 g10 hb10
  go_wp2_with fail
  refine (eqPtS_any _ _ _ _ _ _ _ Pv10.out Pt10.out hl' hl').mono ?_
  rintro e w11 ⟨rfl, hb11⟩
  have B11 : Hid (Below w.heap.size w w11) := B10.out.trans (hb11.mono B10.out.size)
  have PW11 := Lib.hid (PW10.out.below hb11)
  have SW11 := Lib.hid (SW10.out.below PW10.out hb11)
  have Ps11 := Lib.hid (Ps10.out.below hb11)
  have Ss11 := Lib.hid (Ss10.out.below Ps10.out hb11)
  have Pv11 := Lib.hid (Pv10.out.below hb11)
  have Sv11 := Lib.hid (Sv10.out.below Pv10.out hb11)
  have PG11 := Lib.hid (PG10.out.below hb11)
  have SG11 := Lib.hid (SG10.out.below PG10.out hb11)
  have Pt11 := Lib.hid (Pt10.out.below hb11)
  have z11 := hb11.size
  clear PW10 SW10 Ps10 Ss10 Pv10 Sv10 PG10 SG10 Pt10 B10 hb11
  rw [ptsEq_self]
  clear Pt11
  go_wp2_with fail
  refine (markPtS_any _ _ _ _ _ Ps11.out Ss11.out hl (by omega) (by omega)).mono ?_
  rintro e w12 ⟨rfl, m12, s12, g12, y12⟩
  have B12 : Hid (Below w.heap.size w w12) := B11.out.grown g12 B11.out.size (fun x hx => by have := (Is.out x hx).1; have := B11.out.size; omega)
  have PW12 := Lib.hid (PW11.out.apart g12 IW.out Is.out (by omega))
  have SW12 := Lib.hid (SW11.out.apart PW11.out g12 IW.out Is.out (by omega))
  have Ps12 := Lib.hid m12
  have Ss12 := Lib.hid s12
  have Pv12 := Lib.hid (Pv11.out.apart g12 Iv.out Is.out (by omega))
  have Sv12 := Lib.hid (Sv11.out.apart Pv11.out g12 Iv.out Is.out (by omega))
  have PG12 := Lib.hid (PG11.out.apart g12 IG.out Is.out (by omega))
  have SG12 := Lib.hid (SG11.out.apart PG11.out g12 IG.out Is.out (by omega))
  have z12 := g12.size
  clear B11 PW11 SW11 Ps11 Ss11 Pv11 Sv11 PG11 SG11 m12 s12 g12 y12
  clear Ps12
  go_wp2_with fail
  refine (markPtS_any _ _ _ _ _ Pv12.out Sv12.out hl' (by omega) (by omega)).mono ?_
  rintro e w13 ⟨rfl, m13, s13, g13, y13⟩
  have B13 : Hid (Below w.heap.size w w13) := B12.out.grown g13 B12.out.size (fun x hx => by have := (Iv.out x hx).1; have := B12.out.size; omega)
  have PW13 := Lib.hid (PW12.out.apart g13 IW.out Iv.out (by omega))
  have SW13 := Lib.hid (SW12.out.apart PW12.out g13 IW.out Iv.out (by omega))
  have Pv13 := Lib.hid m13
  have Sv13 := Lib.hid s13
  have PG13 := Lib.hid (PG12.out.apart g13 IG.out Iv.out (by omega))
  have SG13 := Lib.hid (SG12.out.apart PG12.out g13 IG.out Iv.out (by omega))
  have z13 := g13.size
  clear B12 PW12 SW12 Pv12 Sv12 PG12 SG12 m13 s13 g13 y13
  clear Pv13
  have hk : ¬ (1 + 2 * (ps.length : Int) + 2 * (qs.length : Int)) < 0 := by omega
  go_wp2_with fail
  refine (eqPairS_any _ _ _ _ _ _ _ PG13.out PW13.out zp_bd zp_bd).mono ?_
  rintro e w14 ⟨rfl, hb14⟩
  have B14 : Hid (Below w.heap.size w w14) := B13.out.trans (hb14.mono B13.out.size)
  have PW14 := Lib.hid (PW13.out.below hb14)
  have SW14 := Lib.hid (SW13.out.below PW13.out hb14)
  have PG14 := Lib.hid (PG13.out.below hb14)
  have SG14 := Lib.hid (SG13.out.below PG13.out hb14)
  have z14 := hb14.size
  clear PW13 SW13 PG13 SG13 B13 hb14
  rw [ptsEq_self]
  clear hk
  have hz : (zp (pairsOf ps qs)).length ≤ 1048576 := zp_bd
  go_wp2_with fail
  refine (markPairS_any _ _ _ _ _ PG14.out SG14.out hz (by omega) (by omega)).mono ?_
  rintro e w15 ⟨rfl, m15, s15, g15, y15⟩
  have B15 : Hid (Below w.heap.size w w15) := B14.out.grown g15 B14.out.size (fun x hx => by have := (IG.out x hx).1; have := B14.out.size; omega)
  have PW15 := Lib.hid (PW14.out.apart g15 IW.out IG.out (by omega))
  have SW15 := Lib.hid (SW14.out.apart PW14.out g15 IW.out IG.out (by omega))
  have PG15 := Lib.hid m15
  have SG15 := Lib.hid s15
  have z15 := g15.size
  clear B14 PW14 SW14 PG14 SG14 m15 s15 g15 y15
  have hk : ¬ (1 + 2 * ((zp (pairsOf ps qs)).length : Int)) < 0 := by omega
  have hn : (1 + 2 * ((zp (pairsOf ps qs)).length : Int) != 1 + 2 * ((zp (pairsOf ps qs)).length : Int)) = false := by simp
  go_wp2_with fail
  refine (heldPairS_any _ _ _ _ _ PG15.out hz (by omega) (by omega)).mono ?_
  rintro e wx ⟨rfl, rfl⟩
  go_wp2_with fail
  refine (toPtS_any _ _ _ _ (HA.out.below B15.out) hl).mono ?_
  rintro e w16 ⟨bt, rfl, r16, g16, hb16⟩
  have B16 : Hid (Below w.heap.size w w16) := B15.out.trans (hb16.mono B15.out.size)
  have PW16 := Lib.hid (PW15.out.below hb16)
  have SW16 := Lib.hid (SW15.out.below PW15.out hb16)
  have PG16 := Lib.hid (PG15.out.below hb16)
  have z16 := hb16.size
  have Pt16 := Lib.hid (PtsAt.of_row r16)
  have lt : bt < w16.heap.size := r16.lt
  have It : Hid (InB (some ⟨bt, 0, none⟩) w15.heap.size w16.heap.size) := fun x hx => by obtain rfl : bt = x := (by simpa [blk] using hx); exact ⟨g16, lt⟩
  clear PW15 SW15 PG15 B15 r16 g16 hb16
  go_wp2_with fail
  refine (toPtS_any _ _ _ _ (HB.out.below B16.out) hl').mono ?_
  rintro e w17 ⟨bu, rfl, r17, g17, hb17⟩
  have B17 : Hid (Below w.heap.size w w17) := B16.out.trans (hb17.mono B16.out.size)
  have PW17 := Lib.hid (PW16.out.below hb17)
  have SW17 := Lib.hid (SW16.out.below PW16.out hb17)
  have PG17 := Lib.hid (PG16.out.below hb17)
  have Pt17 := Lib.hid (Pt16.out.below hb17)
  have z17 := hb17.size
  have Pu17 := Lib.hid (PtsAt.of_row r17)
  have lu : bu < w17.heap.size := r17.lt
  have Iu : Hid (InB (some ⟨bu, 0, none⟩) w16.heap.size w17.heap.size) := fun x hx => by obtain rfl : bu = x := (by simpa [blk] using hx); exact ⟨g17, lu⟩
  clear PW16 SW16 PG16 Pt16 B16 r17 g17 hb17
  go_wp2_with fail
  refine (implSeqPairs_any _ _ _ _ _ _ _ Pt17.out Pu17.out hl hl').mono ?_
  rintro e w18 ⟨aK, cK, rfl, h18⟩
  have hb18 := h18.bel
  have B18 : Hid (Below w.heap.size w w18) := B17.out.trans (hb18.mono B17.out.size)
  have PW18 := Lib.hid (PW17.out.below hb18)
  have SW18 := Lib.hid (SW17.out.below PW17.out hb18)
  have PG18 := Lib.hid (PG17.out.below hb18)
  have Pt18 := Lib.hid (Pt17.out.below hb18)
  have Pu18 := Lib.hid (Pu17.out.below hb18)
  have z18 := hb18.size
  have PK18 := Lib.hid h18.pts
  have SK18 := Lib.hid h18.soft
  have IK : Hid (InB aK w17.heap.size w18.heap.size) := h18.fresh
  clear PW17 SW17 PG17 Pt17 Pu17 B17 h18 hb18
  clear Pt18
  clear Pu18
  go_wp2_with fail
  refine (eqPairS_any _ _ _ _ _ _ _ PK18.out PW18.out zp_bd zp_bd).mono ?_
  rintro e w19 ⟨rfl, hb19⟩
  have B19 : Hid (Below w.heap.size w w19) := B18.out.trans (hb19.mono B18.out.size)
  have PW19 := Lib.hid (PW18.out.below hb19)
  have SW19 := Lib.hid (SW18.out.below PW18.out hb19)
  have PG19 := Lib.hid (PG18.out.below hb19)
  have PK19 := Lib.hid (PK18.out.below hb19)
  have SK19 := Lib.hid (SK18.out.below PK18.out hb19)
  have z19 := hb19.size
  clear PW18 SW18 PG18 PK18 SK18 B18 hb19
  rw [ptsEq_self]
  go_wp2_with fail
  refine (heldPairS_any _ _ _ _ _ PG19.out hz (by omega) (by omega)).mono ?_
  rintro e wx ⟨rfl, rfl⟩
  go_wp2
  go_ret
  exact ⟨rfl, B19.out⟩

set_option maxHeartbeats 400000 in
theorem fnSeqPairs_over1 (a a' : Option Addr) (n n' cap cap' : Nat) (w : World) (hn : 1048576 < n) (hm : n ≤ maxLen) :
    Calls Try.prog 11 #[.slice a n cap, .slice a' n' cap'] w fun e w' => e = .returned (.bool true) ∧ Below w.heap.size w w' := by
  go_enter Try.func11, Try.ntmps11
  go_wp2_with fail
  refine (szPtS_over _ _ _ _ _ (by omega) (by omega) (by omega) hm).mono ?_
  rintro e w1 ⟨rfl, rfl⟩
  go_wp2
  go_ret
  exact ⟨rfl, Below.refl _ _⟩

set_option maxHeartbeats 400000 in
theorem fnSeqPairs_over2 (a a' : Option Addr) (n n' cap cap' : Nat) (w : World) (hn : n ≤ 1048576) (hs : 1048576 < n + n') (hm : n' ≤ maxLen) :
    Calls Try.prog 11 #[.slice a n cap, .slice a' n' cap'] w fun e w' => e = .returned (.bool true) ∧ Below w.heap.size w w' := by
  go_enter Try.func11, Try.ntmps11
  go_wp2_with fail
  refine (szPtS_fits _ _ _ _ _ (by omega) (by omega)).mono ?_
  rintro e w1 ⟨rfl, rfl⟩
  go_wp2_with fail
  refine (szPtS_over _ _ _ _ _ (by omega) (by omega) (by omega) hm).mono ?_
  rintro e w1 ⟨rfl, rfl⟩
  go_wp2
  go_ret
  exact ⟨rfl, Below.refl _ _⟩

theorem fnSeqPairs_all (a : Option Addr) (cap : Nat) (ps : List (Int × Int)) (a' : Option Addr) (cap' : Nat) (qs : List (Int × Int)) (w : World) (hp : PtsAt w a ps) (hm : ps.length ≤ maxLen) (hq : PtsAt w a' qs) (hm' : qs.length ≤ maxLen) :
    Calls Try.prog 11 #[.slice a ps.length cap, .slice a' qs.length cap'] w fun e w' => e = .returned (.bool true) ∧ Below w.heap.size w w' := by
  by_cases h1 : ps.length ≤ 1048576
  · by_cases h2 : ps.length + qs.length ≤ 1048576
    · exact fnSeqPairs_walk a a' cap cap' ps qs w hp hq h2
    · exact fnSeqPairs_over2 a a' _ _ cap cap' w h1 (by omega) hm'
  · exact fnSeqPairs_over1 a a' _ _ cap cap' w (by omega) hm

set_option maxRecDepth 100000 in
theorem fnExactSeqPairs_lifted (os : Os) (started : os.Started) (H : Type) (enc : TypeId × Value → H) :
    ReturnsInHanded {} Try.checked os 11 .any (Rows.fnExactSeqPairsSpec.pre6 enc Try.prog Try.f11 Rows.fnExactSeqPairsRow.domain false) (Rows.fnExactSeqPairsSpec.post enc Try.prog Try.f11 false true false false) := by
  refine returnsInHanded_of_change (C := Try.checked) own started (by kernel_rfl) Try.func11
    (ChangeSpec.witness6 (enc := enc) (C := Try.checked) false ⟨#[], #[.slice none 0 0, .slice none 0 0], []⟩ 8 (by kernel_rfl) (by kernel_rfl) (by kernel_rfl) (by kernel_rfl)) ?_
  intro W base args ds gs before hval0 hW _ _
  have hval : ∀ (j : Nat) t v, Try.f11.params[j]? = some t → args[j]? = some v → Value.okWide Try.prog W .any base t v := hval0
  have hW' := hW
  obtain ⟨p, q, hA0, hV, rfl, _, _⟩ := hW
  have hA : DataW.TrodAll enc Try.prog W 0 (fun _ => true) true Try.f11.params.toList args.toList ds p := hA0
  rw [Try.params11] at hA hval
  obtain ⟨v0, vs0, d0, ds0, p0, q0, hargs, rfl, rfl, h0, r0⟩ := trodAll_cons hA
  obtain ⟨v1, vs1, d1, ds1, p1, q1, rfl, rfl, rfl, h1, r1⟩ := trodAll_cons r0
  obtain ⟨rfl, rfl, rfl⟩ := trodAll_nil r1
  obtain rfl : args = #[v0, v1] := by cases args; simp_all
  obtain ⟨rfl, rfl⟩ := trodVars_none hV
  have k0 := h0
  have lt0 : ∀ x ∈ p0, x.block < W.heap.size := by obtain ⟨m, hm⟩ := k0; exact DataW.trod_lt m _ _ _ hm
  obtain ⟨a0, c0, s0, rfl, f0, g0⟩ := open_ptsT (hval 0 41 v0 rfl rfl) h0
  have k1 := h1
  have lt1 : ∀ x ∈ p1, x.block < W.heap.size := by obtain ⟨m, hm⟩ := k1; exact DataW.trod_lt m _ _ _ hm
  obtain ⟨a1, c1, s1, rfl, f1, g1⟩ := open_ptsT (hval 1 41 v1 rfl rfl) h1
  clear hA0 hval0
  refine (fnSeqPairs_all a0 c0 s0 a1 c1 s1 W f0 g0 f1 g1).mono fun e W' ⟨he, bel⟩ => ?_
  subst he
  exact ⟨_, rfl, _, _, _, [], _, [], hW', trodAll_mk1 (shut_bool Try.underlying4 _), (trodAll_cons_mk (Below.trod laidOut (by kernel_rfl) (of_decide_eq_true (by kernel_rfl)) k0 bel lt0) (trodAll_cons_mk (Below.trod laidOut (by kernel_rfl) (of_decide_eq_true (by kernel_rfl)) k1 bel lt1) trodAll_mk0)), rfl, bel.frame _, fun h => by cases h⟩

theorem fnExactSeqPairs_over : Rows.fnExactSeqPairsRow.holds Try.pinned (OpenSpec.ofChange Rows.fnExactSeqPairsSpec) :=
  OpenClaim.holds_of_wide 11 Try.f11 rfl rfl rfl rfl rfl rfl rfl ⟨rfl, rfl, rfl, rfl, rfl⟩ rfl rfl rfl rfl rfl (by kernel_rfl) Try.func11 (by kernel_rfl)
    (of_decide_eq_true (by kernel_rfl)) (by unfold Func.isWrapper; first | (rw [if_pos (by decide +kernel)]; kernel_rfl) | (rw [if_neg (by decide +kernel)]; exact ⟨rfl, rfl⟩))
    (fun os started H enc _ => fnExactSeqPairs_lifted os started H enc)

/-- the given statement -/
theorem fnExactSeqPairs_holds : Rows.FnExactSeqPairsSaid := fnExactSeqPairs_over

end Go.Proofs.Ytaefibefagbheaa
