/- Proved here: the law FnExactSeqMerge answers true at every three rows of points, and leaves them as they were; no condition. -/
import Derived.Test.YtaefibefagbheaaWSeqMergeF
import Derived.Test.YtaefibefagbheaaWSeqMergeS
import Derived.Test.YtaefibefagbheaaWRowLaw
import Derived.Test.YtaefibefagbheaaWShape
import Derived.Test.YtaefibefagbheaaWArg
namespace Go.Proofs.Ytaefibefagbheaa
set_option linter.unusedVariables false
open Go.ChangeShapes Go.WideShapes Go.ChangeAt Go.RowKit

theorem ptsEq_self (ps : List (Int × Int)) : ptsEq ps ps = true := by simp [ptsEq]

/-- a row of points of the laws that came in -/
theorem open_ptsT {H : Type} {enc : TypeId × Value → H} {W : World} {r : Reach} {b0 base : Nat} {spare : Nat → Bool} {held : Bool} {v : Value} {d : DataW H} {p : List MemPlace}
    (hv : Value.okWide Try.prog W r b0 41 v) (h : DataW.Trod enc Try.prog W base spare held 41 v d p) :
    ∃ (a : Option Addr) (cap : Nat) (ps : List (Int × Int)), v = .slice a ps.length cap ∧ PtsAt W a ps ∧ ps.length ≤ maxLen := by
  obtain ⟨a0, len, cap, rfl⟩ := okWide_slice Try.underlying41 hv
  obtain ⟨fuel, hf⟩ := h
  exact open_pts hf

/-- what is made of three rows, its parts named -/
def MAns (w : World) (ml : List (Int × Int)) (ok : Bool) (e : Ending) (w' : World) : Prop :=
  ∃ a cap, e = .returned (.tuple #[.slice a ml.length cap, .bool ok]) ∧ RowIs w a ml w'

theorem implSeqMerge_m (ml : List (Int × Int)) (ok : Bool) (qb qa qc : Option Addr) (cb ca cc : Nat) (base a b : List (Int × Int)) (w : World) (hm : (mergedOf base a b).getD [] = ml) (hk : (mergedOf base a b).isSome = ok) (h1 : PtsAt w qb base) (h2 : PtsAt w qa a) (h3 : PtsAt w qc b) (l1 : base.length ≤ 1048576) (l2 : a.length ≤ 1048576) (l3 : b.length ≤ 1048576) (k1 : base.length ≤ cb) (k2 : a.length ≤ ca) (k3 : b.length ≤ cc) :
    Calls Try.prog 21 #[.slice qb base.length cb, .slice qa a.length ca, .slice qc b.length cc] w (MAns w ml ok) := by
  subst hm hk
  exact implSeqMerge_any qb qa qc cb ca cc base a b w h1 h2 h3 l1 l2 l3 k1 k2 k3

theorem specSeqMerge_m (ml : List (Int × Int)) (ok : Bool) (qb qa qc : Option Addr) (cb ca cc : Nat) (base a b : List (Int × Int)) (w : World) (hm : (mergedOf base a b).getD [] = ml) (hk : (mergedOf base a b).isSome = ok) (h1 : PtsAt w qb base) (h2 : PtsAt w qa a) (h3 : PtsAt w qc b) (l1 : base.length ≤ 1048576) (l2 : a.length ≤ 1048576) (l3 : b.length ≤ 1048576) (k1 : base.length ≤ cb) (k2 : a.length ≤ ca) (k3 : b.length ≤ cc) :
    Calls Try.prog 22 #[.slice qb base.length cb, .slice qa a.length ca, .slice qc b.length cc] w (MAns w ml ok) := by
  subst hm hk
  exact specSeqMerge_any qb qa qc cb ca cc base a b w h1 h2 h3 l1 l2 l3 k1 k2 k3

theorem merged_len (base a b : List (Int × Int)) : ((mergedOf base a b).getD []).length ≤ 1048576 := by
  unfold mergedOf
  split
  · next hf =>
    have hl : base.length ≤ 12 ∧ a.length ≤ 12 ∧ b.length ≤ 12 := by simpa [fewB] using hf
    cases hm : merged base a b with
    | none => simp
    | some m =>
      have e := mg_all ((none, 0, base), (none, 0, a), (none, 0, b))
      simp only at e
      rw [hm] at e
      have h1 := mg_le (short_all (S := ((none, 0, base), (none, 0, a), (none, 0, b))) hl.1 hl.2.1 hl.2.2 _) e
      have h2 := all_len (S := ((none, 0, base), (none, 0, a), (none, 0, b))) hl.1
      simp only at h2
      simp only [Option.getD_some]
      omega
  · simp

set_option maxRecDepth 100000 in
set_option maxHeartbeats 6400000 in
theorem fnSeqMerge_walk (a a' a'' : Option Addr) (cap cap' cap'' : Nat) (ps qs rs : List (Int × Int)) (w : World) (hp : PtsAt w a ps) (hq : PtsAt w a' qs) (hr : PtsAt w a'' rs) (hsum : ps.length + qs.length + rs.length ≤ 1048576) :
    Calls Try.prog 13 #[.slice a ps.length cap, .slice a' qs.length cap', .slice a'' rs.length cap''] w fun e w' => e = .returned (.bool true) ∧ Below w.heap.size w w' := by
  have HA := Lib.hid hp
  have HB := Lib.hid hq
  have HC := Lib.hid hr
  clear hp hq hr
  have hl1 : ps.length ≤ 1048576 := by omega
  have hl2 : qs.length ≤ 1048576 := by omega
  have hl3 : rs.length ≤ 1048576 := by omega
  obtain ⟨ml, hm⟩ : ∃ m, (mergedOf ps qs rs).getD [] = m := ⟨_, rfl⟩
  obtain ⟨ok, hk⟩ : ∃ k, (mergedOf ps qs rs).isSome = k := ⟨_, rfl⟩
  have hml : ml.length ≤ 1048576 := by rw [← hm]; exact merged_len ps qs rs
  have HM := Lib.hid hm
  have HK := Lib.hid hk
  clear hm hk
  go_enter Try.func13, Try.ntmps13
  go_wp2_with fail
  refine (szPtS_fits _ _ _ _ _ (by omega) (by omega)).mono ?_
  rintro e w1 ⟨rfl, rfl⟩
  go_wp2_with fail
  refine (szPtS_fits _ _ _ _ _ (by omega) (by omega)).mono ?_
  rintro e w1 ⟨rfl, rfl⟩
  go_wp2_with fail
  refine (szPtS_fits _ _ _ _ _ (by omega) (by omega)).mono ?_
  rintro e w1 ⟨rfl, rfl⟩
  go_wp2_with fail
  refine (toPtS_any _ _ _ _ HA.out hl1).mono ?_
  rintro e w1 ⟨bt, rfl, r1, g1, hb1⟩
  have B1 : Hid (Below w.heap.size w w1) := hb1
  have z1 := hb1.size
  have Pt1 := Lib.hid (PtsAt.of_row r1)
  have lt : bt < w1.heap.size := r1.lt
  have It : Hid (InB (some ⟨bt, 0, none⟩) w.heap.size w1.heap.size) := fun x hx => by obtain rfl : bt = x := (by simpa [blk] using hx); exact ⟨g1, lt⟩
  clear r1 g1 hb1
  go_wp2_with fail
  refine (toPtS_any _ _ _ _ (HB.out.below B1.out) hl2).mono ?_
  rintro e w2 ⟨bu, rfl, r2, g2, hb2⟩
  have B2 : Hid (Below w.heap.size w w2) := B1.out.trans (hb2.mono B1.out.size)
  have Pt2 := Lib.hid (Pt1.out.below hb2)
  have z2 := hb2.size
  have Pu2 := Lib.hid (PtsAt.of_row r2)
  have lu : bu < w2.heap.size := r2.lt
  have Iu : Hid (InB (some ⟨bu, 0, none⟩) w1.heap.size w2.heap.size) := fun x hx => by obtain rfl : bu = x := (by simpa [blk] using hx); exact ⟨g2, lu⟩
  clear Pt1 B1 r2 g2 hb2
  go_wp2_with fail
  refine (toPtS_any _ _ _ _ (HC.out.below B2.out) hl3).mono ?_
  rintro e w3 ⟨bv, rfl, r3, g3, hb3⟩
  have B3 : Hid (Below w.heap.size w w3) := B2.out.trans (hb3.mono B2.out.size)
  have Pt3 := Lib.hid (Pt2.out.below hb3)
  have Pu3 := Lib.hid (Pu2.out.below hb3)
  have z3 := hb3.size
  have Pv3 := Lib.hid (PtsAt.of_row r3)
  have lv : bv < w3.heap.size := r3.lt
  have Iv : Hid (InB (some ⟨bv, 0, none⟩) w2.heap.size w3.heap.size) := fun x hx => by obtain rfl : bv = x := (by simpa [blk] using hx); exact ⟨g3, lv⟩
  clear Pt2 Pu2 B2 r3 g3 hb3
  go_wp2_with fail
  refine (specSeqMerge_m _ _ _ _ _ _ _ _ _ _ _ _ HM.out HK.out Pt3.out Pu3.out Pv3.out hl1 hl2 hl3 (Nat.le_refl _) (Nat.le_refl _) (Nat.le_refl _)).mono ?_
  rintro e w4 ⟨aW, cW, rfl, h4⟩
  have hb4 := h4.bel
  have B4 : Hid (Below w.heap.size w w4) := B3.out.trans (hb4.mono B3.out.size)
  have Pt4 := Lib.hid (Pt3.out.below hb4)
  have Pu4 := Lib.hid (Pu3.out.below hb4)
  have Pv4 := Lib.hid (Pv3.out.below hb4)
  have z4 := hb4.size
  have PW4 := Lib.hid h4.pts
  have SW4 := Lib.hid h4.soft
  have IW : Hid (InB aW w3.heap.size w4.heap.size) := h4.fresh
  clear Pt3 Pu3 Pv3 B3 h4 hb4
  clear Pt4
  clear Pu4
  clear Pv4
  go_wp2_with fail
  refine (toPtS_any _ _ _ _ (HA.out.below B4.out) hl1).mono ?_
  rintro e w5 ⟨bs, rfl, r5, g5, hb5⟩
  have B5 : Hid (Below w.heap.size w w5) := B4.out.trans (hb5.mono B4.out.size)
  have PW5 := Lib.hid (PW4.out.below hb5)
  have SW5 := Lib.hid (SW4.out.below PW4.out hb5)
  have z5 := hb5.size
  have Ps5 := Lib.hid (PtsAt.of_row r5)
  have Ss5 : Hid (Soft w5 (some ⟨bs, 0, none⟩) ps.length) := Soft.of_row r5
  have ls : bs < w5.heap.size := r5.lt
  have Is : Hid (InB (some ⟨bs, 0, none⟩) w4.heap.size w5.heap.size) := fun x hx => by obtain rfl : bs = x := (by simpa [blk] using hx); exact ⟨g5, ls⟩
  clear PW4 SW4 B4 r5 g5 hb5
  go_wp2_with fail
  refine (toPtS_any _ _ _ _ (HB.out.below B5.out) hl2).mono ?_
  rintro e w6 ⟨bk, rfl, r6, g6, hb6⟩
  have B6 : Hid (Below w.heap.size w w6) := B5.out.trans (hb6.mono B5.out.size)
  have PW6 := Lib.hid (PW5.out.below hb6)
  have SW6 := Lib.hid (SW5.out.below PW5.out hb6)
  have Ps6 := Lib.hid (Ps5.out.below hb6)
  have Ss6 := Lib.hid (Ss5.out.below Ps5.out hb6)
  have z6 := hb6.size
  have Pk6 := Lib.hid (PtsAt.of_row r6)
  have Sk6 : Hid (Soft w6 (some ⟨bk, 0, none⟩) qs.length) := Soft.of_row r6
  have lk : bk < w6.heap.size := r6.lt
  have Ik : Hid (InB (some ⟨bk, 0, none⟩) w5.heap.size w6.heap.size) := fun x hx => by obtain rfl : bk = x := (by simpa [blk] using hx); exact ⟨g6, lk⟩
  clear PW5 SW5 Ps5 Ss5 B5 r6 g6 hb6
  go_wp2_with fail
  refine (toPtS_any _ _ _ _ (HC.out.below B6.out) hl3).mono ?_
  rintro e w7 ⟨bj, rfl, r7, g7, hb7⟩
  have B7 : Hid (Below w.heap.size w w7) := B6.out.trans (hb7.mono B6.out.size)
  have PW7 := Lib.hid (PW6.out.below hb7)
  have SW7 := Lib.hid (SW6.out.below PW6.out hb7)
  have Ps7 := Lib.hid (Ps6.out.below hb7)
  have Ss7 := Lib.hid (Ss6.out.below Ps6.out hb7)
  have Pk7 := Lib.hid (Pk6.out.below hb7)
  have Sk7 := Lib.hid (Sk6.out.below Pk6.out hb7)
  have z7 := hb7.size
  have Pj7 := Lib.hid (PtsAt.of_row r7)
  have Sj7 : Hid (Soft w7 (some ⟨bj, 0, none⟩) rs.length) := Soft.of_row r7
  have lj : bj < w7.heap.size := r7.lt
  have Ij : Hid (InB (some ⟨bj, 0, none⟩) w6.heap.size w7.heap.size) := fun x hx => by obtain rfl : bj = x := (by simpa [blk] using hx); exact ⟨g7, lj⟩
  clear PW6 SW6 Ps6 Ss6 Pk6 Sk6 B6 r7 g7 hb7
  go_wp2_with fail
  refine (implSeqMerge_m _ _ _ _ _ _ _ _ _ _ _ _ HM.out HK.out Ps7.out Pk7.out Pj7.out hl1 hl2 hl3 (Nat.le_refl _) (Nat.le_refl _) (Nat.le_refl _)).mono ?_
  rintro e w8 ⟨aG, cG, rfl, h8⟩
  have hb8 := h8.bel
  have B8 : Hid (Below w.heap.size w w8) := B7.out.trans (hb8.mono B7.out.size)
  have PW8 := Lib.hid (PW7.out.below hb8)
  have SW8 := Lib.hid (SW7.out.below PW7.out hb8)
  have Ps8 := Lib.hid (Ps7.out.below hb8)
  have Ss8 := Lib.hid (Ss7.out.below Ps7.out hb8)
  have Pk8 := Lib.hid (Pk7.out.below hb8)
  have Sk8 := Lib.hid (Sk7.out.below Pk7.out hb8)
  have Pj8 := Lib.hid (Pj7.out.below hb8)
  have Sj8 := Lib.hid (Sj7.out.below Pj7.out hb8)
  have z8 := hb8.size
  have PG8 := Lib.hid h8.pts
  have SG8 := Lib.hid h8.soft
  have IG : Hid (InB aG w7.heap.size w8.heap.size) := h8.fresh
  clear PW7 SW7 Ps7 Ss7 Pk7 Sk7 Pj7 Sj7 B7 h8 hb8
  have hok : (ok != ok) = false := by simp
  go_wp2_with fail
  refine (eqPtS_any _ _ _ _ _ _ _ PG8.out PW8.out hml hml).mono ?_
  rintro e w9 ⟨rfl, hb9⟩
  have B9 : Hid (Below w.heap.size w w9) := B8.out.trans (hb9.mono B8.out.size)
  have PW9 := Lib.hid (PW8.out.below hb9)
  have SW9 := Lib.hid (SW8.out.below PW8.out hb9)
  have Ps9 := Lib.hid (Ps8.out.below hb9)
  have Ss9 := Lib.hid (Ss8.out.below Ps8.out hb9)
  have Pk9 := Lib.hid (Pk8.out.below hb9)
  have Sk9 := Lib.hid (Sk8.out.below Pk8.out hb9)
  have Pj9 := Lib.hid (Pj8.out.below hb9)
  have Sj9 := Lib.hid (Sj8.out.below Pj8.out hb9)
  have PG9 := Lib.hid (PG8.out.below hb9)
  have SG9 := Lib.hid (SG8.out.below PG8.out hb9)
  have z9 := hb9.size
  clear PW8 SW8 Ps8 Ss8 Pk8 Sk8 Pj8 Sj8 PG8 SG8 B8 hb9
  rw [ptsEq_self]
  go_wp2_with fail
  refine (toPtS_any _ _ _ _ (HA.out.below B9.out) hl1).mono ?_
  rintro e w10 ⟨bt, rfl, r10, g10, hb10⟩
  have B10 : Hid (Below w.heap.size w w10) := B9.out.trans (hb10.mono B9.out.size)
  have PW10 := Lib.hid (PW9.out.below hb10)
  have SW10 := Lib.hid (SW9.out.below PW9.out hb10)
  have Ps10 := Lib.hid (Ps9.out.below hb10)
  have Ss10 := Lib.hid (Ss9.out.below Ps9.out hb10)
  have Pk10 := Lib.hid (Pk9.out.below hb10)
  have Sk10 := Lib.hid (Sk9.out.below Pk9.out hb10)
  have Pj10 := Lib.hid (Pj9.out.below hb10)
  have Sj10 := Lib.hid (Sj9.out.below Pj9.out hb10)
  have PG10 := Lib.hid (PG9.out.below hb10)
  have SG10 := Lib.hid (SG9.out.below PG9.out hb10)
  have z10 := hb10.size
  have Pt10 := Lib.hid (PtsAt.of_row r10)
  have lt : bt < w10.heap.size := r10.lt
  have It : Hid (InB (some ⟨bt, 0, none⟩) w9.heap.size w10.heap.size) := fun x hx => by obtain rfl : bt = x := (by simpa [blk] using hx); exact ⟨g10, lt⟩
  clear PW9 SW9 Ps9 Ss9 Pk9 Sk9 Pj9 Sj9 PG9 SG9 B9 r10 g10 hb10
  go_wp2_with fail
  refine (eqPtS_any _ _ _ _ _ _ _ Ps10.out Pt10.out hl1 hl1).mono ?_
  rintro e w11 ⟨rfl, hb11⟩
  have B11 : Hid (Below w.heap.size w w11) := B10.out.trans (hb11.mono B10.out.size)
  have PW11 := Lib.hid (PW10.out.below hb11)
  have SW11 := Lib.hid (SW10.out.below PW10.out hb11)
  have Ps11 := Lib.hid (Ps10.out.below hb11)
  have Ss11 := Lib.hid (Ss10.out.below Ps10.out hb11)
  have Pk11 := Lib.hid (Pk10.out.below hb11)
  have Sk11 := Lib.hid (Sk10.out.below Pk10.out hb11)
  have Pj11 := Lib.hid (Pj10.out.below hb11)
  have Sj11 := Lib.hid (Sj10.out.below Pj10.out hb11)
  have PG11 := Lib.hid (PG10.out.below hb11)
  have SG11 := Lib.hid (SG10.out.below PG10.out hb11)
  have Pt11 := Lib.hid (Pt10.out.below hb11)
  have z11 := hb11.size
  clear PW10 SW10 Ps10 Ss10 Pk10 Sk10 Pj10 Sj10 PG10 SG10 Pt10 B10 hb11
  rw [ptsEq_self]
  clear Pt11
  go_wp2_with fail
  refine (toPtS_any _ _ _ _ (HB.out.below B11.out) hl2).mono ?_
  rintro e w12 ⟨bt, rfl, r12, g12, hb12⟩
  have B12 : Hid (Below w.heap.size w w12) := B11.out.trans (hb12.mono B11.out.size)
  have PW12 := Lib.hid (PW11.out.below hb12)
  have SW12 := Lib.hid (SW11.out.below PW11.out hb12)
  have Ps12 := Lib.hid (Ps11.out.below hb12)
  have Ss12 := Lib.hid (Ss11.out.below Ps11.out hb12)
  have Pk12 := Lib.hid (Pk11.out.below hb12)
  have Sk12 := Lib.hid (Sk11.out.below Pk11.out hb12)
  have Pj12 := Lib.hid (Pj11.out.below hb12)
  have Sj12 := Lib.hid (Sj11.out.below Pj11.out hb12)
  have PG12 := Lib.hid (PG11.out.below hb12)
  have SG12 := Lib.hid (SG11.out.below PG11.out hb12)
  have z12 := hb12.size
  have Pt12 := Lib.hid (PtsAt.of_row r12)
  have lt : bt < w12.heap.size := r12.lt
  have It : Hid (InB (some ⟨bt, 0, none⟩) w11.heap.size w12.heap.size) := fun x hx => by obtain rfl : bt = x := (by simpa [blk] using hx); exact ⟨g12, lt⟩
  clear PW11 SW11 Ps11 Ss11 Pk11 Sk11 Pj11 Sj11 PG11 SG11 B11 r12 g12 hb12
  go_wp2_with fail
  refine (eqPtS_any _ _ _ _ _ _ _ Pk12.out Pt12.out hl2 hl2).mono ?_
  rintro e w13 ⟨rfl, hb13⟩
  have B13 : Hid (Below w.heap.size w w13) := B12.out.trans (hb13.mono B12.out.size)
  have PW13 := Lib.hid (PW12.out.below hb13)
  have SW13 := Lib.hid (SW12.out.below PW12.out hb13)
  have Ps13 := Lib.hid (Ps12.out.below hb13)
  have Ss13 := Lib.hid (Ss12.out.below Ps12.out hb13)
  have Pk13 := Lib.hid (Pk12.out.below hb13)
  have Sk13 := Lib.hid (Sk12.out.below Pk12.out hb13)
  have Pj13 := Lib.hid (Pj12.out.below hb13)
  have Sj13 := Lib.hid (Sj12.out.below Pj12.out hb13)
  have PG13 := Lib.hid (PG12.out.below hb13)
  have SG13 := Lib.hid (SG12.out.below PG12.out hb13)
  have Pt13 := Lib.hid (Pt12.out.below hb13)
  have z13 := hb13.size
  clear PW12 SW12 Ps12 Ss12 Pk12 Sk12 Pj12 Sj12 PG12 SG12 Pt12 B12 hb13
  rw [ptsEq_self]
  clear Pt13
  go_wp2_with fail
  refine (toPtS_any _ _ _ _ (HC.out.below B13.out) hl3).mono ?_
  rintro e w14 ⟨bt, rfl, r14, g14, hb14⟩
  have B14 : Hid (Below w.heap.size w w14) := B13.out.trans (hb14.mono B13.out.size)
  have PW14 := Lib.hid (PW13.out.below hb14)
  have SW14 := Lib.hid (SW13.out.below PW13.out hb14)
  have Ps14 := Lib.hid (Ps13.out.below hb14)
  have Ss14 := Lib.hid (Ss13.out.below Ps13.out hb14)
  have Pk14 := Lib.hid (Pk13.out.below hb14)
  have Sk14 := Lib.hid (Sk13.out.below Pk13.out hb14)
  have Pj14 := Lib.hid (Pj13.out.below hb14)
  have Sj14 := Lib.hid (Sj13.out.below Pj13.out hb14)
  have PG14 := Lib.hid (PG13.out.below hb14)
  have SG14 := Lib.hid (SG13.out.below PG13.out hb14)
  have z14 := hb14.size
  have Pt14 := Lib.hid (PtsAt.of_row r14)
  have lt : bt < w14.heap.size := r14.lt
  have It : Hid (InB (some ⟨bt, 0, none⟩) w13.heap.size w14.heap.size) := fun x hx => by obtain rfl : bt = x := (by simpa [blk] using hx); exact ⟨g14, lt⟩
  clear PW13 SW13 Ps13 Ss13 Pk13 Sk13 Pj13 Sj13 PG13 SG13 B13 r14 g14 hb14
  go_wp2_with fail
  refine (eqPtS_any _ _ _ _ _ _ _ Pj14.out Pt14.out hl3 hl3).mono ?_
  rintro e w15 ⟨rfl, hb15⟩
  have B15 : Hid (Below w.heap.size w w15) := B14.out.trans (hb15.mono B14.out.size)
  have PW15 := Lib.hid (PW14.out.below hb15)
  have SW15 := Lib.hid (SW14.out.below PW14.out hb15)
  have Ps15 := Lib.hid (Ps14.out.below hb15)
  have Ss15 := Lib.hid (Ss14.out.below Ps14.out hb15)
  have Pk15 := Lib.hid (Pk14.out.below hb15)
  have Sk15 := Lib.hid (Sk14.out.below Pk14.out hb15)
  have Pj15 := Lib.hid (Pj14.out.below hb15)
  have Sj15 := Lib.hid (Sj14.out.below Pj14.out hb15)
  have PG15 := Lib.hid (PG14.out.below hb15)
  have SG15 := Lib.hid (SG14.out.below PG14.out hb15)
  have Pt15 := Lib.hid (Pt14.out.below hb15)
  have z15 := hb15.size
  clear PW14 SW14 Ps14 Ss14 Pk14 Sk14 Pj14 Sj14 PG14 SG14 Pt14 B14 hb15
  rw [ptsEq_self]
  clear Pt15
  go_wp2_with fail
  refine (markPtS_any _ _ _ _ _ Ps15.out Ss15.out hl1 (by omega) (by omega)).mono ?_
  rintro e w16 ⟨rfl, m16, s16, g16, y16⟩
  have B16 : Hid (Below w.heap.size w w16) := B15.out.grown g16 B15.out.size (fun x hx => by have := (Is.out x hx).1; have := B15.out.size; omega)
  have PW16 := Lib.hid (PW15.out.apart g16 IW.out Is.out (by omega))
  have SW16 := Lib.hid (SW15.out.apart PW15.out g16 IW.out Is.out (by omega))
  have Ps16 := Lib.hid m16
  have Ss16 := Lib.hid s16
  have Pk16 := Lib.hid (Pk15.out.apart g16 Ik.out Is.out (by omega))
  have Sk16 := Lib.hid (Sk15.out.apart Pk15.out g16 Ik.out Is.out (by omega))
  have Pj16 := Lib.hid (Pj15.out.apart g16 Ij.out Is.out (by omega))
  have Sj16 := Lib.hid (Sj15.out.apart Pj15.out g16 Ij.out Is.out (by omega))
  have PG16 := Lib.hid (PG15.out.apart g16 IG.out Is.out (by omega))
  have SG16 := Lib.hid (SG15.out.apart PG15.out g16 IG.out Is.out (by omega))
  have z16 := g16.size
  clear B15 PW15 SW15 Ps15 Ss15 Pk15 Sk15 Pj15 Sj15 PG15 SG15 m16 s16 g16 y16
  clear Ps16
  go_wp2_with fail
  refine (markPtS_any _ _ _ _ _ Pk16.out Sk16.out hl2 (by omega) (by omega)).mono ?_
  rintro e w17 ⟨rfl, m17, s17, g17, y17⟩
  have B17 : Hid (Below w.heap.size w w17) := B16.out.grown g17 B16.out.size (fun x hx => by have := (Ik.out x hx).1; have := B16.out.size; omega)
  have PW17 := Lib.hid (PW16.out.apart g17 IW.out Ik.out (by omega))
  have SW17 := Lib.hid (SW16.out.apart PW16.out g17 IW.out Ik.out (by omega))
  have Pk17 := Lib.hid m17
  have Sk17 := Lib.hid s17
  have Pj17 := Lib.hid (Pj16.out.apart g17 Ij.out Ik.out (by omega))
  have Sj17 := Lib.hid (Sj16.out.apart Pj16.out g17 Ij.out Ik.out (by omega))
  have PG17 := Lib.hid (PG16.out.apart g17 IG.out Ik.out (by omega))
  have SG17 := Lib.hid (SG16.out.apart PG16.out g17 IG.out Ik.out (by omega))
  have z17 := g17.size
  clear B16 PW16 SW16 Pk16 Sk16 Pj16 Sj16 PG16 SG16 m17 s17 g17 y17
  clear Pk17
  go_wp2_with fail
  refine (markPtS_any _ _ _ _ _ Pj17.out Sj17.out hl3 (by omega) (by omega)).mono ?_
  rintro e w18 ⟨rfl, m18, s18, g18, y18⟩
  have B18 : Hid (Below w.heap.size w w18) := B17.out.grown g18 B17.out.size (fun x hx => by have := (Ij.out x hx).1; have := B17.out.size; omega)
  have PW18 := Lib.hid (PW17.out.apart g18 IW.out Ij.out (by omega))
  have SW18 := Lib.hid (SW17.out.apart PW17.out g18 IW.out Ij.out (by omega))
  have Pj18 := Lib.hid m18
  have Sj18 := Lib.hid s18
  have PG18 := Lib.hid (PG17.out.apart g18 IG.out Ij.out (by omega))
  have SG18 := Lib.hid (SG17.out.apart PG17.out g18 IG.out Ij.out (by omega))
  have z18 := g18.size
  clear B17 PW17 SW17 Pj17 Sj17 PG17 SG17 m18 s18 g18 y18
  clear Pj18
  have hk : ¬ (1 + 2 * (ps.length : Int) + 2 * (qs.length : Int) + 2 * (rs.length : Int)) < 0 := by omega
  go_wp2_with fail
  refine (eqPtS_any _ _ _ _ _ _ _ PG18.out PW18.out hml hml).mono ?_
  rintro e w19 ⟨rfl, hb19⟩
  have B19 : Hid (Below w.heap.size w w19) := B18.out.trans (hb19.mono B18.out.size)
  have PW19 := Lib.hid (PW18.out.below hb19)
  have SW19 := Lib.hid (SW18.out.below PW18.out hb19)
  have PG19 := Lib.hid (PG18.out.below hb19)
  have SG19 := Lib.hid (SG18.out.below PG18.out hb19)
  have z19 := hb19.size
  clear PW18 SW18 PG18 SG18 B18 hb19
  rw [ptsEq_self]
  clear hk
  go_wp2_with fail
  refine (markPtS_any _ _ _ _ _ PG19.out SG19.out hml (by omega) (by omega)).mono ?_
  rintro e w20 ⟨rfl, m20, s20, g20, y20⟩
  have B20 : Hid (Below w.heap.size w w20) := B19.out.grown g20 B19.out.size (fun x hx => by have := (IG.out x hx).1; have := B19.out.size; omega)
  have PW20 := Lib.hid (PW19.out.apart g20 IW.out IG.out (by omega))
  have SW20 := Lib.hid (SW19.out.apart PW19.out g20 IW.out IG.out (by omega))
  have PG20 := Lib.hid m20
  have SG20 := Lib.hid s20
  have z20 := g20.size
  clear B19 PW19 SW19 PG19 SG19 m20 s20 g20 y20
  have hk : ¬ (1 + 2 * (ml.length : Int)) < 0 := by omega
  have hn : (1 + 2 * (ml.length : Int) != 1 + 2 * (ml.length : Int)) = false := by simp
  go_wp2_with fail
  refine (heldPtS_any _ _ _ _ _ PG20.out hml (by omega) (by omega)).mono ?_
  rintro e wx ⟨rfl, rfl⟩
  go_wp2_with fail
  refine (toPtS_any _ _ _ _ (HA.out.below B20.out) hl1).mono ?_
  rintro e w21 ⟨bt, rfl, r21, g21, hb21⟩
  have B21 : Hid (Below w.heap.size w w21) := B20.out.trans (hb21.mono B20.out.size)
  have PW21 := Lib.hid (PW20.out.below hb21)
  have SW21 := Lib.hid (SW20.out.below PW20.out hb21)
  have PG21 := Lib.hid (PG20.out.below hb21)
  have z21 := hb21.size
  have Pt21 := Lib.hid (PtsAt.of_row r21)
  have lt : bt < w21.heap.size := r21.lt
  have It : Hid (InB (some ⟨bt, 0, none⟩) w20.heap.size w21.heap.size) := fun x hx => by obtain rfl : bt = x := (by simpa [blk] using hx); exact ⟨g21, lt⟩
  clear PW20 SW20 PG20 B20 r21 g21 hb21
  go_wp2_with fail
  refine (toPtS_any _ _ _ _ (HB.out.below B21.out) hl2).mono ?_
  rintro e w22 ⟨bu, rfl, r22, g22, hb22⟩
  have B22 : Hid (Below w.heap.size w w22) := B21.out.trans (hb22.mono B21.out.size)
  have PW22 := Lib.hid (PW21.out.below hb22)
  have SW22 := Lib.hid (SW21.out.below PW21.out hb22)
  have PG22 := Lib.hid (PG21.out.below hb22)
  have Pt22 := Lib.hid (Pt21.out.below hb22)
  have z22 := hb22.size
  have Pu22 := Lib.hid (PtsAt.of_row r22)
  have lu : bu < w22.heap.size := r22.lt
  have Iu : Hid (InB (some ⟨bu, 0, none⟩) w21.heap.size w22.heap.size) := fun x hx => by obtain rfl : bu = x := (by simpa [blk] using hx); exact ⟨g22, lu⟩
  clear PW21 SW21 PG21 Pt21 B21 r22 g22 hb22
  go_wp2_with fail
  refine (toPtS_any _ _ _ _ (HC.out.below B22.out) hl3).mono ?_
  rintro e w23 ⟨bv, rfl, r23, g23, hb23⟩
  have B23 : Hid (Below w.heap.size w w23) := B22.out.trans (hb23.mono B22.out.size)
  have PW23 := Lib.hid (PW22.out.below hb23)
  have SW23 := Lib.hid (SW22.out.below PW22.out hb23)
  have PG23 := Lib.hid (PG22.out.below hb23)
  have Pt23 := Lib.hid (Pt22.out.below hb23)
  have Pu23 := Lib.hid (Pu22.out.below hb23)
  have z23 := hb23.size
  have Pv23 := Lib.hid (PtsAt.of_row r23)
  have lv : bv < w23.heap.size := r23.lt
  have Iv : Hid (InB (some ⟨bv, 0, none⟩) w22.heap.size w23.heap.size) := fun x hx => by obtain rfl : bv = x := (by simpa [blk] using hx); exact ⟨g23, lv⟩
  clear PW22 SW22 PG22 Pt22 Pu22 B22 r23 g23 hb23
  go_wp2_with fail
  refine (implSeqMerge_m _ _ _ _ _ _ _ _ _ _ _ _ HM.out HK.out Pt23.out Pu23.out Pv23.out hl1 hl2 hl3 (Nat.le_refl _) (Nat.le_refl _) (Nat.le_refl _)).mono ?_
  rintro e w24 ⟨aK, cK, rfl, h24⟩
  have hb24 := h24.bel
  have B24 : Hid (Below w.heap.size w w24) := B23.out.trans (hb24.mono B23.out.size)
  have PW24 := Lib.hid (PW23.out.below hb24)
  have SW24 := Lib.hid (SW23.out.below PW23.out hb24)
  have PG24 := Lib.hid (PG23.out.below hb24)
  have Pt24 := Lib.hid (Pt23.out.below hb24)
  have Pu24 := Lib.hid (Pu23.out.below hb24)
  have Pv24 := Lib.hid (Pv23.out.below hb24)
  have z24 := hb24.size
  have PK24 := Lib.hid h24.pts
  have SK24 := Lib.hid h24.soft
  have IK : Hid (InB aK w23.heap.size w24.heap.size) := h24.fresh
  clear PW23 SW23 PG23 Pt23 Pu23 Pv23 B23 h24 hb24
  clear Pt24
  clear Pu24
  clear Pv24
  go_wp2_with fail
  refine (eqPtS_any _ _ _ _ _ _ _ PK24.out PW24.out hml hml).mono ?_
  rintro e w25 ⟨rfl, hb25⟩
  have B25 : Hid (Below w.heap.size w w25) := B24.out.trans (hb25.mono B24.out.size)
  have PW25 := Lib.hid (PW24.out.below hb25)
  have SW25 := Lib.hid (SW24.out.below PW24.out hb25)
  have PG25 := Lib.hid (PG24.out.below hb25)
  have PK25 := Lib.hid (PK24.out.below hb25)
  have SK25 := Lib.hid (SK24.out.below PK24.out hb25)
  have z25 := hb25.size
  clear PW24 SW24 PG24 PK24 SK24 B24 hb25
  rw [ptsEq_self]
  go_wp2_with fail
  refine (heldPtS_any _ _ _ _ _ PG25.out hml (by omega) (by omega)).mono ?_
  rintro e wx ⟨rfl, rfl⟩
  go_wp2
  go_ret
  exact ⟨rfl, B25.out⟩

set_option maxHeartbeats 400000 in
theorem fnSeqMerge_over1 (a a' a'' : Option Addr) (n n' n'' cap cap' cap'' : Nat) (w : World) (h1 : 1048576 < n) (hm : n ≤ maxLen) :
    Calls Try.prog 13 #[.slice a n cap, .slice a' n' cap', .slice a'' n'' cap''] w fun e w' => e = .returned (.bool true) ∧ Below w.heap.size w w' := by
  go_enter Try.func13, Try.ntmps13

  go_wp2_with fail
  refine (szPtS_over _ _ _ _ _ (by omega) (by omega) (by omega) hm).mono ?_
  rintro e w1 ⟨rfl, rfl⟩
  go_wp2
  go_ret
  exact ⟨rfl, Below.refl _ _⟩

set_option maxHeartbeats 400000 in
theorem fnSeqMerge_over2 (a a' a'' : Option Addr) (n n' n'' cap cap' cap'' : Nat) (w : World) (h1 : n ≤ 1048576) (h2 : 1048576 < n + n') (hm : n' ≤ maxLen) :
    Calls Try.prog 13 #[.slice a n cap, .slice a' n' cap', .slice a'' n'' cap''] w fun e w' => e = .returned (.bool true) ∧ Below w.heap.size w w' := by
  go_enter Try.func13, Try.ntmps13
  go_wp2_with fail
  refine (szPtS_fits _ _ _ _ _ (by omega) (by omega)).mono ?_
  rintro e w1 ⟨rfl, rfl⟩
  go_wp2_with fail
  refine (szPtS_over _ _ _ _ _ (by omega) (by omega) (by omega) hm).mono ?_
  rintro e w1 ⟨rfl, rfl⟩
  go_wp2
  go_ret
  exact ⟨rfl, Below.refl _ _⟩

set_option maxHeartbeats 400000 in
theorem fnSeqMerge_over3 (a a' a'' : Option Addr) (n n' n'' cap cap' cap'' : Nat) (w : World) (h1 : n ≤ 1048576) (h2 : n + n' ≤ 1048576) (h3 : 1048576 < n + n' + n'') (hm : n'' ≤ maxLen) :
    Calls Try.prog 13 #[.slice a n cap, .slice a' n' cap', .slice a'' n'' cap''] w fun e w' => e = .returned (.bool true) ∧ Below w.heap.size w w' := by
  go_enter Try.func13, Try.ntmps13
  go_wp2_with fail
  refine (szPtS_fits _ _ _ _ _ (by omega) (by omega)).mono ?_
  rintro e w1 ⟨rfl, rfl⟩
  go_wp2_with fail
  refine (szPtS_fits _ _ _ _ _ (by omega) (by omega)).mono ?_
  rintro e w1 ⟨rfl, rfl⟩
  go_wp2_with fail
  refine (szPtS_over _ _ _ _ _ (by omega) (by omega) (by omega) hm).mono ?_
  rintro e w1 ⟨rfl, rfl⟩
  go_wp2
  go_ret
  exact ⟨rfl, Below.refl _ _⟩

theorem fnSeqMerge_all (a : Option Addr) (cap : Nat) (ps : List (Int × Int)) (a' : Option Addr) (cap' : Nat) (qs : List (Int × Int)) (a'' : Option Addr) (cap'' : Nat) (rs : List (Int × Int)) (w : World) (hp : PtsAt w a ps) (hm : ps.length ≤ maxLen) (hq : PtsAt w a' qs) (hm' : qs.length ≤ maxLen) (hr : PtsAt w a'' rs) (hm'' : rs.length ≤ maxLen) :
    Calls Try.prog 13 #[.slice a ps.length cap, .slice a' qs.length cap', .slice a'' rs.length cap''] w fun e w' => e = .returned (.bool true) ∧ Below w.heap.size w w' := by
  by_cases h1 : ps.length ≤ 1048576
  · by_cases h2 : ps.length + qs.length ≤ 1048576
    · by_cases h3 : ps.length + qs.length + rs.length ≤ 1048576
      · exact fnSeqMerge_walk a a' a'' cap cap' cap'' ps qs rs w hp hq hr h3
      · exact fnSeqMerge_over3 a a' a'' _ _ _ cap cap' cap'' w h1 h2 (by omega) hm''
    · exact fnSeqMerge_over2 a a' a'' _ _ _ cap cap' cap'' w h1 (by omega) hm'
  · exact fnSeqMerge_over1 a a' a'' _ _ _ cap cap' cap'' w (by omega) hm

set_option maxRecDepth 100000 in
theorem fnExactSeqMerge_lifted (os : Os) (started : os.Started) (H : Type) (enc : TypeId × Value → H) :
    ReturnsInHanded {} Try.checked os 13 .any (Rows.fnExactSeqMergeSpec.pre6 enc Try.prog Try.f13 Rows.fnExactSeqMergeRow.domain false) (Rows.fnExactSeqMergeSpec.post enc Try.prog Try.f13 false true false false) := by
  refine returnsInHanded_of_change (C := Try.checked) own started (by kernel_rfl) Try.func13
    (ChangeSpec.witness6 (enc := enc) (C := Try.checked) false ⟨#[], #[.slice none 0 0, .slice none 0 0, .slice none 0 0], []⟩ 8 (by kernel_rfl) (by kernel_rfl) (by kernel_rfl) (by kernel_rfl)) ?_
  intro W base args ds gs before hval0 hW _ _
  have hval : ∀ (j : Nat) t v, Try.f13.params[j]? = some t → args[j]? = some v → Value.okWide Try.prog W .any base t v := hval0
  have hW' := hW
  obtain ⟨p, q, hA0, hV, rfl, _, _⟩ := hW
  have hA : DataW.TrodAll enc Try.prog W 0 (fun _ => true) true Try.f13.params.toList args.toList ds p := hA0
  rw [Try.params13] at hA hval
  obtain ⟨v0, vs0, d0, ds0, p0, q0, hargs, rfl, rfl, h0, r0⟩ := trodAll_cons hA
  obtain ⟨v1, vs1, d1, ds1, p1, q1, rfl, rfl, rfl, h1, r1⟩ := trodAll_cons r0
  obtain ⟨v2, vs2, d2, ds2, p2, q2, rfl, rfl, rfl, h2, r2⟩ := trodAll_cons r1
  obtain ⟨rfl, rfl, rfl⟩ := trodAll_nil r2
  obtain rfl : args = #[v0, v1, v2] := by cases args; simp_all
  obtain ⟨rfl, rfl⟩ := trodVars_none hV
  have k0 := h0
  have lt0 : ∀ x ∈ p0, x.block < W.heap.size := by obtain ⟨m, hm⟩ := k0; exact DataW.trod_lt m _ _ _ hm
  obtain ⟨a0, c0, s0, rfl, f0, g0⟩ := open_ptsT (hval 0 41 v0 rfl rfl) h0
  have k1 := h1
  have lt1 : ∀ x ∈ p1, x.block < W.heap.size := by obtain ⟨m, hm⟩ := k1; exact DataW.trod_lt m _ _ _ hm
  obtain ⟨a1, c1, s1, rfl, f1, g1⟩ := open_ptsT (hval 1 41 v1 rfl rfl) h1
  have k2 := h2
  have lt2 : ∀ x ∈ p2, x.block < W.heap.size := by obtain ⟨m, hm⟩ := k2; exact DataW.trod_lt m _ _ _ hm
  obtain ⟨a2, c2, s2, rfl, f2, g2⟩ := open_ptsT (hval 2 41 v2 rfl rfl) h2
  clear hA0 hval0
  refine (fnSeqMerge_all a0 c0 s0 a1 c1 s1 a2 c2 s2 W f0 g0 f1 g1 f2 g2).mono fun e W' ⟨he, bel⟩ => ?_
  subst he
  exact ⟨_, rfl, _, _, _, [], _, [], hW', trodAll_mk1 (shut_bool Try.underlying4 _), (trodAll_cons_mk (Below.trod laidOut (by kernel_rfl) (of_decide_eq_true (by kernel_rfl)) k0 bel lt0) (trodAll_cons_mk (Below.trod laidOut (by kernel_rfl) (of_decide_eq_true (by kernel_rfl)) k1 bel lt1) (trodAll_cons_mk (Below.trod laidOut (by kernel_rfl) (of_decide_eq_true (by kernel_rfl)) k2 bel lt2) trodAll_mk0))), rfl, bel.frame _, fun h => by cases h⟩

theorem fnExactSeqMerge_over : Rows.fnExactSeqMergeRow.holds Try.pinned (OpenSpec.ofChange Rows.fnExactSeqMergeSpec) :=
  OpenClaim.holds_of_wide 13 Try.f13 rfl rfl rfl rfl rfl rfl rfl ⟨rfl, rfl, rfl, rfl, rfl⟩ rfl rfl rfl rfl rfl (by kernel_rfl) Try.func13 (by kernel_rfl)
    (of_decide_eq_true (by kernel_rfl)) (by unfold Func.isWrapper; first | (rw [if_pos (by decide +kernel)]; kernel_rfl) | (rw [if_neg (by decide +kernel)]; exact ⟨rfl, rfl⟩))
    (fun os started H enc _ => fnExactSeqMerge_lifted os started H enc)

/-- the given statement -/
theorem fnExactSeqMerge_holds : Rows.FnExactSeqMergeSaid := fnExactSeqMerge_over

end Go.Proofs.Ytaefibefagbheaa
