/- Proved here: the draws of two and of three rows of points are rows that can be read, no point far off, and turn nothing that was there; codes of at most 1,048,576 bytes. -/
import Derived.Test.YtaefibefagbheaaWSeqNear
namespace Go.Proofs.Ytaefibefagbheaa
set_option linter.unusedVariables false
open Go.ChangeShapes Go.WideShapes Go.ChangeAt Go.RowKit

/-- a drawn row -/
structure RowIn (w : World) (a : Option Addr) (c : Nat) (ps : List (Int × Int)) : Prop where
  pts : PtsAt w a ps
  len : ps.length ≤ 16
  cap : ps.length ≤ c
  near : Near ps

theorem RowIn.below {w w' : World} {a : Option Addr} {c : Nat} {ps : List (Int × Int)} (h : RowIn w a c ps) (hb : Below w.heap.size w w') : RowIn w' a c ps := ⟨h.pts.below hb, h.len, h.cap, h.near⟩

theorem LayR.rowIn {W w : World} {R : Nat} {ps : List (Int × Int)} {a : Option Addr} {c : Nat} (h : LayR W R ps w (.slice a ps.length c)) (hn : Near ps) (hl : ps.length ≤ 16) : RowIn w a c ps := by
  obtain ⟨a', c', e, hc, _⟩ := h.form
  cases e
  exact ⟨h.pts.1, hl, hc, hn⟩

def Drawn2 (w : World) (e : Ending) (w' : World) : Prop :=
  ∃ (a1 : Option Addr) (c1 : Nat) (ps : List (Int × Int)) (a2 : Option Addr) (c2 : Nat) (qs : List (Int × Int)), e = .returned (.tuple #[.slice a1 ps.length c1, .slice a2 qs.length c2]) ∧ RowIn w' a1 c1 ps ∧ RowIn w' a2 c2 qs ∧ Below w.heap.size w w'

def Drawn3 (w : World) (e : Ending) (w' : World) : Prop :=
  ∃ (a1 : Option Addr) (c1 : Nat) (ps : List (Int × Int)) (a2 : Option Addr) (c2 : Nat) (qs : List (Int × Int)) (a3 : Option Addr) (c3 : Nat) (rs : List (Int × Int)), e = .returned (.tuple #[.slice a1 ps.length c1, .slice a2 qs.length c2, .slice a3 rs.length c3]) ∧ RowIn w' a1 c1 ps ∧ RowIn w' a2 c2 qs ∧ RowIn w' a3 c3 rs ∧ Below w.heap.size w w'

theorem below_reader {w w1 w2 : World} {R : Nat} (hb : Below w.heap.size w w1) (hg : w1.grownBy w2 (some R)) (hR : w.heap.size ≤ R) : Below w.heap.size w w2 := hb.grown hg hb.size (fun j e => by obtain rfl : R = j := (by simpa using e); exact hR)

set_option maxRecDepth 100000 in
set_option maxHeartbeats 2000000 in
theorem l5Two_any (a : Option Addr) (n cap : Nat) (w : World) (h : CodeAt w a n) (hl : n ≤ 1048576) (hc : n ≤ cap) :
    Calls Try.prog 33 #[.slice a n cap] w (Drawn2 w) := by
  have HC := Lib.hid h
  clear h
  go_enter Try.func33, Try.ntmps33
  go_wp2_with fail
  refine (l12OpenC _ _ _ _ HC.out hl hc).mono ?_
  rintro e w1 ⟨R, m, rfl, hR, hm, hr, hb1⟩
  have R1 := Lib.hid hr
  have B1 := Lib.hid hb1
  clear hr hb1
  go_wp2_with fail
  refine (l5Seq_any _ _ _ _ _ 7 _ R1.out (by omega) hm (by omega)).mono ?_
  rintro e w2 ⟨aA, cA, pA, q2, rfl, hl2, n2, m2, r2, o2⟩
  have G2 : Hid (w1.grownBy w2 (some R)) := hl2.grown
  have LA := Lib.hid hl2
  have NA := Lib.hid m2
  have R2 := Lib.hid r2
  clear hl2 m2 r2
  go_wp2_with fail
  refine (pick_any _ _ _ _ _ _ _ R2.out (by omega) hm (by omega) (by omega)).mono ?_
  rintro e w3 ⟨q, rfl, hq0, hq1, hr, hg, hs⟩
  have G3 : Hid (w1.grownBy w3 (some R)) := G2.out.trans hg
  have LA := Lib.hid (LA.out.read hg)
  have R3 := Lib.hid hr
  clear hr hg hs
  by_cases q0 : q = 0
  · subst q0
    go_wp2_with fail
    refine (l5Seq_any _ _ _ _ _ 14 _ R3.out (by omega) hm (by omega)).mono ?_
    rintro e w4 ⟨aB, cB, pB, q4, rfl, hl4, n4, m4, r4, o4⟩
    have G4 : Hid (w1.grownBy w4 (some R)) := G3.out.trans hl4.grown
    have LA := Lib.hid (LA.out.read hl4.grown)
    have LB := Lib.hid hl4
    have NB := Lib.hid m4
    have R4 := Lib.hid r4
    clear hl4 m4 r4
    go_wp2
    go_ret2
    exact ⟨_, _, _, _, _, _, rfl, LB.out.rowIn NB.out (by omega), LA.out.rowIn NA.out (by omega), below_reader B1.out G4.out hR⟩
  · have b0 : (q == 0) = false := beq_eq_false_iff_ne.2 q0
    by_cases q1 : q = 1
    · subst q1
      go_wp2_with fail
      refine (l5Seq_any _ _ _ _ _ 7 _ R3.out (by omega) hm (by omega)).mono ?_
      rintro e w4 ⟨aB, cB, pB, q4, rfl, hl4, n4, m4, r4, o4⟩
      have G4 : Hid (w1.grownBy w4 (some R)) := G3.out.trans hl4.grown
      have LA := Lib.hid (LA.out.read hl4.grown)
      have LB := Lib.hid hl4
      have NB := Lib.hid m4
      have R4 := Lib.hid r4
      clear hl4 m4 r4
      go_wp2
      go_ret2
      exact ⟨_, _, _, _, _, _, rfl, LA.out.rowIn NA.out (by omega), LB.out.rowIn NB.out (by omega), below_reader B1.out G4.out hR⟩
    · have b1 : (q == 1) = false := beq_eq_false_iff_ne.2 q1
      by_cases q2 : q = 2
      · subst q2
        go_wp2_with fail
        refine (l5Seq_any _ _ _ _ _ 7 _ R3.out (by omega) hm (by omega)).mono ?_
        rintro e w4 ⟨aB, cB, pB, q4, rfl, hl4, n4, m4, r4, o4⟩
        have G4 : Hid (w1.grownBy w4 (some R)) := G3.out.trans hl4.grown
        have LA := Lib.hid (LA.out.read hl4.grown)
        have LB := Lib.hid hl4
        have NB := Lib.hid m4
        have R4 := Lib.hid r4
        clear hl4 m4 r4
        go_wp2
        go_ret2
        exact ⟨_, _, _, _, _, _, rfl, LA.out.rowIn NA.out (by omega), LB.out.rowIn NB.out (by omega), below_reader B1.out G4.out hR⟩
      · have b2 : (q == 2) = false := beq_eq_false_iff_ne.2 q2
        by_cases q3 : q = 3
        · subst q3
          go_wp2_with fail
          refine (l5Seq_any _ _ _ _ _ 7 _ R3.out (by omega) hm (by omega)).mono ?_
          rintro e w4 ⟨aB, cB, pB, q4, rfl, hl4, n4, m4, r4, o4⟩
          have G4 : Hid (w1.grownBy w4 (some R)) := G3.out.trans hl4.grown
          have LA := Lib.hid (LA.out.read hl4.grown)
          have LB := Lib.hid hl4
          have NB := Lib.hid m4
          have R4 := Lib.hid r4
          clear hl4 m4 r4
          go_wp2
          go_ret2
          exact ⟨_, _, _, _, _, _, rfl, LA.out.rowIn NA.out (by omega), LB.out.rowIn NB.out (by omega), below_reader B1.out G4.out hR⟩
        · have b3 : (q == 3) = false := beq_eq_false_iff_ne.2 q3
          go_wp2_with fail
          refine (l5Near_any _ _ _ _ _ _ _ _ _ R3.out (by omega) hm LA.out.pts.1 (by omega) NA.out).mono ?_
          rintro e w4 ⟨aB, cB, pB, q4, rfl, hl4, n4, m4, r4, o4⟩
          have G4 : Hid (w1.grownBy w4 (some R)) := G3.out.trans hl4.grown
          have LA := Lib.hid (LA.out.read hl4.grown)
          have LB := Lib.hid hl4
          have NB := Lib.hid m4
          have R4 := Lib.hid r4
          clear hl4 m4 r4
          go_wp2
          go_ret2
          exact ⟨_, _, _, _, _, _, rfl, LA.out.rowIn NA.out (by omega), LB.out.rowIn NB.out (by omega), below_reader B1.out G4.out hR⟩

set_option maxHeartbeats 1000000 in
theorem drawSeqPairs_any (a : Option Addr) (n cap : Nat) (w : World) (h : CodeAt w a n) (hl : n ≤ 1048576) (hc : n ≤ cap) :
    Calls Try.prog 14 #[.slice a n cap] w (Drawn2 w) := by
  have HC := Lib.hid h
  clear h
  go_enter Try.func14, Try.ntmps14
  go_wp2_with fail
  refine (l5Two_any _ _ _ _ HC.out hl hc).mono ?_
  rintro e w1 ⟨a1, c1, ps, a2, c2, qs, rfl, h1, h2, h3⟩
  have H1 := Lib.hid h1
  have H2 := Lib.hid h2
  have H3 := Lib.hid h3
  clear h1 h2 h3
  go_wp2
  go_ret2
  exact ⟨_, _, _, _, _, _, rfl, H1.out, H2.out, H3.out⟩

set_option maxHeartbeats 1000000 in
theorem drawSeqLong_any (a : Option Addr) (n cap : Nat) (w : World) (h : CodeAt w a n) (hl : n ≤ 1048576) (hc : n ≤ cap) :
    Calls Try.prog 19 #[.slice a n cap] w (Drawn2 w) := by
  have HC := Lib.hid h
  clear h
  go_enter Try.func19, Try.ntmps19
  go_wp2_with fail
  refine (l5Two_any _ _ _ _ HC.out hl hc).mono ?_
  rintro e w1 ⟨a1, c1, ps, a2, c2, qs, rfl, h1, h2, h3⟩
  have H1 := Lib.hid h1
  have H2 := Lib.hid h2
  have H3 := Lib.hid h3
  clear h1 h2 h3
  go_wp2
  go_ret2
  exact ⟨_, _, _, _, _, _, rfl, H1.out, H2.out, H3.out⟩

set_option maxRecDepth 100000 in
set_option maxHeartbeats 2000000 in
theorem drawSeqMerge_any (a : Option Addr) (n cap : Nat) (w : World) (h : CodeAt w a n) (hl : n ≤ 1048576) (hc : n ≤ cap) :
    Calls Try.prog 20 #[.slice a n cap] w (Drawn3 w) := by
  have HC := Lib.hid h
  clear h
  go_enter Try.func20, Try.ntmps20
  go_wp2_with fail
  refine (l12OpenC _ _ _ _ HC.out hl hc).mono ?_
  rintro e w1 ⟨R, m, rfl, hR, hm, hr, hb1⟩
  have R1 := Lib.hid hr
  have B1 := Lib.hid hb1
  clear hr hb1
  go_wp2_with fail
  refine (l5Seq_any _ _ _ _ _ 8 _ R1.out (by omega) hm (by omega)).mono ?_
  rintro e w2 ⟨aO, cO, pO, q2, rfl, hl2, n2, m2, r2, o2⟩
  have G2 : Hid (w1.grownBy w2 (some R)) := hl2.grown
  have LO := Lib.hid hl2
  have NO := Lib.hid m2
  have R2 := Lib.hid r2
  clear hl2 m2 r2
  go_wp2_with fail
  refine (pick_any _ _ _ _ _ _ _ R2.out (by omega) hm (by omega) (by omega)).mono ?_
  rintro e w3 ⟨q, rfl, hq0, hq1, hr, hg, hs⟩
  have G3 : Hid (w1.grownBy w3 (some R)) := G2.out.trans hg
  have LO := Lib.hid (LO.out.read hg)
  have R3 := Lib.hid hr
  clear hr hg hs
  by_cases q0 : q = 0
  · subst q0
    go_wp2_with fail
    refine (l5Seq_any _ _ _ _ _ 6 _ R3.out (by omega) hm (by omega)).mono ?_
    rintro e w4 ⟨aA, cA, pA, q4, rfl, hl4, n4, m4, r4, o4⟩
    have G4 : Hid (w1.grownBy w4 (some R)) := G3.out.trans hl4.grown
    have LO := Lib.hid (LO.out.read hl4.grown)
    have LA := Lib.hid hl4
    have NA := Lib.hid m4
    have R4 := Lib.hid r4
    clear hl4 m4 r4
    go_wp2_with fail
    refine (l5Near_any _ _ _ _ _ _ _ _ _ R4.out (by omega) hm LO.out.pts.1 (by omega) NO.out).mono ?_
    rintro e w5 ⟨aB, cB, pB, q5, rfl, hl5, n5, m5, r5, o5⟩
    have G5 : Hid (w1.grownBy w5 (some R)) := G4.out.trans hl5.grown
    have LO := Lib.hid (LO.out.read hl5.grown)
    have LA := Lib.hid (LA.out.read hl5.grown)
    have LB := Lib.hid hl5
    have NB := Lib.hid m5
    have R5 := Lib.hid r5
    clear hl5 m5 r5
    go_wp2
    go_ret3
    exact ⟨_, _, _, _, _, _, _, _, _, rfl, LO.out.rowIn NO.out (by omega), LA.out.rowIn NA.out (by omega), LB.out.rowIn NB.out (by omega), below_reader B1.out G5.out hR⟩
  · have b0 : (q == 0) = false := beq_eq_false_iff_ne.2 q0
    by_cases q1 : q = 1
    · subst q1
      go_wp2_with fail
      refine (l5Seq_any _ _ _ _ _ 14 _ R3.out (by omega) hm (by omega)).mono ?_
      rintro e w4 ⟨aA, cA, pA, q4, rfl, hl4, n4, m4, r4, o4⟩
      have G4 : Hid (w1.grownBy w4 (some R)) := G3.out.trans hl4.grown
      have LO := Lib.hid (LO.out.read hl4.grown)
      have LA := Lib.hid hl4
      have NA := Lib.hid m4
      have R4 := Lib.hid r4
      clear hl4 m4 r4
      go_wp2
      go_ret3
      exact ⟨_, _, _, _, _, _, _, _, _, rfl, LO.out.rowIn NO.out (by omega), LA.out.rowIn NA.out (by omega), LO.out.rowIn NO.out (by omega), below_reader B1.out G4.out hR⟩
    · have b1 : (q == 1) = false := beq_eq_false_iff_ne.2 q1
      by_cases q2 : q = 2
      · subst q2
        go_wp2_with fail
        refine (l5Near_any _ _ _ _ _ _ _ _ _ R3.out (by omega) hm LO.out.pts.1 (by omega) NO.out).mono ?_
        rintro e w4 ⟨aA, cA, pA, q4, rfl, hl4, n4, m4, r4, o4⟩
        have G4 : Hid (w1.grownBy w4 (some R)) := G3.out.trans hl4.grown
        have LO := Lib.hid (LO.out.read hl4.grown)
        have LA := Lib.hid hl4
        have NA := Lib.hid m4
        have R4 := Lib.hid r4
        clear hl4 m4 r4
        go_wp2_with (at_builtin; refine wpList_layr (W0 := w1) (by rfl) _ _ (by rfl) (LayR.lit G4.out LO.out.lt) (LA.out.pts.1.below ((Below.refl _ _).alloc (Nat.le_refl _) _)) (by rfl) (by rfl) rfl (by simp; omega) ?_; intro r ar cr W9 hr9 hL9 hG9 hA9)
        have hlit : ∀ k, (Value.slice (some ⟨w4.heap.size, 0, none⟩) 0 0).ownBlock = some k → k = w4.heap.size := fun k e => by
          have : w4.heap.size = k := by simpa [Value.ownBlock] using e
          exact this.symm
        obtain rfl : r = pA := by rw [hr9.out]; rfl
        have zw : w1.heap.size ≤ w4.heap.size := G4.out.size
        have LO9 := Lib.hid ((LO.out.alloc _).kept hG9.out (fun k e => .inl (by have := hlit k e; omega)) fun k e e' => by have := hlit k e; have := (LO.out.far e').2; omega)
        have LA9 : Hid (PtsAt W9 aA r) := (LA.out.alloc _).pts.1.past hG9.out fun k e e' => by have := hlit k e'; have := (LA.out.pts.2.2 k e).2; omega
        have G9 : Hid (w1.grownBy W9 (some R)) := LO9.out.grown
        obtain ⟨_, _, ea, hcA, _⟩ := LA.out.form
        obtain ⟨rfl, rfl⟩ : aA = _ ∧ cA = _ := by simpa using ea
        clear ea
        have HL9 := Lib.hid hL9.out
        clear hr9 hG9 hL9 hA9 hlit
        go_wp2
        go_ret3
        exact ⟨_, _, _, _, _, _, _, _, _, rfl, LO9.out.rowIn NO.out (by omega), ⟨LA9.out, by omega, hcA, NA.out⟩, HL9.out.rowIn NA.out (by omega), below_reader B1.out G9.out hR⟩
      · have b2 : (q == 2) = false := beq_eq_false_iff_ne.2 q2
        go_wp2_with fail
        refine (l5Near_any _ _ _ _ _ _ _ _ _ R3.out (by omega) hm LO.out.pts.1 (by omega) NO.out).mono ?_
        rintro e w4 ⟨aA, cA, pA, q4, rfl, hl4, n4, m4, r4, o4⟩
        have G4 : Hid (w1.grownBy w4 (some R)) := G3.out.trans hl4.grown
        have LO := Lib.hid (LO.out.read hl4.grown)
        have LA := Lib.hid hl4
        have NA := Lib.hid m4
        have R4 := Lib.hid r4
        clear hl4 m4 r4
        go_wp2_with fail
        refine (l5Near_any _ _ _ _ _ _ _ _ _ R4.out (by omega) hm LO.out.pts.1 (by omega) NO.out).mono ?_
        rintro e w5 ⟨aB, cB, pB, q5, rfl, hl5, n5, m5, r5, o5⟩
        have G5 : Hid (w1.grownBy w5 (some R)) := G4.out.trans hl5.grown
        have LO := Lib.hid (LO.out.read hl5.grown)
        have LA := Lib.hid (LA.out.read hl5.grown)
        have LB := Lib.hid hl5
        have NB := Lib.hid m5
        have R5 := Lib.hid r5
        clear hl5 m5 r5
        go_wp2
        go_ret3
        exact ⟨_, _, _, _, _, _, _, _, _, rfl, LO.out.rowIn NO.out (by omega), LA.out.rowIn NA.out (by omega), LB.out.rowIn NB.out (by omega), below_reader B1.out G5.out hR⟩
end Go.Proofs.Ytaefibefagbheaa
