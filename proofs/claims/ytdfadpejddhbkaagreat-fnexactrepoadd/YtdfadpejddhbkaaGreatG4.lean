/- Proved here: the functions that hold two versions, and two lists of versions, against each other answer whether they are the same in all parts; rows of at most 1,048,576. Proved here: the size, the copy and the comparison of versions and branches answer as they should; lists of at most 1,048,576. Proved here: the size of a room of versions is not less than all its parts together; lists of at most 1,048,576. Proved here: the function that marks a room of versions turns nothing but the room's own memory, and its marks are few; rooms of at most 1,048,576 parts together. Proved here: a room of versions is copied into memory that lies part by part, and its marks turn nothing but that; rooms of at most 1,048,576 parts together. Proved here: the model's look for a name among things answers the place of the first, or -1; lists of at most 1,048,576 things. Proved here: the model's copy of a thing ends whatever its lists hold, and holds the same points; at most 1,048,576 points and tags. -/
import Derived.Test.YtdfadpejddhbkaaGreatG2
import Derived.Test.YtdfadpejddhbkaaGreatWSheetEq
import Derived.Test.YtdfadpejddhbkaaGreatG3
import Derived.StillTailTactics
import Derived.Test.YtdfadpejddhbkaaGreatG1
import Derived.Test.YtdfadpejddhbkaaGreatWSheetOk
namespace Go.Proofs.YtdfadpejddhbkaaGreat
set_option linter.unusedVariables false
open Go.ChangeShapes Go.WideShapes Go.ChangeAt Go.RowKit

instance decFt : DecidableEq Ft := instDecidableEqProd
instance decFsB : DecidableEq (List Ft × ByteArray) := instDecidableEqProd
instance decCm : DecidableEq Cm := instDecidableEqProd

/-- two versions are one -/
def cmEq (c d : Cm) : Bool := decide (c = d)
theorem cmEq_iff {c d : Cm} : cmEq c d = true ↔ c = d := by simp [cmEq]
theorem cmEq_no {c d : Cm} (h : ¬ c = d) : cmEq c d = false := by simp [cmEq, h]

/-- two lists of versions are one -/
def cmsEq (cs ds : List Cm) : Bool := decide (cs = ds)
theorem cmsEq_of {cs ds : List Cm} (hl : cs.length = ds.length) (h : ∀ j, j < cs.length → mg cs j = mg ds j) : cmsEq cs ds = true := by
  unfold cmsEq
  rw [decide_eq_true_iff]
  refine List.ext_getElem hl fun i h1 h2 => ?_
  have := h i h1
  rwa [mg_get h1, mg_get h2] at this
theorem cmsEq_ne {cs ds : List Cm} {j : Nat} (h : ¬ mg cs j = mg ds j) : cmsEq cs ds = false := by
  unfold cmsEq
  rw [decide_eq_false_iff_not]
  rintro rfl
  exact h rfl
theorem cmsEq_len {cs ds : List Cm} (h : cs.length ≠ ds.length) : cmsEq cs ds = false := by
  unfold cmsEq
  rw [decide_eq_false_iff_not]
  rintro rfl
  exact h rfl

set_option maxRecDepth 100000 in
set_option maxHeartbeats 4000000 in
theorem eqCommit_any (c d : Cm) (ua sa ua' sa' : Option Addr) (uc sc uc' sc' : Nat) (w : World) (hi : IntsAt w ua c.1) (hf : FeatsAt w sa c.2.1) (hi' : IntsAt w ua' d.1) (hf' : FeatsAt w sa' d.2.1) (hl : CmLen c 1048576) (hl' : CmLen d 1048576) :
    Calls Tryz.prog 146 #[.agg #[.slice ua c.1.length uc, .slice sa c.2.1.length sc, .string c.2.2], .agg #[.slice ua' d.1.length uc', .slice sa' d.2.1.length sc', .string d.2.2]] w fun e w' => e = .returned (.bool (cmEq c d)) ∧ Below w.heap.size w w' := by
  obtain ⟨l1, l2, l3, l4⟩ := hl
  obtain ⟨m1, m2, m3, m4⟩ := hl'
  have HI := Lib.hid hi
  have HI' := Lib.hid hi'
  have HF := Lib.hid hf
  have HF' := Lib.hid hf'
  have L3 := Lib.hid l3
  have M3 := Lib.hid m3
  clear hi hi' hf hf' l3 m3
  have B0 : Hid (∀ o o', Below w.heap.size w ((w.alloc o).alloc o')) := fun o o' => ((Below.refl _ _).alloc (Nat.le_refl _) _).alloc (by simp) _
  have e3 := bytes_beq c.2.2 d.2.2
  go_enter Tryz.func146, Tryz.ntmps146
  go_wp2_with fail
  refine (eqIntS_any _ _ _ _ _ _ _ (HI.out.below (B0.out _ _)) (HI'.out.below (B0.out _ _)) (by omega) (by omega)).mono ?_
  rintro e w1 ⟨rfl, nq, rfl⟩
  by_cases q1 : c.1 = d.1
  · rw [show isEq c.1 d.1 = true by simp [isEq, q1]]
    have Q1 := Lib.hid q1
    clear q1
    go_wp2_with fail
    refine (eqFeatS_any _ _ _ _ _ _ _ (HF.out.below (below_drewN (B0.out _ _) _)) (HF'.out.below (below_drewN (B0.out _ _) _)) (by omega) (by omega) L3.out M3.out).mono ?_
    rintro e w2 ⟨rfl, hb1⟩
    have c2 := cell_later hb1 (a := ⟨w.heap.size, 2, none⟩) (v := .string c.2.2) (by simp [go_sem])
    have d2 := cell_later hb1 (a := ⟨w.heap.size + 1, 2, none⟩) (v := .string d.2.2) (by simp [go_sem])
    have B1 : Hid (Below w.heap.size w w2) := (below_drewN (B0.out _ _) _).trans (hb1.mono (by simp; omega))
    clear hb1
    by_cases q2 : c.2.1 = d.2.1
    · rw [show fsEq c.2.1 d.2.1 = true by simp [fsEq, q2]]
      have Q2 := Lib.hid q2
      clear q2
      by_cases q3 : c.2.2 = d.2.2
      · rw [decide_eq_true q3] at e3
        have HE : Hid (cmEq c d = true) := by rw [Hid, cmEq_iff]; exact Prod.ext Q1.out (Prod.ext Q2.out q3)
        clear q3
        go_wp2
        go_ret
        exact ⟨by rw [HE.out]; rfl, B1.out⟩
      · rw [decide_eq_false q3] at e3
        have HE : Hid (cmEq c d = false) := cmEq_no fun e => q3 (by rw [e])
        clear q3
        go_wp2
        go_ret
        exact ⟨by rw [HE.out]; rfl, B1.out⟩
    · rw [show fsEq c.2.1 d.2.1 = false by simp [fsEq, q2]]
      have HE : Hid (cmEq c d = false) := cmEq_no fun e => q2 (by rw [e])
      clear q2 e3
      go_wp2
      go_ret
      exact ⟨by rw [HE.out]; rfl, B1.out⟩
  · rw [show isEq c.1 d.1 = false by simp [isEq, q1]]
    have HE : Hid (cmEq c d = false) := cmEq_no fun e => q1 (by rw [e])
    clear q1 e3
    go_wp2
    go_ret
    exact ⟨by rw [HE.out]; rfl, below_drewN (B0.out _ _) _⟩

set_option maxRecDepth 100000 in
set_option maxHeartbeats 4000000 in
theorem l7Same_any (c d : Cm) (ua sa ua' sa' : Option Addr) (uc sc uc' sc' : Nat) (w : World) (hi : IntsAt w ua c.1) (hf : FeatsAt w sa c.2.1) (hi' : IntsAt w ua' d.1) (hf' : FeatsAt w sa' d.2.1) (hl : CmLen c 1048576) (hl' : CmLen d 1048576) :
    Calls Tryz.prog 133 #[.agg #[.slice ua c.1.length uc, .slice sa c.2.1.length sc, .string c.2.2], .agg #[.slice ua' d.1.length uc', .slice sa' d.2.1.length sc', .string d.2.2]] w fun e w' => e = .returned (.bool (cmEq c d)) ∧ Below w.heap.size w w' := by
  obtain ⟨l1, l2, l3, l4⟩ := hl
  obtain ⟨m1, m2, m3, m4⟩ := hl'
  have HI := Lib.hid hi
  have HI' := Lib.hid hi'
  have HF := Lib.hid hf
  have HF' := Lib.hid hf'
  have L3 := Lib.hid l3
  have M3 := Lib.hid m3
  clear hi hi' hf hf' l3 m3
  have B0 : Hid (∀ o o', Below w.heap.size w ((w.alloc o).alloc o')) := fun o o' => ((Below.refl _ _).alloc (Nat.le_refl _) _).alloc (by simp) _
  have e3 := bytes_beq c.2.2 d.2.2
  go_enter Tryz.func133, Tryz.ntmps133
  go_wp2_with fail
  refine (l7Ints_any _ _ _ _ _ _ _ (HI.out.below (B0.out _ _)) (HI'.out.below (B0.out _ _)) (by omega) (by omega)).mono ?_
  rintro e w1 ⟨rfl, nq, rfl⟩
  by_cases q1 : c.1 = d.1
  · rw [show isEq c.1 d.1 = true by simp [isEq, q1]]
    have Q1 := Lib.hid q1
    clear q1
    go_wp2_with fail
    refine (specSheetSame_any _ _ _ _ _ _ _ (HF.out.below (below_drewN (B0.out _ _) _)) (HF'.out.below (below_drewN (B0.out _ _) _)) (by omega) (by omega) L3.out M3.out).mono ?_
    rintro e w2 ⟨rfl, hb1⟩
    have c2 := cell_later hb1 (a := ⟨w.heap.size, 2, none⟩) (v := .string c.2.2) (by simp [go_sem])
    have d2 := cell_later hb1 (a := ⟨w.heap.size + 1, 2, none⟩) (v := .string d.2.2) (by simp [go_sem])
    have B1 : Hid (Below w.heap.size w w2) := (below_drewN (B0.out _ _) _).trans (hb1.mono (by simp; omega))
    clear hb1
    by_cases q2 : c.2.1 = d.2.1
    · rw [show fsEq c.2.1 d.2.1 = true by simp [fsEq, q2]]
      have Q2 := Lib.hid q2
      clear q2
      by_cases q3 : c.2.2 = d.2.2
      · rw [decide_eq_true q3] at e3
        have HE : Hid (cmEq c d = true) := by rw [Hid, cmEq_iff]; exact Prod.ext Q1.out (Prod.ext Q2.out q3)
        clear q3
        go_wp2
        go_ret
        exact ⟨by rw [HE.out]; rfl, B1.out⟩
      · rw [decide_eq_false q3] at e3
        have HE : Hid (cmEq c d = false) := cmEq_no fun e => q3 (by rw [e])
        clear q3
        go_wp2
        go_ret
        exact ⟨by rw [HE.out]; rfl, B1.out⟩
    · rw [show fsEq c.2.1 d.2.1 = false by simp [fsEq, q2]]
      have HE : Hid (cmEq c d = false) := cmEq_no fun e => q2 (by rw [e])
      clear q2 e3
      go_wp2
      go_ret
      exact ⟨by rw [HE.out]; rfl, B1.out⟩
  · rw [show isEq c.1 d.1 = false by simp [isEq, q1]]
    have HE : Hid (cmEq c d = false) := cmEq_no fun e => q1 (by rw [e])
    clear q1 e3
    go_wp2
    go_ret
    exact ⟨by rw [HE.out]; rfl, below_drewN (B0.out _ _) _⟩

set_option maxRecDepth 100000 in
set_option maxHeartbeats 4000000 in
theorem commitSame_any (c d : Cm) (ua sa ua' sa' : Option Addr) (uc sc uc' sc' : Nat) (w : World) (hi : IntsAt w ua c.1) (hf : FeatsAt w sa c.2.1) (hi' : IntsAt w ua' d.1) (hf' : FeatsAt w sa' d.2.1) (hl : CmLen c 1048576) (hl' : CmLen d 1048576) :
    Calls Tryz.prog 179 #[.agg #[.slice ua c.1.length uc, .slice sa c.2.1.length sc, .string c.2.2], .agg #[.slice ua' d.1.length uc', .slice sa' d.2.1.length sc', .string d.2.2]] w fun e w' => e = .returned (.bool (cmEq c d)) ∧ Below w.heap.size w w' := by
  obtain ⟨l1, l2, l3, l4⟩ := hl
  obtain ⟨m1, m2, m3, m4⟩ := hl'
  have HI := Lib.hid hi
  have HI' := Lib.hid hi'
  have HF := Lib.hid hf
  have HF' := Lib.hid hf'
  have L3 := Lib.hid l3
  have M3 := Lib.hid m3
  clear hi hi' hf hf' l3 m3
  have B0 : Hid (∀ o o', Below w.heap.size w ((w.alloc o).alloc o')) := fun o o' => ((Below.refl _ _).alloc (Nat.le_refl _) _).alloc (by simp) _
  have e3 := bytes_beq c.2.2 d.2.2
  go_enter Tryz.func179, Tryz.ntmps179
  go_wp2_with fail
  refine (slicesEqualI_any _ _ _ _ _ _ _ (HI.out.below (B0.out _ _)) (HI'.out.below (B0.out _ _)) (by omega) (by omega)).mono ?_
  rintro e w1 ⟨rfl, nq, rfl⟩
  by_cases q1 : c.1 = d.1
  · rw [show isEq c.1 d.1 = true by simp [isEq, q1]]
    have Q1 := Lib.hid q1
    clear q1
    go_wp2_with fail
    refine (implSheetSame_any _ _ _ _ _ _ _ (HF.out.below (below_drewN (B0.out _ _) _)) (HF'.out.below (below_drewN (B0.out _ _) _)) (by omega) (by omega) L3.out M3.out).mono ?_
    rintro e w2 ⟨rfl, hb1⟩
    have c2 := cell_later hb1 (a := ⟨w.heap.size, 2, none⟩) (v := .string c.2.2) (by simp [go_sem])
    have d2 := cell_later hb1 (a := ⟨w.heap.size + 1, 2, none⟩) (v := .string d.2.2) (by simp [go_sem])
    have B1 : Hid (Below w.heap.size w w2) := (below_drewN (B0.out _ _) _).trans (hb1.mono (by simp; omega))
    clear hb1
    by_cases q2 : c.2.1 = d.2.1
    · rw [show fsEq c.2.1 d.2.1 = true by simp [fsEq, q2]]
      have Q2 := Lib.hid q2
      clear q2
      by_cases q3 : c.2.2 = d.2.2
      · rw [decide_eq_true q3] at e3
        have HE : Hid (cmEq c d = true) := by rw [Hid, cmEq_iff]; exact Prod.ext Q1.out (Prod.ext Q2.out q3)
        clear q3
        go_wp2
        go_ret
        exact ⟨by rw [HE.out]; rfl, B1.out⟩
      · rw [decide_eq_false q3] at e3
        have HE : Hid (cmEq c d = false) := cmEq_no fun e => q3 (by rw [e])
        clear q3
        go_wp2
        go_ret
        exact ⟨by rw [HE.out]; rfl, B1.out⟩
    · rw [show fsEq c.2.1 d.2.1 = false by simp [fsEq, q2]]
      have HE : Hid (cmEq c d = false) := cmEq_no fun e => q2 (by rw [e])
      clear q2 e3
      go_wp2
      go_ret
      exact ⟨by rw [HE.out]; rfl, B1.out⟩
  · rw [show isEq c.1 d.1 = false by simp [isEq, q1]]
    have HE : Hid (cmEq c d = false) := cmEq_no fun e => q1 (by rw [e])
    clear q1 e3
    go_wp2
    go_ret
    exact ⟨by rw [HE.out]; rfl, below_drewN (B0.out _ _) _⟩

set_option maxRecDepth 100000 in
set_option maxHeartbeats 4000000 in
theorem eqCommitS_any (a a' : Option Addr) (cap cap' : Nat) (cs ds : List Cm) (w : World) (hp : CommitsAt w a cs) (hq : CommitsAt w a' ds) (hl : cs.length ≤ 1048576) (hl' : ds.length ≤ 1048576) (hs : CmsLen cs 1048576) (hs' : CmsLen ds 1048576) :
    Calls Tryz.prog 101 #[.slice a cs.length cap, .slice a' ds.length cap'] w fun e w' => e = .returned (.bool (cmsEq cs ds)) ∧ Below w.heap.size w w' := by
  have HP := Lib.hid hp
  have HQ := Lib.hid hq
  have HS := Lib.hid hs
  have HS' := Lib.hid hs'
  clear hp hq hs hs'
  by_cases he : cs.length = ds.length
  · have HE := Lib.hid he
    rw [← he]
    have h1 : ((cs.length : Int) != (cs.length : Int)) = false := by simp
    clear he
    go_enter Tryz.func101, Tryz.ntmps101
    go_wp2
    go_loopw [5] (fun i wr => ∃ k : Nat, k ≤ cs.length ∧ i = .int .i64 k ∧ Below w.heap.size w wr ∧ ∀ j, j < k → mg cs j = mg ds j) (fun i _ => cs.length - (intOf i).toNat)
    case atStart => exact ⟨0, Nat.zero_le _, rfl, Below.refl _ _, fun j h => absurd h (Nat.not_lt_zero _)⟩
    case round =>
      obtain ⟨k, hk, rfl, hbel, hall⟩ := hrel
      have HA := Lib.hid hall
      have HB := Lib.hid hbel
      have hsz := hbel.size
      clear hall
      by_cases hlt : k < cs.length
      · obtain ⟨b, off, ua, uc, sa, sc, rfl, hx⟩ := HP.out k hlt
        obtain ⟨b', off', ua', uc', sa', sc', rfl, hx'⟩ := HQ.out k (by have := HE.out; omega)
        obtain ⟨zb, c0, c1, c2, hii, hff⟩ := hx.below hbel
        obtain ⟨zb', d0, d1, d2, hii', hff'⟩ := hx'.below hbel
        have D1 : Hid (IntsAt wr.drew ua (mg cs k).1) := hii.below (Below.refl _ _).drew
        have D2 : Hid (FeatsAt wr.drew sa (mg cs k).2.1) := hff.below (Below.refl _ _).drew
        have D3 : Hid (IntsAt wr.drew ua' (mg ds k).1) := hii'.below (Below.refl _ _).drew
        have D4 : Hid (FeatsAt wr.drew sa' (mg ds k).2.1) := hff'.below (Below.refl _ _).drew
        clear hbel hii hff hii' hff' hx hx'
        have A0 : Hid (∀ o o', Below wr.heap.size wr ((wr.alloc o).alloc o')) := fun o o' => ((Below.refl _ _).alloc (Nat.le_refl _) _).alloc (by simp) _
        by_cases hs : mg cs k = mg ds k
        · have hce : cmEq (mg cs k) (mg ds k) = true := cmEq_iff.2 hs
          have HG := Lib.hid hs
          clear hs
          go_wp2
          go_still_tail 8, (by kernel_rfl)
          go_wp2_with fail
          refine (eqCommit_any _ _ _ _ _ _ _ _ _ _ _ D1.out D2.out D3.out D4.out (HS.out k hlt) (HS'.out k (by have := HE.out; omega))).mono ?_
          rintro e w1 ⟨rfl, hb2⟩
          have B2 : Hid (Below w.heap.size w w1) := HB.out.drew.trans (hb2.mono hsz)
          clear hb2
          rw [hce]
          go_wp2
          go_roundw
          case rel => exact ⟨k + 1, by omega, by go_num, B2.out, fun j hj => by by_cases e : j = k; (subst e; exact HG.out); exact HA.out j (by omega)⟩
          case measure => simp [intOf]; omega
        · have hce : cmEq (mg cs k) (mg ds k) = false := cmEq_no hs
          have HG := Lib.hid (cmsEq_ne hs)
          clear hs
          go_wp2
          go_still_tail 8, (by kernel_rfl)
          go_wp2_with fail
          refine (eqCommit_any _ _ _ _ _ _ _ _ _ _ _ D1.out D2.out D3.out D4.out (HS.out k hlt) (HS'.out k (by have := HE.out; omega))).mono ?_
          rintro e w1 ⟨rfl, hb2⟩
          have B2 : Hid (Below w.heap.size w w1) := HB.out.drew.trans (hb2.mono hsz)
          clear hb2
          rw [hce]
          go_wp2
          go_ret
          exact ⟨by rw [HG.out]; rfl, B2.out⟩
      · obtain rfl : k = cs.length := by omega
        have HT := Lib.hid (cmsEq_of HE.out HA.out)
        clear hbel
        go_wp2
        go_ret
        exact ⟨by rw [HT.out]; rfl, HB.out⟩
  · have h1 : ((cs.length : Int) != (ds.length : Int)) = true := by simp; omega
    have HT := Lib.hid (cmsEq_len he)
    clear he
    go_enter Tryz.func101, Tryz.ntmps101
    go_wp2
    go_ret
    exact ⟨by rw [HT.out]; rfl, Below.refl _ _⟩

end Go.Proofs.YtdfadpejddhbkaaGreat

namespace Go.Proofs.YtdfadpejddhbkaaGreat
set_option linter.unusedVariables false
open Go.ChangeShapes Go.WideShapes Go.ChangeAt Go.RowKit

/-- no part of versions and branches is longer than that -/
structure RpLen (cs : List Cm) (hs : List Hd) (m : Int) : Prop where
  cl : (cs.length : Int) ≤ m
  hl : (hs.length : Int) ≤ m
  cms : CmsLen cs m
  hds : HeadsLen hs m

def SzRepo (cs : List Cm) (hs : List Hd) (left r : Int) : Prop := r = -1 ∨ (0 ≤ r ∧ r ≤ left ∧ RpLen cs hs left)

set_option maxRecDepth 100000 in
set_option maxHeartbeats 2000000 in
theorem szRepo_any (a b : Option Addr) (ca cb : Nat) (cs : List Cm) (hs : List Hd) (left : Int) (w : World) (hc : CommitsIn w a cs) (hh : HeadsIn w b hs) (h0 : 0 ≤ left) (h1 : left ≤ 1048576) :
    Calls Tryz.prog 38 #[.agg #[.slice a cs.length ca, .slice b hs.length cb], .int .i64 left] w fun e w' => (∃ r, e = .returned (.int .i64 r) ∧ SzRepo cs hs left r) ∧ Below w.heap.size w w' := by
  have HC := Lib.hid hc
  have HH := Lib.hid hh
  clear hc hh
  have A1 : Hid (∀ o, Below w.heap.size w (w.alloc o)) := fun o => (Below.refl _ _).alloc (Nat.le_refl _) _
  go_enter Tryz.func38, Tryz.ntmps38
  go_wp2_with fail
  refine (szCommitS_any _ _ _ _ _ (HC.out.below (A1.out _)) h0 h1).mono ?_
  rintro e w1 ⟨⟨r, rfl, hs'⟩, hb1⟩
  have c1 := cell_later hb1 (a := ⟨w.heap.size, 1, none⟩) (v := .slice b hs.length cb) (by simp [go_sem])
  have B1 : Hid (Below w.heap.size w w1) := (A1.out _).trans (hb1.mono (by simp))
  clear hb1
  rcases hs' with rfl | ⟨q1, q2, q3, q4⟩
  · go_wp2
    go_ret
    exact ⟨⟨_, rfl, .inl rfl⟩, B1.out⟩
  have Q4 := Lib.hid q4
  clear q4
  go_wp2_with fail
  refine (szHeadS_any _ _ _ _ _ (HH.out.below B1.out).reads HH.out.len HH.out.lens q1 (by omega)).mono ?_
  rintro e w2 ⟨⟨r', rfl, hs'⟩, hb2⟩
  have B2 : Hid (Below w.heap.size w w2) := B1.out.trans (hb2.mono B1.out.size)
  clear hb2 c1
  rcases hs' with rfl | ⟨p1, p2, p3, p4⟩
  · go_wp2
    go_ret
    exact ⟨⟨_, rfl, .inl rfl⟩, B2.out⟩
  have P4 := Lib.hid p4
  clear p4
  go_wp2
  go_ret
  exact ⟨⟨_, rfl, .inr ⟨p1, by omega, by omega, by omega, Q4.out, P4.out.mono (by omega)⟩⟩, B2.out⟩

/-- versions and branches that can be read -/
structure RepoAt (w : World) (a b : Option Addr) (cs : List Cm) (hs : List Hd) : Prop where
  cms : CommitsAt w a cs
  hds : HeadsAt w b hs

theorem RepoAt.below {w w' : World} {a b : Option Addr} {cs : List Cm} {hs : List Hd} (h : RepoAt w a b cs hs) (hb : Below w.heap.size w w') : RepoAt w' a b cs hs := ⟨h.cms.below hb, h.hds.below hb⟩

/-- what 'toRepo' answers -/
def NewRepo (w : World) (cs : List Cm) (hs : List Hd) (e : Ending) (w' : World) : Prop :=
  ∃ a ca b cb, e = .returned (.agg #[.slice a cs.length ca, .slice b hs.length cb]) ∧ cs.length ≤ ca ∧ hs.length ≤ cb ∧ RepoAt w' a b cs hs ∧ Below w.heap.size w w'

set_option maxRecDepth 100000 in
set_option maxHeartbeats 4000000 in
theorem toRepo_any (a b : Option Addr) (ca cb : Nat) (cs : List Cm) (hs : List Hd) (w : World) (hc : CommitsAt w a cs) (hh : HeadsAt w b hs) (hl : RpLen cs hs 1048576) :
    Calls Tryz.prog 41 #[.agg #[.slice a cs.length ca, .slice b hs.length cb]] w (NewRepo w cs hs) := by
  obtain ⟨l1, l2, l3, l4⟩ := hl
  have HC := Lib.hid hc
  have HH := Lib.hid hh
  have L3 := Lib.hid l3
  clear hc hh l3 l4
  have A3 : Hid (∀ o o' o'', Below w.heap.size w (((w.alloc o).alloc o').alloc o'')) := fun o o' o'' => (((Below.refl _ _).alloc (Nat.le_refl _) _).alloc (by simp) _).alloc (by simp; omega) _
  go_enter Tryz.func41, Tryz.ntmps41
  go_wp2_with fail
  refine (toCommitS_any _ _ _ _ (HC.out.below (A3.out _ _ _)) (by omega) L3.out).mono ?_
  rintro e w1 ⟨a', ca', rfl, hcap, hU, hbel⟩
  have B1 : Hid (Below w.heap.size w w1) := (A3.out _ _ _).trans (hbel.mono (by simp; omega))
  obtain ⟨hc, hf⟩ := bcell hbel
  have hz := hbel.size
  simp only [World.size_alloc] at hz hU
  have U1 := Lib.hid hU
  clear hU hbel
  have d0 : w1.cell? ⟨w.heap.size + 1 + 1, 0, none⟩ = some (.slice none 0 0) := by rw [hc _ _ (by simp)]; simp [go_sem]
  have d1 : w1.cell? ⟨w.heap.size + 1 + 1, 1, none⟩ = some (.slice none 0 0) := by rw [hc _ _ (by simp)]; simp [go_sem]
  have f0 : w1.frozen? ⟨w.heap.size + 1 + 1, 0, none⟩ = false := by rw [hf _ _ (by simp)]; simp [go_sem]
  have f1 : w1.frozen? ⟨w.heap.size + 1 + 1, 1, none⟩ = false := by rw [hf _ _ (by simp)]; simp [go_sem]
  have g0 : w1.cell? ⟨w.heap.size + 1, 0, none⟩ = some (.slice none 0 0) := by rw [hc _ _ (by simp)]; simp [go_sem]
  have g1 : w1.cell? ⟨w.heap.size + 1, 1, none⟩ = some (.slice none 0 0) := by rw [hc _ _ (by simp)]; simp [go_sem]
  have k0 : w1.frozen? ⟨w.heap.size + 1, 0, none⟩ = false := by rw [hf _ _ (by simp)]; simp [go_sem]
  have k1 : w1.frozen? ⟨w.heap.size + 1, 1, none⟩ = false := by rw [hf _ _ (by simp)]; simp [go_sem]
  have a1 : w1.cell? ⟨w.heap.size, 1, none⟩ = some (.slice b hs.length cb) := by rw [hc _ _ (by simp; omega)]; simp [go_sem]
  clear hc hf
  go_wp2_with fail
  have B2 : Hid (Below w.heap.size w (w1.setCell ⟨w.heap.size + 1 + 1, 0, none⟩ (.slice a' cs.length ca'))) := B1.out.setCell (by simp; omega) _
  refine (toHeadS_any _ _ _ _ (HH.out.below B2.out) (by omega)).mono ?_
  rintro e w2 ⟨b', rfl, hrow2, hb2, hbel2⟩
  have U2 : Hid (CommitsUp w2 (w.heap.size + 1 + 1 + 1) a' cs) := U1.out.step (((Keeps.refl _ _).setCell (by simp) _).trans (Keeps.of hbel2))
  have hb2' : w.heap.size + 1 + 1 + 1 ≤ b' := by simp [World.setCell] at hb2; omega
  have V2 := Lib.hid hrow2
  have B3 : Hid (Below w.heap.size w w2) := B2.out.trans (hbel2.mono B2.out.size)
  have cc : ∀ (b o : Nat), b < w1.heap.size → w2.cell? ⟨b, o, none⟩ = _ := fun b o hb => hbel2.cell (p := ⟨b, o, none⟩) (by simpa [World.setCell] using hb)
  have ff : ∀ (b o : Nat), b < w1.heap.size → w2.frozen? ⟨b, o, none⟩ = _ := fun b o hb => hbel2.frozen (p := ⟨b, o, none⟩) (by simpa [World.setCell] using hb)
  replace d0 : w2.cell? ⟨w.heap.size + 1 + 1, 0, none⟩ = some (.slice a' cs.length ca') := by rw [cc _ _ (by omega)]; simp [go_sem, d0]
  replace d1 : w2.cell? ⟨w.heap.size + 1 + 1, 1, none⟩ = some (.slice none 0 0) := by rw [cc _ _ (by omega)]; simp [go_sem, d1]
  replace f1 : w2.frozen? ⟨w.heap.size + 1 + 1, 1, none⟩ = false := by rw [ff _ _ (by omega)]; simp [go_sem, f1]
  replace g0 : w2.cell? ⟨w.heap.size + 1, 0, none⟩ = some (.slice none 0 0) := by rw [cc _ _ (by omega)]; simp [go_sem, g0]
  replace g1 : w2.cell? ⟨w.heap.size + 1, 1, none⟩ = some (.slice none 0 0) := by rw [cc _ _ (by omega)]; simp [go_sem, g1]
  replace k0 : w2.frozen? ⟨w.heap.size + 1, 0, none⟩ = false := by rw [ff _ _ (by omega)]; simp [go_sem, k0]
  replace k1 : w2.frozen? ⟨w.heap.size + 1, 1, none⟩ = false := by rw [ff _ _ (by omega)]; simp [go_sem, k1]
  clear hbel2 hrow2 hb2 cc ff f0 a1
  go_wp2
  refine bodyPost_ret (v := .agg #[.slice a' cs.length ca', .slice (some ⟨b', 0, none⟩) hs.length hs.length]) (by simp [results, Tryz.results41, go_sem, g0, g1]) rfl ?_
  refine ⟨_, _, _, _, rfl, hcap, Nat.le_refl _, ⟨?_, ?_⟩, ?_⟩
  · exact (U2.out.step ((((Keeps.refl _ _).setCell (by simp) _).setCell (by simp) _).setCell (by simp) _)).at
  · exact HeadsAt.of_row (((V2.out.setOther (by simp; omega) _).setOther (by simp; omega) _).setOther (by simp; omega) _)
  · exact ((B3.out.setCell (by simp; omega) _).setCell (by simp) _).setCell (by simp) _

/-- the box of a room: two cells -/
structure Box2 (w : World) (b : Nat) (v0 v1 : Value) : Prop where
  lt : b < w.heap.size
  c0 : w.cell? ⟨b, 0, none⟩ = some v0
  c1 : w.cell? ⟨b, 1, none⟩ = some v1
theorem Box2.later {w w' : World} {b : Nat} {v0 v1 : Value} (h : Box2 w b v0 v1) (hb : Below w.heap.size w w') : Box2 w' b v0 v1 := ⟨Nat.lt_of_lt_of_le h.lt hb.size, cell_later hb h.c0, cell_later hb h.c1⟩
theorem Box2.new (w : World) (v0 v1 : Value) (t : TypeId) : Box2 (w.alloc (.cells #[v0, v1] t)) w.heap.size v0 v1 := ⟨by simp, by simp [go_sem], by simp [go_sem]⟩

/-- two rooms of versions are one -/
def rpEq (cs ds : List Cm) (hs gs : List Hd) : Bool := cmsEq cs ds && hdsEq hs gs

set_option maxRecDepth 100000 in
set_option maxHeartbeats 2000000 in
theorem eqRepo_any (a b a' b' : Option Addr) (ca cb ca' cb' : Nat) (cs ds : List Cm) (hs gs : List Hd) (w : World) (hr : RepoAt w a b cs hs) (hr' : RepoAt w a' b' ds gs) (hl : RpLen cs hs 1048576) (hl' : RpLen ds gs 1048576) :
    Calls Tryz.prog 44 #[.agg #[.slice a cs.length ca, .slice b hs.length cb], .agg #[.slice a' ds.length ca', .slice b' gs.length cb']] w fun e w' => e = .returned (.bool (rpEq cs ds hs gs)) ∧ Below w.heap.size w w' := by
  obtain ⟨l1, l2, l3, l4⟩ := hl
  obtain ⟨m1, m2, m3, m4⟩ := hl'
  have HR := Lib.hid hr
  have HR' := Lib.hid hr'
  have L3 := Lib.hid l3
  have M3 := Lib.hid m3
  clear hr hr' l3 m3 l4 m4
  have B0 : Hid (∀ o o', Below w.heap.size w ((w.alloc o).alloc o')) := fun o o' => ((Below.refl _ _).alloc (Nat.le_refl _) _).alloc (by simp) _
  go_enter Tryz.func44, Tryz.ntmps44
  go_wp2_with fail
  refine (eqCommitS_any _ _ _ _ _ _ _ (HR.out.cms.below (B0.out _ _)) (HR'.out.cms.below (B0.out _ _)) (by omega) (by omega) L3.out M3.out).mono ?_
  rintro e w1 ⟨rfl, hb1⟩
  have c1 := cell_later hb1 (a := ⟨w.heap.size, 1, none⟩) (v := .slice b hs.length cb) (by simp [go_sem])
  have d1 := cell_later hb1 (a := ⟨w.heap.size + 1, 1, none⟩) (v := .slice b' gs.length cb') (by simp [go_sem])
  have B1 : Hid (Below w.heap.size w w1) := (B0.out _ _).trans (hb1.mono (by simp; omega))
  clear hb1
  by_cases q1 : cmsEq cs ds = true
  · rw [q1]
    have Q1 := Lib.hid q1
    clear q1
    go_wp2_with fail
    refine (eqHeadS_any _ _ _ _ _ _ _ (HR.out.hds.below B1.out) (HR'.out.hds.below B1.out) (by omega) (by omega)).mono ?_
    rintro e w2 ⟨rfl, hb2⟩
    have B2 : Hid (Below w.heap.size w w2) := B1.out.trans (hb2.mono B1.out.size)
    clear hb2 c1 d1
    by_cases q2 : hdsEq hs gs = true
    · rw [q2]
      have HE : Hid (rpEq cs ds hs gs = true) := by rw [Hid]; simp [rpEq, Q1.out, q2]
      clear q2
      go_wp2
      go_ret
      exact ⟨by rw [HE.out]; rfl, B2.out⟩
    · rw [Bool.not_eq_true] at q2
      rw [q2]
      have HE : Hid (rpEq cs ds hs gs = false) := by rw [Hid]; simp [rpEq, q2]
      clear q2
      go_wp2
      go_ret
      exact ⟨by rw [HE.out]; rfl, B2.out⟩
  · rw [Bool.not_eq_true] at q1
    rw [q1]
    have HE : Hid (rpEq cs ds hs gs = false) := by rw [Hid]; simp [rpEq, q1]
    clear q1
    go_wp2
    go_ret
    exact ⟨by rw [HE.out]; rfl, B1.out⟩

theorem rpEq_refl (cs : List Cm) (hs : List Hd) : rpEq cs cs hs hs = true := by simp [rpEq, cmsEq, hdsEq]

end Go.Proofs.YtdfadpejddhbkaaGreat

namespace Go.Proofs.YtdfadpejddhbkaaGreat
set_option linter.unusedVariables false
open Go.ChangeShapes Go.WideShapes Go.ChangeAt Go.RowKit

/-- how much the first things of a list weigh -/
def wF (fs : List Ft) : Nat → Nat
  | 0 => 0
  | n + 1 => wF fs n + (1 + (fps fs n).length + (fts fs n).length)

/-- how much the first versions of a list weigh -/
def wC (cs : List Cm) : Nat → Nat
  | 0 => 0
  | n + 1 => wC cs n + (1 + (mg cs n).1.length + wF (mg cs n).2.1 (mg cs n).2.1.length)

theorem wF_len (fs : List Ft) : ∀ n, n ≤ wF fs n
  | 0 => Nat.le_refl _
  | n + 1 => by
    have := wF_len fs n
    show n + 1 ≤ wF fs n + _
    omega
theorem wC_len (cs : List Cm) : ∀ n, n ≤ wC cs n
  | 0 => Nat.le_refl _
  | n + 1 => by
    have := wC_len cs n
    show n + 1 ≤ wC cs n + _
    omega

def SumTags (ts : List Tg) (left : Int) (r : Int) : Prop := r = -1 ∨ (0 ≤ r ∧ r + ts.length ≤ left ∧ (ts.length : Int) ≤ left ∧ TagsLen ts left)
def SumFeat (id : ByteArray) (ps : List (Int × Int)) (ts : List Tg) (left r : Int) : Prop := r = -1 ∨ (0 ≤ r ∧ r + ((ps.length : Int) + ts.length) ≤ left ∧ (id.size : Int) ≤ left ∧ (ps.length : Int) ≤ left ∧ (ts.length : Int) ≤ left ∧ TagsLen ts left)
def SumFeats (fs : List Ft) (left : Int) (r : Int) : Prop := r = -1 ∨ (0 ≤ r ∧ r + (wF fs fs.length : Nat) ≤ left ∧ (fs.length : Int) ≤ left ∧ FeatsLen fs left)
def SumCm (c : Cm) (left r : Int) : Prop := r = -1 ∨ (0 ≤ r ∧ r + ((c.1.length : Int) + (wF c.2.1 c.2.1.length : Nat)) ≤ left ∧ CmLen c left)
def SumCms (cs : List Cm) (left : Int) (r : Int) : Prop := r = -1 ∨ (0 ≤ r ∧ r + (wC cs cs.length : Nat) ≤ left ∧ (cs.length : Int) ≤ left ∧ CmsLen cs left)
def SumHeads (hs : List Hd) (left : Int) (r : Int) : Prop := r = -1 ∨ (0 ≤ r ∧ r + hs.length ≤ left ∧ (hs.length : Int) ≤ left ∧ HeadsLen hs left)
def SumRepo (cs : List Cm) (hs : List Hd) (left r : Int) : Prop := r = -1 ∨ (0 ≤ r ∧ r + ((wC cs cs.length : Nat) + hs.length) ≤ left ∧ RpLen cs hs left)

set_option maxRecDepth 100000 in
set_option maxHeartbeats 2000000 in
theorem szTagS_sum (a : Option Addr) (cap : Nat) (ts : List Tg) (left : Int) (w : World) (hp : TagsAt w a ts) (hm : ts.length ≤ 9223372036854775807) (hl : TagsLen ts 9223372036854775807) (h0 : 0 ≤ left) (h1 : left ≤ 1048576) :
    Calls Tryz.prog 138 #[.slice a ts.length cap, .int .i64 left] w fun e w' => (∃ r, e = .returned (.int .i64 r) ∧ SumTags ts left r) ∧ Below w.heap.size w w' := by
  have HP := Lib.hid hp
  have HL := Lib.hid hl
  clear hp hl
  by_cases g1 : (ts.length : Int) ≤ left
  · go_enter Tryz.func138, Tryz.ntmps138
    go_wp2
    go_loopw [1, 5] (fun l i wr => ∃ (k : Nat) (r : Int), k ≤ ts.length ∧ i = .int .i64 k ∧ l = .int .i64 r ∧ 0 ≤ r ∧ r + (ts.length : Int) ≤ left ∧ Below w.heap.size w wr ∧ ∀ j, j < k → ((tk ts j).size : Int) ≤ left ∧ ((tv ts j).size : Int) ≤ left) (fun _ i _ => ts.length - (intOf i).toNat)
    case atStart => exact ⟨0, left - ts.length, Nat.zero_le _, rfl, by simp, by omega, by omega, Below.refl _ _, fun j h => absurd h (Nat.not_lt_zero _)⟩
    case round =>
      obtain ⟨k, r, hk, rfl, rfl, hr0, hr1, hbel, hall⟩ := hrel
      have HA := Lib.hid hall
      have HB := Lib.hid hbel
      have hsz := hbel.size
      clear hall
      by_cases hlt : k < ts.length
      · obtain ⟨b, off, rfl, hb, hc1, hc2⟩ := HP.out k hlt
        rw [← hbel.cell (p := ⟨b, _, none⟩) hb] at hc1 hc2
        clear hbel
        go_wp2_with fail
        refine (szTag_any _ _ _ _ hr0 (by omega) (by have := (HL.out k hlt).1; omega) (by have := (HL.out k hlt).2; omega)).mono ?_
        rintro e w1 ⟨⟨r', rfl, hs⟩, hb1⟩
        have HB1 := Lib.hid hb1
        clear hb1
        rcases hs with rfl | ⟨g2, g3, g4, g5⟩
        · go_wp2
          go_ret
          exact ⟨⟨_, rfl, .inl rfl⟩, HB.out.trans (HB1.out.mono hsz)⟩
        · go_wp2
          go_roundw
          case rel => exact ⟨k + 1, r', by omega, by go_num, rfl, g2, by omega, HB.out.trans (HB1.out.mono hsz), fun j hj => by by_cases e : j = k; (subst e; exact ⟨by omega, by omega⟩); exact HA.out j (by omega)⟩
          case measure => simp [intOf]; omega
      · obtain rfl : k = ts.length := by omega
        clear hbel
        go_wp2
        go_ret
        exact ⟨⟨_, rfl, .inr ⟨hr0, hr1, g1, HA.out⟩⟩, HB.out⟩
  · go_enter Tryz.func138, Tryz.ntmps138
    go_wp2
    go_ret
    exact ⟨⟨_, rfl, .inl rfl⟩, Below.refl _ _⟩

set_option maxRecDepth 100000 in
set_option maxHeartbeats 2000000 in
theorem szFeat_sum (id : ByteArray) (k : Int) (a : Option Addr) (cap : Nat) (ps : List (Int × Int)) (c : Option Addr) (cap' : Nat) (ts : List Tg) (left : Int) (w : World) (hf : FeatIn w id a ps c ts) (h0 : 0 ≤ left) (h1 : left ≤ 1048576) :
    Calls Tryz.prog 89 #[.agg #[.string id, .int .i64 k, .slice a ps.length cap, .slice c ts.length cap'], .int .i64 left] w fun e w' => (∃ r, e = .returned (.int .i64 r) ∧ SumFeat id ps ts left r) ∧ Below w.heap.size w w' := by
  obtain ⟨hp, ht, g1, g2, g3, g4⟩ := hf
  have HT := Lib.hid ht
  have HL := Lib.hid g4
  clear hp ht g4
  by_cases e1 : (id.size : Int) ≤ left
  · by_cases e2 : (ps.length : Int) ≤ left - id.size
    · go_enter Tryz.func89, Tryz.ntmps89
      go_wp2_with fail
      refine (szShape_fits _ _ _ _ _ _ (by omega) (by omega)).mono ?_
      rintro e w1 ⟨rfl, hb1⟩
      have c3 := cell_later hb1 (a := ⟨w.heap.size, 3, none⟩) (v := .slice c ts.length cap') (by simp [go_sem])
      have B1 : Hid (Below w.heap.size w w1) := ((Below.refl _ _).alloc (Nat.le_refl _) _).trans (hb1.mono (by simp))
      clear hb1
      go_wp2_with fail
      refine (szTagS_sum _ _ _ _ _ (HT.out.below B1.out) g3 HL.out (by omega) (by omega)).mono ?_
      rintro e w2 ⟨⟨r, rfl, hs⟩, hb2⟩
      have B2 : Hid (Below w.heap.size w w2) := B1.out.trans (hb2.mono B1.out.size)
      clear hb2 c3
      rcases hs with rfl | ⟨q1, q2, q3, q4⟩
      · go_wp2
        go_ret
        exact ⟨⟨_, rfl, .inl rfl⟩, B2.out⟩
      · have Q4 := Lib.hid q4
        clear q4
        go_wp2
        go_ret
        exact ⟨⟨_, rfl, .inr ⟨q1, by omega, e1, by omega, by omega, Q4.out.mono (by omega)⟩⟩, B2.out⟩
    · go_enter Tryz.func89, Tryz.ntmps89
      go_wp2_with fail
      refine (szShape_over _ _ _ _ _ _ (by omega) (by omega) (by omega) (by unfold maxLen; omega)).mono ?_
      rintro e w1 ⟨rfl, hb1⟩
      have B1 : Hid (Below w.heap.size w w1) := ((Below.refl _ _).alloc (Nat.le_refl _) _).trans (hb1.mono (by simp))
      clear hb1
      go_wp2
      go_ret
      exact ⟨⟨_, rfl, .inl rfl⟩, B1.out⟩
  · go_enter Tryz.func89, Tryz.ntmps89
    go_wp2
    go_ret
    exact ⟨⟨_, rfl, .inl rfl⟩, (Below.refl _ _).alloc (Nat.le_refl _) _⟩

set_option maxRecDepth 100000 in
set_option maxHeartbeats 2000000 in
theorem szFeatS_sum (a : Option Addr) (cap : Nat) (fs : List Ft) (left : Int) (w : World) (hf : FeatsIn w a fs) (h0 : 0 ≤ left) (h1 : left ≤ 1048576) :
    Calls Tryz.prog 39 #[.slice a fs.length cap, .int .i64 left] w fun e w' => (∃ r, e = .returned (.int .i64 r) ∧ SumFeats fs left r) ∧ Below w.heap.size w w' := by
  obtain ⟨hp, hm, hl⟩ := hf
  have HP := Lib.hid hp
  have HL := Lib.hid hl
  clear hp hl
  by_cases g1 : (fs.length : Int) ≤ left
  · go_enter Tryz.func39, Tryz.ntmps39
    go_wp2
    go_loopw [1, 5] (fun l i wr => ∃ (k : Nat) (r : Int), k ≤ fs.length ∧ i = .int .i64 k ∧ l = .int .i64 r ∧ 0 ≤ r ∧ r + ((fs.length : Int) - k) + (wF fs k : Nat) ≤ left ∧ Below w.heap.size w wr ∧ ∀ j, j < k → ((fid fs j).size : Int) ≤ left ∧ ((fps fs j).length : Int) ≤ left ∧ ((fts fs j).length : Int) ≤ left ∧ TagsLen (fts fs j) left) (fun _ i _ => fs.length - (intOf i).toNat)
    case atStart => exact ⟨0, left - fs.length, Nat.zero_le _, rfl, by simp, by omega, by simp [wF], Below.refl _ _, fun j h => absurd h (Nat.not_lt_zero _)⟩
    case round =>
      obtain ⟨k, r, hk, rfl, rfl, hr0, hr1, hbel, hall⟩ := hrel
      have HA := Lib.hid hall
      have HB := Lib.hid hbel
      have hsz := hbel.size
      clear hall
      by_cases hlt : k < fs.length
      · obtain ⟨b, off, pa, pc, ta, tc, rfl, hb, hc1, hc2, hc3, hc4, hpp, htt⟩ := HP.out k hlt
        rw [← hbel.cell (p := ⟨b, _, none⟩) hb] at hc1 hc2 hc3 hc4
        have HI : Hid (FeatIn wr (fid fs k) pa (fps fs k) ta (fts fs k)) := ⟨hpp.below hbel, htt.below hbel, by have := (HL.out k hlt).1; omega, by have := (HL.out k hlt).2.1; omega, by have := (HL.out k hlt).2.2.1; omega, (HL.out k hlt).2.2.2⟩
        clear hbel hpp htt
        go_wp2_with fail
        refine (szFeat_sum _ _ _ _ _ _ _ _ _ _ HI.out hr0 (by omega)).mono ?_
        rintro e w1 ⟨⟨r', rfl, hs⟩, hb1⟩
        have B1 : Hid (Below w.heap.size w w1) := HB.out.trans (hb1.mono hsz)
        clear hb1 hc1 hc2 hc3 hc4
        rcases hs with rfl | ⟨g2, g3, g4, g5, g6, g7⟩
        · go_wp2
          go_ret
          exact ⟨⟨_, rfl, .inl rfl⟩, B1.out⟩
        · have G7 := Lib.hid g7
          clear g7
          go_wp2
          go_roundw
          case rel => exact ⟨k + 1, r', by omega, by go_num, rfl, g2, by have e : wF fs (k + 1) = wF fs k + (1 + (fps fs k).length + (fts fs k).length) := rfl; omega, B1.out, fun j hj => by by_cases e : j = k; (subst e; exact ⟨by omega, by omega, by omega, G7.out.mono (by omega)⟩); exact HA.out j (by omega)⟩
          case measure => simp [intOf]; omega
      · obtain rfl : k = fs.length := by omega
        clear hbel
        go_wp2
        go_ret
        exact ⟨⟨_, rfl, .inr ⟨hr0, by omega, g1, HA.out⟩⟩, HB.out⟩
  · go_enter Tryz.func39, Tryz.ntmps39
    go_wp2
    go_ret
    exact ⟨⟨_, rfl, .inl rfl⟩, Below.refl _ _⟩

set_option maxRecDepth 100000 in
set_option maxHeartbeats 2000000 in
theorem szHeadS_sum (a : Option Addr) (cap : Nat) (hs : List Hd) (left : Int) (w : World) (hp : HeadsAt w a hs) (hm : hs.length ≤ 9223372036854775807) (hl : HeadsLen hs 9223372036854775807) (h0 : 0 ≤ left) (h1 : left ≤ 1048576) :
    Calls Tryz.prog 88 #[.slice a hs.length cap, .int .i64 left] w fun e w' => (∃ r, e = .returned (.int .i64 r) ∧ SumHeads hs left r) ∧ Below w.heap.size w w' := by
  have HP := Lib.hid hp
  have HL := Lib.hid hl
  clear hp hl
  by_cases g1 : (hs.length : Int) ≤ left
  · go_enter Tryz.func88, Tryz.ntmps88
    go_wp2
    go_loopw [1, 5] (fun l i wr => ∃ (k : Nat) (r : Int), k ≤ hs.length ∧ i = .int .i64 k ∧ l = .int .i64 r ∧ 0 ≤ r ∧ r + (hs.length : Int) ≤ left ∧ Below w.heap.size w wr ∧ ∀ j, j < k → ((hdn hs j).size : Int) ≤ left) (fun _ i _ => hs.length - (intOf i).toNat)
    case atStart => exact ⟨0, left - hs.length, Nat.zero_le _, rfl, by simp, by omega, by omega, Below.refl _ _, fun j h => absurd h (Nat.not_lt_zero _)⟩
    case round =>
      obtain ⟨k, r, hk, rfl, rfl, hr0, hr1, hbel, hall⟩ := hrel
      have HA := Lib.hid hall
      have HB := Lib.hid hbel
      have hsz := hbel.size
      clear hall
      by_cases hlt : k < hs.length
      · obtain ⟨b, off, rfl, hb, hc1, hc2⟩ := HP.out k hlt
        rw [← hbel.cell (p := ⟨b, _, none⟩) hb] at hc1 hc2
        clear hbel
        go_wp2_with fail
        refine (szHead_any _ _ _ _ hr0 (by omega) (by have := HL.out k hlt; omega)).mono ?_
        rintro e w1 ⟨⟨r', rfl, hs'⟩, hb1⟩
        have HB1 := Lib.hid hb1
        clear hb1
        rcases hs' with rfl | ⟨g2, g3, g4⟩
        · go_wp2
          go_ret
          exact ⟨⟨_, rfl, .inl rfl⟩, HB.out.trans (HB1.out.mono hsz)⟩
        · go_wp2
          go_roundw
          case rel => exact ⟨k + 1, r', by omega, by go_num, rfl, g2, by omega, HB.out.trans (HB1.out.mono hsz), fun j hj => by by_cases e : j = k; (subst e; omega); exact HA.out j (by omega)⟩
          case measure => simp [intOf]; omega
      · obtain rfl : k = hs.length := by omega
        clear hbel
        go_wp2
        go_ret
        exact ⟨⟨_, rfl, .inr ⟨hr0, hr1, g1, HA.out⟩⟩, HB.out⟩
  · go_enter Tryz.func88, Tryz.ntmps88
    go_wp2
    go_ret
    exact ⟨⟨_, rfl, .inl rfl⟩, Below.refl _ _⟩

set_option maxRecDepth 100000 in
set_option maxHeartbeats 2000000 in
theorem szCommit_sum (c : Cm) (ua sa : Option Addr) (uc sc : Nat) (left : Int) (w : World) (hi : IntsAt w ua c.1) (hf : FeatsAt w sa c.2.1) (hl : CmLen c 9223372036854775807) (h0 : 0 ≤ left) (h1 : left ≤ 1048576) :
    Calls Tryz.prog 135 #[.agg #[.slice ua c.1.length uc, .slice sa c.2.1.length sc, .string c.2.2], .int .i64 left] w fun e w' => (∃ r, e = .returned (.int .i64 r) ∧ SumCm c left r) ∧ Below w.heap.size w w' := by
  obtain ⟨l1, l2, l3, l4⟩ := hl
  have HL := Lib.hid l3
  have HF := Lib.hid hf
  clear hf l3 hi
  have A1 : Hid (∀ o, Below w.heap.size w (w.alloc o)) := fun o => (Below.refl _ _).alloc (Nat.le_refl _) _
  by_cases e1 : (c.1.length : Int) ≤ left
  · go_enter Tryz.func135, Tryz.ntmps135
    go_wp2_with fail
    refine (szIntS_fits _ _ _ _ _ e1 h1).mono ?_
    rintro e w1 ⟨rfl, rfl⟩
    go_wp2_with fail
    refine (szFeatS_sum _ _ _ _ _ ⟨HF.out.below (A1.out _), by omega, HL.out⟩ (by omega) (by omega)).mono ?_
    rintro e w1 ⟨⟨r, rfl, hs⟩, hb1⟩
    have c2 := cell_later hb1 (a := ⟨w.heap.size, 2, none⟩) (v := .string c.2.2) (by simp [go_sem])
    have B1 : Hid (Below w.heap.size w w1) := (A1.out _).trans (hb1.mono (by simp))
    clear hb1
    rcases hs with rfl | ⟨q1, q2, q3, q4⟩
    · go_wp2
      go_ret
      exact ⟨⟨_, rfl, .inl rfl⟩, B1.out⟩
    · have Q4 := Lib.hid q4
      clear q4
      by_cases e3 : (c.2.2.size : Int) ≤ r
      · go_wp2
        go_ret
        exact ⟨⟨_, rfl, .inr ⟨by omega, by omega, e1, by omega, Q4.out.mono (by omega), by omega⟩⟩, B1.out⟩
      · go_wp2
        go_ret
        exact ⟨⟨_, rfl, .inl rfl⟩, B1.out⟩
  · go_enter Tryz.func135, Tryz.ntmps135
    go_wp2_with fail
    refine (szIntS_over _ _ _ _ _ h0 (by omega) h1 (by unfold maxLen; omega)).mono ?_
    rintro e w1 ⟨rfl, rfl⟩
    go_wp2
    go_ret
    exact ⟨⟨_, rfl, .inl rfl⟩, A1.out _⟩

set_option maxRecDepth 100000 in
set_option maxHeartbeats 2000000 in
theorem szCommitS_sum (a : Option Addr) (cap : Nat) (cs : List Cm) (left : Int) (w : World) (hf : CommitsIn w a cs) (h0 : 0 ≤ left) (h1 : left ≤ 1048576) :
    Calls Tryz.prog 87 #[.slice a cs.length cap, .int .i64 left] w fun e w' => (∃ r, e = .returned (.int .i64 r) ∧ SumCms cs left r) ∧ Below w.heap.size w w' := by
  obtain ⟨hp, hm, hl⟩ := hf
  have HP := Lib.hid hp
  have HL := Lib.hid hl
  clear hp hl
  by_cases g1 : (cs.length : Int) ≤ left
  · go_enter Tryz.func87, Tryz.ntmps87
    go_wp2
    go_loopw [1, 5] (fun l i wr => ∃ (k : Nat) (r : Int), k ≤ cs.length ∧ i = .int .i64 k ∧ l = .int .i64 r ∧ 0 ≤ r ∧ r + ((cs.length : Int) - k) + (wC cs k : Nat) ≤ left ∧ Below w.heap.size w wr ∧ ∀ j, j < k → CmLen (mg cs j) left) (fun _ i _ => cs.length - (intOf i).toNat)
    case atStart => exact ⟨0, left - cs.length, Nat.zero_le _, rfl, by simp, by omega, by simp [wC], Below.refl _ _, fun j h => absurd h (Nat.not_lt_zero _)⟩
    case round =>
      obtain ⟨k, r, hk, rfl, rfl, hr0, hr1, hbel, hall⟩ := hrel
      have HA := Lib.hid hall
      have HB := Lib.hid hbel
      have hsz := hbel.size
      clear hall
      by_cases hlt : k < cs.length
      · obtain ⟨b, off, ua, uc, sa, sc, rfl, hx⟩ := HP.out k hlt
        obtain ⟨hb, c0, c1, c2, hii, hff⟩ := hx.below hbel
        have HI := Lib.hid hii
        have HF := Lib.hid hff
        clear hbel hx hii hff
        go_wp2_with fail
        refine (szCommit_sum _ _ _ _ _ _ _ HI.out HF.out (HL.out k hlt) hr0 (by omega)).mono ?_
        rintro e w1 ⟨⟨r', rfl, hs⟩, hb1⟩
        have B1 : Hid (Below w.heap.size w w1) := HB.out.trans (hb1.mono hsz)
        clear hb1 c0 c1 c2
        rcases hs with rfl | ⟨g2, g3, g4⟩
        · go_wp2
          go_ret
          exact ⟨⟨_, rfl, .inl rfl⟩, B1.out⟩
        · have G4 := Lib.hid g4
          clear g4
          go_wp2
          go_roundw
          case rel => exact ⟨k + 1, r', by omega, by go_num, rfl, g2, by have e : wC cs (k + 1) = wC cs k + (1 + (mg cs k).1.length + wF (mg cs k).2.1 (mg cs k).2.1.length) := rfl; omega, B1.out, fun j hj => by by_cases e : j = k; (subst e; exact G4.out.mono (by omega)); exact HA.out j (by omega)⟩
          case measure => simp [intOf]; omega
      · obtain rfl : k = cs.length := by omega
        clear hbel
        go_wp2
        go_ret
        exact ⟨⟨_, rfl, .inr ⟨hr0, by omega, g1, HA.out⟩⟩, HB.out⟩
  · go_enter Tryz.func87, Tryz.ntmps87
    go_wp2
    go_ret
    exact ⟨⟨_, rfl, .inl rfl⟩, Below.refl _ _⟩

set_option maxRecDepth 100000 in
set_option maxHeartbeats 2000000 in
theorem szRepo_sum (a b : Option Addr) (ca cb : Nat) (cs : List Cm) (hs : List Hd) (left : Int) (w : World) (hc : CommitsIn w a cs) (hh : HeadsIn w b hs) (h0 : 0 ≤ left) (h1 : left ≤ 1048576) :
    Calls Tryz.prog 38 #[.agg #[.slice a cs.length ca, .slice b hs.length cb], .int .i64 left] w fun e w' => (∃ r, e = .returned (.int .i64 r) ∧ SumRepo cs hs left r) ∧ Below w.heap.size w w' := by
  have HC := Lib.hid hc
  have HH := Lib.hid hh
  clear hc hh
  have A1 : Hid (∀ o, Below w.heap.size w (w.alloc o)) := fun o => (Below.refl _ _).alloc (Nat.le_refl _) _
  go_enter Tryz.func38, Tryz.ntmps38
  go_wp2_with fail
  refine (szCommitS_sum _ _ _ _ _ (HC.out.below (A1.out _)) h0 h1).mono ?_
  rintro e w1 ⟨⟨r, rfl, hs'⟩, hb1⟩
  have c1 := cell_later hb1 (a := ⟨w.heap.size, 1, none⟩) (v := .slice b hs.length cb) (by simp [go_sem])
  have B1 : Hid (Below w.heap.size w w1) := (A1.out _).trans (hb1.mono (by simp))
  clear hb1
  rcases hs' with rfl | ⟨q1, q2, q3, q4⟩
  · go_wp2
    go_ret
    exact ⟨⟨_, rfl, .inl rfl⟩, B1.out⟩
  have Q4 := Lib.hid q4
  clear q4
  go_wp2_with fail
  refine (szHeadS_sum _ _ _ _ _ (HH.out.below B1.out).reads HH.out.len HH.out.lens q1 (by omega)).mono ?_
  rintro e w2 ⟨⟨r', rfl, hs'⟩, hb2⟩
  have B2 : Hid (Below w.heap.size w w2) := B1.out.trans (hb2.mono B1.out.size)
  clear hb2 c1
  rcases hs' with rfl | ⟨p1, p2, p3, p4⟩
  · go_wp2
    go_ret
    exact ⟨⟨_, rfl, .inl rfl⟩, B2.out⟩
  have P4 := Lib.hid p4
  clear p4
  go_wp2
  go_ret
  exact ⟨⟨_, rfl, .inr ⟨p1, by omega, by omega, by omega, Q4.out, P4.out.mono (by omega)⟩⟩, B2.out⟩

end Go.Proofs.YtdfadpejddhbkaaGreat

namespace Go.Proofs.YtdfadpejddhbkaaGreat
set_option linter.unusedVariables false
open Go.ChangeShapes Go.WideShapes Go.ChangeAt Go.RowKit

theorem lmk_sum (fs : List Ft) (k : Int) : ∀ i, lmk fs k i = k + 2 * (wF fs i : Nat)
  | 0 => by simp [lmk, wF]
  | i + 1 => by
    have h := lmk_sum fs k i
    have e : wF fs (i + 1) = wF fs i + (1 + (fps fs i).length + (fts fs i).length) := rfl
    show lmk fs k i + 2 + 2 * ((fps fs i).length : Int) + 2 * ((fts fs i).length : Int) = _
    omega

theorem wC_mono (cs : List Cm) {i : Nat} : ∀ {n}, i ≤ n → wC cs i ≤ wC cs n
  | 0, h => by rw [show i = 0 by omega]; exact Nat.le_refl _
  | n + 1, h => by
    by_cases e : i = n + 1
    · rw [e]; exact Nat.le_refl _
    · have := wC_mono cs (i := i) (n := n) (by omega)
      have e2 : wC cs (n + 1) = wC cs n + (1 + (mg cs n).1.length + wF (mg cs n).2.1 (mg cs n).2.1.length) := rfl
      omega

theorem rowIs_turned {w w' : World} {S : Nat → Prop} {b n : Nat} {t : TypeId} {f : Nat → Value} (h : w.rowIs b t n f) (ht : Turned w w' S) (hn : ¬ S b) : w'.rowIs b t n f := h.of_block (ht.block _ h.lt hn)

theorem Turned.wide {w w' : World} {S T : Nat → Prop} (h : Turned w w' S) (hS : ∀ x, S x → T x) : Turned w w' T := ⟨h.os, h.tape, h.output, h.size, fun k hk hn => h.block k hk fun hs => hn (hS k hs)⟩

set_option maxRecDepth 100000 in
set_option maxHeartbeats 4000000 in
theorem markHeadS_row (q n : Nat) (f : Nat → Value) (k : Int) (w : World) (h : w.rowIs q 115 (n * 2) f) (hl : n ≤ 1048576) (h0 : 0 ≤ k) (h4 : k ≤ 100000000) :
    Calls Tryz.prog 105 #[.slice (some ⟨q, 0, none⟩) n n, .int .i64 k] w fun e w' => e = .returned (.int .i64 (k + 2 * (n : Int))) ∧ Turned w w' (fun x => x = q) := by
  have H := Lib.hid h
  clear h
  go_enter Tryz.func105, Tryz.ntmps105
  go_wp2
  go_loopw [1, 5] (fun s1 i wr => ∃ (j : Nat) (f' : Nat → Value), j ≤ n ∧ s1 = .int .i64 (k + 2 * (j : Int)) ∧ i = .int .i64 j ∧ wr.rowIs q 115 (n * 2) f' ∧ Turned w wr (fun x => x = q)) (fun _ i _ => n - (intOf i).toNat)
  case atStart => exact ⟨0, f, Nat.zero_le _, by simp, rfl, H.out, Turned.refl _ _⟩
  case round =>
    obtain ⟨j, f', hj, rfl, rfl, hrow, ht⟩ := hrel
    have HR := Lib.hid hrow
    have HT := Lib.hid ht
    clear hrow ht
    by_cases hlt : j < n
    · go_wp2_with fail
      refine (markText_any _ _ (by omega)).mono ?_
      rintro e w1 ⟨rfl, hb1⟩
      have R1 : Hid (w1.rowIs q 115 (n * 2) f') := HR.out.of_block (hb1.block _ HR.out.lt)
      have c0 := R1.out.cell (i := j * 2) (by omega)
      have c1 := R1.out.cell (i := j * 2 + 1) (by omega)
      have f0 := R1.out.frozen (j * 2)
      have f1 := R1.out.frozen (j * 2 + 1)
      have T1 : Hid (Turned w w1 (fun x => x = q)) := HT.out.trans (Turned.of_below hb1)
      clear hb1
      go_wp2
      go_roundw
      case rel => exact ⟨j + 1, _, by omega, by go_num, by go_num, (R1.out.set (j * 2) _).set (j * 2 + 1) _, (T1.out.trans (Turned.of_set _ _ _ rfl)).trans (Turned.of_set _ _ _ rfl)⟩
      case measure => simp [intOf]; omega
    · obtain rfl : j = n := by omega
      go_wp2
      go_ret
      exact ⟨rfl, HT.out⟩

set_option maxRecDepth 100000 in
set_option maxHeartbeats 8000000 in
theorem markCommitS_lay (b : Nat) (cs : List Cm) (ad : Nat → PlM) (cut : Nat → Nat) (k : Int) (w : World) (hrow : w.rowIs b 54 (cs.length * 3) (commitCell cs (plC cs ad))) (hlay : LayM w cs ad cut cs.length) (hb : b < cut 0) (hz : cut cs.length ≤ w.heap.size)
    (hl : cs.length ≤ 1048576) (hL : CmsLen cs 1048576) (hW : wC cs cs.length ≤ 1048576) (h0 : 0 ≤ k) (h4 : k ≤ 1000) :
    Calls Tryz.prog 104 #[.slice (some ⟨b, 0, none⟩) cs.length cs.length, .int .i64 k] w fun e w' => ∃ k', e = .returned (.int .i64 k') ∧ 0 ≤ k' ∧ k' ≤ k + 4 * (wC cs cs.length : Nat) ∧ Turned w w' (fun x => x = b ∨ (cut 0 ≤ x ∧ x < cut cs.length)) := by
  have HR0 := Lib.hid hrow
  have HLay := Lib.hid hlay
  have HL := Lib.hid hL
  have HCut : Hid (∀ i j, i ≤ j → j ≤ cs.length → cut i ≤ cut j) := fun i j hij hj => by
    induction j with
    | zero => rw [show i = 0 by omega]; exact Nat.le_refl _
    | succ j ih =>
      by_cases e : i = j + 1
      · rw [e]; exact Nat.le_refl _
      · have := ih (by omega) (by omega)
        have := (hlay j (by omega)).lt
        omega
  clear hrow hlay hL
  go_enter Tryz.func104, Tryz.ntmps104
  go_wp2
  go_loopw [1, 5] (fun s1 i wr => ∃ (j : Nat) (kj : Int) (f' : Nat → Value), j ≤ cs.length ∧ s1 = .int .i64 kj ∧ i = .int .i64 j ∧ 0 ≤ kj ∧ kj ≤ k + 4 * (wC cs j : Nat) ∧ wr.rowIs b 54 (cs.length * 3) f' ∧ (∀ x, j * 3 ≤ x → x < cs.length * 3 → f' x = commitCell cs (plC cs ad) x) ∧ Turned w wr (fun x => x = b ∨ (cut 0 ≤ x ∧ x < cut j))) (fun _ i _ => cs.length - (intOf i).toNat)
  case atStart => exact ⟨0, k, _, Nat.zero_le _, rfl, rfl, h0, by simp [wC], HR0.out, fun _ _ _ => rfl, Turned.refl _ _⟩
  case round =>
    clear HR0
    obtain ⟨j, kj, f', hj, rfl, rfl, hk0, hk1, hrow, hf, ht⟩ := hrel
    have HR := Lib.hid hrow
    have HF := Lib.hid hf
    have HT := Lib.hid ht
    have hsz := ht.size
    by_cases hlt : j < cs.length
    · have hcj := HCut.out 0 j (by omega) (by omega)
      have hcj1 := HCut.out (j + 1) cs.length (by omega) (by omega)
      have CM : Hid (CmUp wr (mg cs j) (ad j) (cut j) (cut (j + 1))) := (HLay.out j hlt).kept fun x hx hx' => ht.block x (by omega) (by omega)
      have hwC : wC cs (j + 1) = wC cs j + (1 + (mg cs j).1.length + wF (mg cs j).2.1 (mg cs j).2.1.length) := rfl
      have hwm := wC_mono cs (i := j + 1) (n := cs.length) (by omega)
      have c0 := hrow.cell (i := j * 3) (by omega)
      have c1 := hrow.cell (i := j * 3 + 1) (by omega)
      rw [hf _ (by omega) (by omega)] at c0 c1
      unfold commitCell at c0 c1
      rw [if_pos (by omega), show j * 3 / 3 = j by omega] at c0
      rw [if_neg (by omega), if_pos (by omega), show (j * 3 + 1) / 3 = j by omega] at c1
      unfold plC at c0 c1
      simp only at c0 c1
      have hbot := CM.out.bot
      have htwo := CM.out.two
      have htop := CM.out.top
      obtain ⟨l1, l2, l3, l4⟩ := HL.out j hlt
      have L3 := Lib.hid l3
      clear hrow hf ht l3
      go_wp2_with fail
      refine (markIntS_any 0 (mg cs j).1 _ kj _ (GrowI.of_rows CM.out.ups (fun i _ => rfl) (Nat.le_refl _) (by unfold maxLen; omega) (Nat.zero_le _)) (by omega) hk0 (by omega)).mono ?_
      rintro e w1 ⟨rfl, _, ht1⟩
      replace ht1 : Turned wr w1 (fun x => x = (ad j).1) := ht1.wide fun x hx => by simpa [Value.ownBlock] using hx.symm
      have R1 := Lib.hid (rowIs_turned HR.out ht1 (by omega))
      have FR1 := Lib.hid (rowIs_turned CM.out.row ht1 (by omega))
      have PP1 : Hid (Parts w1 (ad j).2.1 (mg cs j).2.1 (ad j).2.2 (mg cs j).2.1.length) := fun i hi => by
        obtain ⟨x1, x2, x3, x4, x5⟩ := CM.out.par i hi
        exact ⟨rowIs_turned x1 ht1 (by omega), rowIs_turned x2 ht1 (by omega), x3, x4, x5⟩
      have FAR := Lib.hid CM.out.far
      have PAR := Lib.hid CM.out.par
      have T1 : Hid (Turned w w1 (fun x => x = b ∨ (cut 0 ≤ x ∧ x < cut (j + 1)))) := (HT.out.wide fun x hx => by omega).trans (ht1.wide fun x hx => by omega)
      replace c1 := ht1.cell c1 (show ¬ b = _ by omega)
      clear ht1 c0 CM
      obtain ⟨HLie, HSep⟩ := lies_of_row FR1.out PP1.out
      have HLie := Lib.hid HLie
      have HSep := Lib.hid HSep
      go_wp2_with fail
      refine (markFeatS_some (ad j).2.1 0 (mg cs j).2.1.length (mg cs j).2.1 _ (kj + ((mg cs j).1.length : Int)) _ (by omega) L3.out (by omega) (by omega) HLie.out HSep.out).mono ?_
      rintro e w2 ⟨rfl, _, ht2⟩
      rw [lmk_sum]
      replace ht2 : Turned w1 w2 (fun x => (ad j).2.1 ≤ x ∧ x < cut (j + 1)) := ht2.wide fun x hx => by
        rcases hx with rfl | ⟨i, hi, hx | hx⟩
        · omega
        · have h1 := (PAR.out i hi).2.2.1
          have h2 := (FAR.out i hi).1
          simp only [plOf, blk, Option.map_some, Option.some.injEq] at hx
          omega
        · have h1 := (PAR.out i hi).2.2.2.1
          have h2 := (FAR.out i hi).2
          simp only [plOf, blk, Option.map_some, Option.some.injEq] at hx
          omega
      have R2 := Lib.hid (rowIs_turned R1.out ht2 (by omega))
      have T2 : Hid (Turned w w2 (fun x => x = b ∨ (cut 0 ≤ x ∧ x < cut (j + 1)))) := T1.out.trans (ht2.wide fun x hx => by omega)
      clear ht2 c1 R1 T1 FR1 PP1 HLie HSep FAR PAR
      go_wp2_with fail
      refine (markText_any _ _ (by omega)).mono ?_
      rintro e w3 ⟨rfl, hb3⟩
      have R3 : Hid (w3.rowIs b 54 (cs.length * 3) f') := R2.out.of_block (hb3.block _ R2.out.lt)
      have T3 : Hid (Turned w w3 (fun x => x = b ∨ (cut 0 ≤ x ∧ x < cut (j + 1)))) := T2.out.trans (Turned.of_below hb3)
      have c2 := R3.out.cell (i := j * 3 + 2) (by omega)
      have f2 := R3.out.frozen (j * 3 + 2)
      clear hb3 R2 T2
      go_wp2
      go_roundw
      case rel => exact ⟨j + 1, _, _, by omega, rfl, by go_num, by omega, by omega, R3.out.set (j * 3 + 2) _, fun x hx hx' => by rw [if_neg (by omega)]; exact HF.out x (by omega) hx', T3.out.trans (Turned.of_set _ _ _ (.inl rfl))⟩
      case measure => simp [intOf]; omega
    · obtain rfl : j = cs.length := by omega
      clear hrow hf ht
      go_wp2
      go_ret
      exact ⟨_, rfl, hk0, hk1, HT.out⟩
end Go.Proofs.YtdfadpejddhbkaaGreat

namespace Go.Proofs.YtdfadpejddhbkaaGreat
set_option linter.unusedVariables false
open Go.ChangeShapes Go.WideShapes Go.ChangeAt Go.RowKit

/-- a room whose parts lie one behind the other -/
structure RepoLay (w : World) (b : Nat) (ad : Nat → PlM) (cut : Nat → Nat) (q : Nat) (cs : List Cm) (hs : List Hd) : Prop where
  row : w.rowIs b 54 (cs.length * 3) (commitCell cs (plC cs ad))
  lay : LayM w cs ad cut cs.length
  c0 : b < cut 0
  cq : cut cs.length ≤ q
  hds : w.rowIs q 115 (hs.length * 2) (headCell hs)

theorem RepoLay.at {w : World} {b q : Nat} {ad : Nat → PlM} {cut : Nat → Nat} {cs : List Cm} {hs : List Hd} (h : RepoLay w b ad cut q cs hs) : RepoAt w (some ⟨b, 0, none⟩) (some ⟨q, 0, none⟩) cs hs :=
  ⟨CommitsAt.of_row (lo := 0) h.row fun i hi => ⟨IntsUp.of_row (h.lay i hi).ups (Nat.zero_le _), FeatsUp.of_row (h.lay i hi).row (h.lay i hi).par (Nat.zero_le _)⟩, HeadsAt.of_row h.hds⟩

theorem RepoLay.below {w w' : World} {b q : Nat} {ad : Nat → PlM} {cut : Nat → Nat} {cs : List Cm} {hs : List Hd} (h : RepoLay w b ad cut q cs hs) (hb : Below w.heap.size w w') : RepoLay w' b ad cut q cs hs :=
  ⟨h.row.of_block (hb.block _ h.row.lt), fun i hi => (h.lay i hi).below hb, h.c0, h.cq, h.hds.of_block (hb.block _ h.hds.lt)⟩

/-- what 'toRepo' answers -/
def NewRepoL (w : World) (cs : List Cm) (hs : List Hd) (e : Ending) (w' : World) : Prop :=
  ∃ b ad cut q, e = .returned (.agg #[.slice (some ⟨b, 0, none⟩) cs.length cs.length, .slice (some ⟨q, 0, none⟩) hs.length hs.length]) ∧ RepoLay w' b ad cut q cs hs ∧ w.heap.size ≤ b ∧ q < w'.heap.size ∧ Below w.heap.size w w'

set_option maxRecDepth 100000 in
set_option maxHeartbeats 4000000 in
theorem toRepo_lay (a b : Option Addr) (ca cb : Nat) (cs : List Cm) (hs : List Hd) (w : World) (hc : CommitsAt w a cs) (hh : HeadsAt w b hs) (hl : RpLen cs hs 1048576) :
    Calls Tryz.prog 41 #[.agg #[.slice a cs.length ca, .slice b hs.length cb]] w (NewRepoL w cs hs) := by
  obtain ⟨l1, l2, l3, l4⟩ := hl
  have HC := Lib.hid hc
  have HH := Lib.hid hh
  have L3 := Lib.hid l3
  clear hc hh l3 l4
  have A3 : Hid (∀ o o' o'', Below w.heap.size w (((w.alloc o).alloc o').alloc o'')) := fun o o' o'' => (((Below.refl _ _).alloc (Nat.le_refl _) _).alloc (by simp) _).alloc (by simp; omega) _
  go_enter Tryz.func41, Tryz.ntmps41
  go_wp2_with fail
  refine (toCommitS_lay _ _ _ _ (HC.out.below (A3.out _ _ _)) (by omega) L3.out).mono ?_
  rintro e w1 ⟨bc, ad, cut, rfl, hrowC, hlay, hlo, hc0, hcn, hbel⟩
  have B1 : Hid (Below w.heap.size w w1) := (A3.out _ _ _).trans (hbel.mono (by simp; omega))
  obtain ⟨hc, hf⟩ := bcell hbel
  have hz := hbel.size
  simp only [World.size_alloc] at hz hlo
  have UR := Lib.hid hrowC
  have UL := Lib.hid hlay
  have hcn0 := hlay.cut cs.length (Nat.le_refl _)
  clear hrowC hlay hbel
  have d0 : w1.cell? ⟨w.heap.size + 1 + 1, 0, none⟩ = some (.slice none 0 0) := by rw [hc _ _ (by simp)]; simp [go_sem]
  have d1 : w1.cell? ⟨w.heap.size + 1 + 1, 1, none⟩ = some (.slice none 0 0) := by rw [hc _ _ (by simp)]; simp [go_sem]
  have f0 : w1.frozen? ⟨w.heap.size + 1 + 1, 0, none⟩ = false := by rw [hf _ _ (by simp)]; simp [go_sem]
  have f1 : w1.frozen? ⟨w.heap.size + 1 + 1, 1, none⟩ = false := by rw [hf _ _ (by simp)]; simp [go_sem]
  have g0 : w1.cell? ⟨w.heap.size + 1, 0, none⟩ = some (.slice none 0 0) := by rw [hc _ _ (by simp)]; simp [go_sem]
  have g1 : w1.cell? ⟨w.heap.size + 1, 1, none⟩ = some (.slice none 0 0) := by rw [hc _ _ (by simp)]; simp [go_sem]
  have k0 : w1.frozen? ⟨w.heap.size + 1, 0, none⟩ = false := by rw [hf _ _ (by simp)]; simp [go_sem]
  have k1 : w1.frozen? ⟨w.heap.size + 1, 1, none⟩ = false := by rw [hf _ _ (by simp)]; simp [go_sem]
  have a1 : w1.cell? ⟨w.heap.size, 1, none⟩ = some (.slice b hs.length cb) := by rw [hc _ _ (by simp; omega)]; simp [go_sem]
  clear hc hf
  go_wp2_with fail
  have B2 : Hid (Below w.heap.size w (w1.setCell ⟨w.heap.size + 1 + 1, 0, none⟩ (.slice (some ⟨bc, 0, none⟩) cs.length cs.length))) := B1.out.setCell (by simp; omega) _
  refine (toHeadS_any _ _ _ _ (HH.out.below B2.out) (by omega)).mono ?_
  rintro e w2 ⟨b', rfl, hrow2, hb2, hbel2⟩
  have UR2 : Hid (w2.rowIs bc 54 (cs.length * 3) (commitCell cs (plC cs ad))) := (UR.out.setOther (by simp; omega) _).of_block (hbel2.block _ (by simpa [World.setCell] using UR.out.lt))
  have UL2 : Hid (LayM w2 cs ad cut cs.length) := fun i hi => ((UL.out i hi).set (w.heap.size + 1 + 1) _ _ (by have := UL.out.cut i (by omega); omega)).below hbel2
  have hb2' : w1.heap.size ≤ b' := by simpa [World.setCell] using hb2
  have V2 := Lib.hid hrow2
  have B3 : Hid (Below w.heap.size w w2) := B2.out.trans (hbel2.mono B2.out.size)
  have cc : ∀ (b o : Nat), b < w1.heap.size → w2.cell? ⟨b, o, none⟩ = _ := fun b o hb => hbel2.cell (p := ⟨b, o, none⟩) (by simpa [World.setCell] using hb)
  have ff : ∀ (b o : Nat), b < w1.heap.size → w2.frozen? ⟨b, o, none⟩ = _ := fun b o hb => hbel2.frozen (p := ⟨b, o, none⟩) (by simpa [World.setCell] using hb)
  replace d0 : w2.cell? ⟨w.heap.size + 1 + 1, 0, none⟩ = some (.slice (some ⟨bc, 0, none⟩) cs.length cs.length) := by rw [cc _ _ (by omega)]; simp [go_sem, d0]
  replace d1 : w2.cell? ⟨w.heap.size + 1 + 1, 1, none⟩ = some (.slice none 0 0) := by rw [cc _ _ (by omega)]; simp [go_sem, d1]
  replace f1 : w2.frozen? ⟨w.heap.size + 1 + 1, 1, none⟩ = false := by rw [ff _ _ (by omega)]; simp [go_sem, f1]
  replace g0 : w2.cell? ⟨w.heap.size + 1, 0, none⟩ = some (.slice none 0 0) := by rw [cc _ _ (by omega)]; simp [go_sem, g0]
  replace g1 : w2.cell? ⟨w.heap.size + 1, 1, none⟩ = some (.slice none 0 0) := by rw [cc _ _ (by omega)]; simp [go_sem, g1]
  replace k0 : w2.frozen? ⟨w.heap.size + 1, 0, none⟩ = false := by rw [ff _ _ (by omega)]; simp [go_sem, k0]
  replace k1 : w2.frozen? ⟨w.heap.size + 1, 1, none⟩ = false := by rw [ff _ _ (by omega)]; simp [go_sem, k1]
  clear hbel2 hrow2 hb2 cc ff f0 a1
  go_wp2
  refine bodyPost_ret (v := .agg #[.slice (some ⟨bc, 0, none⟩) cs.length cs.length, .slice (some ⟨b', 0, none⟩) hs.length hs.length]) (by simp [results, Tryz.results41, go_sem, g0, g1]) rfl ?_
  have hl : ∀ i, i < cs.length → w.heap.size + 1 + 1 < cut i := fun i hi => by have := UL2.out.cut i (by omega); omega
  refine ⟨bc, ad, cut, b', rfl, ⟨?_, fun i hi => ?_, hc0, by omega, ?_⟩, by omega, by have := V2.out.lt; simpa [World.setCell] using this, ?_⟩
  · exact ((UR2.out.setOther (by simp; omega) _).setOther (by simp; omega) _).setOther (by simp; omega) _
  · have h1 := hl i hi
    exact (((UL2.out i hi).set _ _ _ h1).set _ _ _ (by omega)).set _ _ _ (by omega)
  · exact ((V2.out.setOther (by simp; omega) _).setOther (by simp; omega) _).setOther (by simp; omega) _
  · exact ((B3.out.setCell (by simp; omega) _).setCell (by simp) _).setCell (by simp) _


set_option maxRecDepth 100000 in
set_option maxHeartbeats 4000000 in
theorem markRepo_lay (b q : Nat) (ad : Nat → PlM) (cut : Nat → Nat) (cs : List Cm) (hs : List Hd) (k : Int) (w : World) (h : RepoLay w b ad cut q cs hs) (hL : RpLen cs hs 1048576) (hW : wC cs cs.length ≤ 1048576) (h0 : 0 ≤ k) (h4 : k ≤ 1000) :
    Calls Tryz.prog 46 #[.agg #[.slice (some ⟨b, 0, none⟩) cs.length cs.length, .slice (some ⟨q, 0, none⟩) hs.length hs.length], .int .i64 k] w fun e w' => (∃ k', e = .returned (.int .i64 k') ∧ 0 ≤ k') ∧ Turned w w' (fun x => b ≤ x ∧ x ≤ q) := by
  have hq := h.hds.lt
  have hcq := h.cq
  have hc0 := h.c0
  have hcn := h.lay.cut cs.length (Nat.le_refl _)
  have hb0 : Below w.heap.size w (w.alloc (.cells #[.slice (some ⟨b, 0, none⟩) cs.length cs.length, .slice (some ⟨q, 0, none⟩) hs.length hs.length] 46)) := (Below.refl _ _).alloc (Nat.le_refl _) _
  have H := Lib.hid (h.below hb0)
  have X0 : Hid (Box2 (w.alloc (.cells #[.slice (some ⟨b, 0, none⟩) cs.length cs.length, .slice (some ⟨q, 0, none⟩) hs.length hs.length] 46)) w.heap.size (.slice (some ⟨b, 0, none⟩) cs.length cs.length) (.slice (some ⟨q, 0, none⟩) hs.length hs.length)) := Box2.new w _ _ _
  have T0 := Lib.hid (Turned.of_below (S := fun x => b ≤ x ∧ x ≤ q) hb0)
  obtain ⟨l1, l2, l3, l4⟩ := hL
  have L3 := Lib.hid l3
  clear h hb0 l3 l4
  go_enter Tryz.func46, Tryz.ntmps46
  go_wp2_with fail
  refine (markCommitS_lay b cs ad cut k _ H.out.row H.out.lay hc0 (by simp; omega) (by omega) L3.out hW h0 h4).mono ?_
  rintro e w1 ⟨k', rfl, hk0, hk1, ht1⟩
  have c1 := ht1.cell X0.out.c1 (show ¬ _ by show ¬ (w.heap.size = b ∨ (cut 0 ≤ w.heap.size ∧ w.heap.size < cut cs.length)); omega)
  have R1 := Lib.hid (rowIs_turned H.out.hds ht1 (by omega))
  have T1 : Hid (Turned w w1 (fun x => b ≤ x ∧ x ≤ q)) := T0.out.trans (ht1.wide fun x hx => by omega)
  clear ht1
  go_wp2_with fail
  refine (markHeadS_row q hs.length _ k' _ R1.out (by omega) hk0 (by omega)).mono ?_
  rintro e w2 ⟨rfl, ht2⟩
  have T2 : Hid (Turned w w2 (fun x => b ≤ x ∧ x ≤ q)) := T1.out.trans (ht2.wide fun x hx => by omega)
  clear ht2 c1
  go_wp2
  go_ret
  exact ⟨⟨_, rfl, by omega⟩, T2.out⟩

theorem GrowI.turned {lo : Nat} {w w' : World} {is : List Int} {v : Value} {S : Nat → Prop} (h : GrowI lo is w v) (ht : Turned w w' S) (hn : ∀ k, v.ownBlock = some k → ¬ S k) : GrowI lo is w' v := by
  refine ⟨?_, Nat.le_trans h.le ht.size⟩
  obtain ⟨h1, h2 | ⟨g, cap, cur, rfl, hb', hg, rest⟩⟩ := h.own
  · exact ⟨h1, .inl h2⟩
  · exact ⟨h1, .inr ⟨g, cap, cur, rfl, hb', (ht.block g (Array.getElem?_eq_some_iff.1 hg).1 (hn g rfl)).trans hg, rest⟩⟩

theorem Box2.turned {w w' : World} {b : Nat} {v0 v1 : Value} {S : Nat → Prop} (h : Box2 w b v0 v1) (ht : Turned w w' S) (hn : ¬ S b) : Box2 w' b v0 v1 :=
  ⟨Nat.lt_of_lt_of_le h.lt ht.size, ht.cell h.c0 hn, ht.cell h.c1 hn⟩

theorem _root_.Go.World.ownsRow.wide {w : World} {lo lo' : Nat} {e : TypeId} {size n : Nat} {v : Value} {xs : List Value} (h : w.ownsRow lo e size v n xs) (hl : lo' ≤ lo) : w.ownsRow lo' e size v n xs := by
  obtain ⟨h1, h2 | ⟨g, cap, cur, rfl, hb, rest⟩⟩ := h
  · exact ⟨h1, .inl h2⟩
  · exact ⟨h1, .inr ⟨g, cap, cur, rfl, Nat.le_trans hl hb, rest⟩⟩

end Go.Proofs.YtdfadpejddhbkaaGreat

namespace Go.Proofs.YtdfadpejddhbkaaGreat
set_option linter.unusedVariables false
open Go.ChangeShapes Go.WideShapes Go.ChangeAt Go.RowKit

/-- the place of the first thing of a name; where there is none, how many there are -/
def firstF (fs : List Ft) (id : ByteArray) : Nat := fs.findIdx (fun f => decide (f.1 = id))

theorem fid_get {fs : List Ft} {i : Nat} (h : i < fs.length) : fs[i].1 = fid fs i := by unfold fid; rw [fg_get h]

theorem firstF_hit {fs : List Ft} {id : ByteArray} {k : Nat} (hk : k < fs.length) (h : fid fs k = id) (hall : ∀ j, j < k → fid fs j ≠ id) : firstF fs id = k := by
  unfold firstF
  rw [List.findIdx_eq hk]
  refine ⟨by simp [fid_get hk, h], fun j hj => ?_⟩
  have := hall j hj
  rw [← fid_get (by omega)] at this
  simpa using this

theorem firstF_miss {fs : List Ft} {id : ByteArray} (hall : ∀ j, j < fs.length → fid fs j ≠ id) : firstF fs id = fs.length := by
  unfold firstF
  rw [List.findIdx_eq_length]
  intro x hx
  obtain ⟨i, hi, rfl⟩ := List.getElem_of_mem hx
  have := hall i hi
  rw [← fid_get hi] at this
  simpa using this

theorem firstF_at {fs : List Ft} {id : ByteArray} (h : firstF fs id < fs.length) : fid fs (firstF fs id) = id := by
  have := List.findIdx_getElem (p := fun f : Ft => decide (f.1 = id)) (xs := fs) (w := h)
  rw [← fid_get h]
  exact of_decide_eq_true this

/-- what the look answers -/
def findV (fs : List Ft) (id : ByteArray) : Int := if firstF fs id < fs.length then (firstF fs id : Int) else -1

set_option maxHeartbeats 2000000 in
theorem l3Find_any (a : Option Addr) (cap : Nat) (fs : List Ft) (id : ByteArray) (w : World) (hp : FeatsAt w a fs) (hl : fs.length ≤ 1048576) :
    Calls Tryz.prog 59 #[.slice a fs.length cap, .string id] w fun e w' => e = .returned (.int .i64 (findV fs id)) ∧ w = w' := by
  have HP := Lib.hid hp
  clear hp
  go_enter Tryz.func59, Tryz.ntmps59
  go_wp2
  go_loopw [5] (fun i wr => ∃ k : Nat, k ≤ fs.length ∧ i = .int .i64 k ∧ w = wr ∧ ∀ j, j < k → fid fs j ≠ id) (fun i _ => fs.length - (intOf i).toNat)
  case atStart => exact ⟨0, Nat.zero_le _, rfl, rfl, fun j h => absurd h (Nat.not_lt_zero _)⟩
  case round =>
    obtain ⟨k, hk, rfl, rfl, hall⟩ := hrel
    have HA := Lib.hid hall
    clear hall
    by_cases hlt : k < fs.length
    · obtain ⟨b, off, pa, pc, ta, tc, rfl, hb, hc1, _⟩ := HP.out k hlt
      have hbq := bytes_beq (fid fs k) id
      by_cases hs : fid fs k = id
      · rw [decide_eq_true hs] at hbq
        have HS : Hid (findV fs id = (k : Int)) := by
          have := firstF_hit hlt hs HA.out
          show _ = _
          unfold findV
          rw [this, if_pos hlt]
        clear hs
        go_wp2
        go_ret
        exact ⟨congrArg (fun x => Ending.returned (Value.int .i64 x)) HS.out.symm, rfl⟩
      · rw [decide_eq_false hs] at hbq
        have HS := Lib.hid hs
        clear hs
        go_wp2
        go_roundw
        case rel => exact ⟨k + 1, by omega, by go_num, by trivial, fun j hj => by by_cases e : j = k; (subst e; exact HS.out); exact HA.out j (by omega)⟩
        case measure => simp [intOf]; omega
    · obtain rfl : k = fs.length := by omega
      have HS : Hid (findV fs id = -1) := by
        have := firstF_miss HA.out
        show _ = _
        unfold findV
        rw [this, if_neg (by omega)]
      go_wp2
      go_ret
      exact ⟨congrArg (fun x => Ending.returned (Value.int .i64 x)) HS.out.symm, rfl⟩
end Go.Proofs.YtdfadpejddhbkaaGreat

namespace Go.Proofs.YtdfadpejddhbkaaGreat
set_option linter.unusedVariables false
open Go.ChangeShapes Go.WideShapes Go.ChangeAt Go.RowKit Go.Deep

theorem keptA {W wn : World} {r : Nat} (hbn : Below W.drew.heap.size W.drew wn) (h : r < W.heap.size) : Kept1 W r wn := (Kept1.refl h).drew.below hbn
theorem keptB {W wn : World} {O : Obj} {r : Nat} (hbn : Below (W.alloc O).drew.heap.size (W.alloc O).drew wn) (h : r < W.heap.size) : Kept1 W r wn := ((Kept1.refl h).alloc O).drew.below hbn
theorem aBelow (wn : World) (O : Obj) : Below wn.heap.size wn (wn.alloc O) := (Below.refl _ _).alloc (Nat.le_refl _) _
theorem szA {W : World} {O : Obj} {B : Nat} (h : W.heap.size = B + 1 + 1) : (W.alloc O).drew.heap.size = B + 1 + 1 + 1 := by show (W.alloc O).heap.size = _; rw [World.size_alloc]; omega

theorem PP2 {V wn : World} {g : Nat} {ps : List (Int × Int)} {v0 v1 v2 v3 : Value} {B : Nat} (hpt : PtsAt wn (some ⟨g, 0, none⟩) ps) (hso : Soft wn (some ⟨g, 0, none⟩) ps.length) (hg : V.heap.size ≤ g) (hglt : g < wn.heap.size) (hW : V.heap.size = B + 1 + 1 + 1 ∨ V.heap.size = B + 1 + 1) :
    PtsAt ((((wn.setCell ⟨B + 1, 0, none⟩ v0).setCell ⟨B + 1, 1, none⟩ v1).setCell ⟨B + 1, 2, none⟩ v2).setCell ⟨B + 1, 3, none⟩ v3) (some ⟨g, 0, none⟩) ps ∧ Soft ((((wn.setCell ⟨B + 1, 0, none⟩ v0).setCell ⟨B + 1, 1, none⟩ v1).setCell ⟨B + 1, 2, none⟩ v2).setCell ⟨B + 1, 3, none⟩ v3) (some ⟨g, 0, none⟩) ps.length ∧
      ∀ x, blk (some ⟨g, 0, none⟩) = some x → B + 1 < x ∧ x < ((((wn.setCell ⟨B + 1, 0, none⟩ v0).setCell ⟨B + 1, 1, none⟩ v1).setCell ⟨B + 1, 2, none⟩ v2).setCell ⟨B + 1, 3, none⟩ v3).heap.size := by
  have hne : blk (some ⟨g, 0, none⟩) ≠ some (B + 1) := by simp [blk]; omega
  exact ⟨(((hpt.set hne).set hne).set hne).set hne, (((hso.set _ _).set _ _).set _ _).set _ _, fun x e => by obtain rfl : g = x := (by simpa [blk] using e); exact ⟨by omega, by simpa [World.setCell] using hglt⟩⟩

set_option maxRecDepth 100000 in
set_option maxHeartbeats 2000000 in
theorem l2Copy_n0 (id : ByteArray) (k : Int) (b off cap : Nat) (ps : List (Int × Int)) (c : Option Addr) (ca : Nat) (w : World) (hp : PtsAt w (some ⟨b, off, none⟩) ps) (hl : ps.length ≤ 1048576) (h0 : 0 < ps.length) :
    Calls Tryz.prog 63 #[.agg #[.string id, .int .i64 k, .slice (some ⟨b, off, none⟩) ps.length cap, .slice c 0 ca]] w fun e w' => ∃ ax cx ay cy, e = .returned (.agg #[.string id, .int .i64 k, .slice ax ps.length cx, .slice ay 0 cy]) ∧ (PtsAt w' ax ps ∧ Soft w' ax ps.length ∧ Fresh w w' ax) ∧ Below w.heap.size w w' := by
  have HP := Lib.hid hp
  clear hp
  obtain ⟨i0, hi, hz0, hz1, hz2⟩ := info_parts infoT
  have HI := Lib.hid hi
  have HZ0 := Lib.hid hz0
  have HZ1 := Lib.hid hz1
  have HZ2 := Lib.hid hz2
  clear hi hz0 hz1 hz2
  go_enter Tryz.func63, Tryz.ntmps63
  go_upto_region 1 with (fail)
  obtain ⟨W, hW⟩ : ∃ W, W = ((w.alloc (.cells #[.string id, .int .i64 k, .slice (some ⟨b, off, none⟩) ps.length cap, .slice c 0 ca] 33)).alloc (.cells #[.string ⟨#[]⟩, .int .i64 0, .slice none 0 0, .slice none 0 0] 33)) := ⟨_, rfl⟩
  have B0 : Hid (Below w.heap.size w W) := by rw [hW]; exact ((Below.refl _ _).alloc (Nat.le_refl _) _).alloc (by simp) _
  have hz : Hid (W.heap.size = w.heap.size + 1 + 1) := by show _ = _; rw [hW]; simp
  have SOF : Hid (∀ wy, Kept1 W (w.heap.size + 1) wy → wy.cell? ⟨w.heap.size, 0, none⟩ = some (.string id) ∧ wy.cell? ⟨w.heap.size, 1, none⟩ = some (.int .i64 k) ∧ wy.cell? ⟨w.heap.size, 2, none⟩ = some (.slice (some ⟨b, off, none⟩) ps.length cap) ∧ wy.cell? ⟨w.heap.size, 3, none⟩ = some (.slice c 0 ca) ∧ wy.cell? ⟨(w.heap.size + 1), 0, none⟩ = some (cellOf wy (w.heap.size + 1) 0) ∧ wy.cell? ⟨(w.heap.size + 1), 1, none⟩ = some (cellOf wy (w.heap.size + 1) 1) ∧ wy.cell? ⟨(w.heap.size + 1), 2, none⟩ = some (cellOf wy (w.heap.size + 1) 2) ∧ wy.cell? ⟨(w.heap.size + 1), 3, none⟩ = some (cellOf wy (w.heap.size + 1) 3) ∧ wy.frozen? ⟨(w.heap.size + 1), 0, none⟩ = false ∧ wy.frozen? ⟨(w.heap.size + 1), 1, none⟩ = false ∧ wy.frozen? ⟨(w.heap.size + 1), 2, none⟩ = false ∧ wy.frozen? ⟨(w.heap.size + 1), 3, none⟩ = false ∧ Kept1 W (w.heap.size + 1) wy) := by
    intro wy hb
    have hz := hz.out
    have hc : ∀ o, wy.cell? ⟨w.heap.size, o, none⟩ = W.cell? ⟨w.heap.size, o, none⟩ := fun o => hb.grown.cell_far ⟨w.heap.size, o, none⟩ (by show w.heap.size < _; omega) (by simp)
    have hf : ∀ o, wy.frozen? ⟨w.heap.size + 1, o, none⟩ = W.frozen? ⟨w.heap.size + 1, o, none⟩ := fun o => hb.soft _ (by show w.heap.size + 1 < _; omega)
    refine ⟨?_, ?_, ?_, ?_, cellOf_some (hb.some _ ?_), cellOf_some (hb.some _ ?_), cellOf_some (hb.some _ ?_), cellOf_some (hb.some _ ?_), ?_, ?_, ?_, ?_, hb⟩
    all_goals first | rw [hc, hW] | rw [hf, hW] | rw [hW]
    all_goals simp [go_sem]
  have zR : Hid (w.heap.size + 1 < W.heap.size) := by have := hz.out; show _ < _; omega
  have H4 : Hid (∀ i, i < 4 → (W.cell? ⟨w.heap.size + 1, i, none⟩).isSome = true) := by
    intro i hi
    rw [hW]
    rcases (show i = 0 ∨ i = 1 ∨ i = 2 ∨ i = 3 by omega) with rfl | rfl | rfl | rfl <;> simp [go_sem]
  rw [← hW]
  have m1 : ¬ w.heap.size = W.heap.size := by have := hz.out; omega
  have m2 : ¬ w.heap.size + 1 = W.heap.size := by have := hz.out; omega
  clear hW
  go_cut [12] (fun s12 wx => ∃ ax cx ay cy, Box4 wx (w.heap.size + 1) (.string id) (.int .i64 k) (.slice ax ps.length cx) (.slice ay 0 cy) ∧ PtsAt wx ax ps ∧ Soft wx ax ps.length ∧ (∀ x, blk ax = some x → w.heap.size + 1 < x ∧ x < wx.heap.size) ∧ Below w.heap.size w wx)
  case first =>
    go_region_held3 (fun wy => wy.cell? ⟨w.heap.size, 0, none⟩ = some (.string id) ∧ wy.cell? ⟨w.heap.size, 1, none⟩ = some (.int .i64 k) ∧ wy.cell? ⟨w.heap.size, 2, none⟩ = some (.slice (some ⟨b, off, none⟩) ps.length cap) ∧ wy.cell? ⟨w.heap.size, 3, none⟩ = some (.slice c 0 ca) ∧ wy.cell? ⟨(w.heap.size + 1), 0, none⟩ = some (cellOf wy (w.heap.size + 1) 0) ∧ wy.cell? ⟨(w.heap.size + 1), 1, none⟩ = some (cellOf wy (w.heap.size + 1) 1) ∧ wy.cell? ⟨(w.heap.size + 1), 2, none⟩ = some (cellOf wy (w.heap.size + 1) 2) ∧ wy.cell? ⟨(w.heap.size + 1), 3, none⟩ = some (cellOf wy (w.heap.size + 1) 3) ∧ wy.frozen? ⟨(w.heap.size + 1), 0, none⟩ = false ∧ wy.frozen? ⟨(w.heap.size + 1), 1, none⟩ = false ∧ wy.frozen? ⟨(w.heap.size + 1), 2, none⟩ = false ∧ wy.frozen? ⟨(w.heap.size + 1), 3, none⟩ = false ∧ Kept1 W (w.heap.size + 1) wy)
      (first
        | assumption
        | with_reducible exact SOF.out _ (Kept1.refl zR.out).drew
        | (go_split_ands
           rename_i hS
           with_reducible exact SOF.out _ (hS.below hbn))
        | (go_split_ands
           rename_i hS
           first | with_reducible exact SOF.out _ ((Kept1.refl zR.out).alloc _).drew | exact SOF.out _ (hS.alloc _))
        | (go_split_ands
           rename_i hS
           with_reducible exact SOF.out _ ((((hS.set _ _).set _ _).set _ _).set _ _)))
      (first
        | (go_at_call 117
           refine (l1Copy_any k b off cap ps _ ?_ hl h0).mono ?_
           · (go_split_ands; rename_i hS; exact HP.out.below (hS.under B0.out))
           rintro e wn ⟨g, cap2, rfl, hpt, hso, hg, hglt, hbn⟩
           first | have hk := keptA hbn zR.out | have hk := keptB hbn zR.out | skip)
        | (refine step_append0 _ (by rfl) _ _ _ (by rfl) 92 i0 Tryz.underlying31 HI.out _ _ _ (by rfl) (by rfl) ?_))
    all_goals (go_wp2_with fail; go_meet; first | ((with_reducible refine ⟨_, _, _, _, hk.box H4.out, ?_⟩); exact ⟨(PP2 (V := (W.alloc _).drew) hpt hso hg hglt (.inl (szA hz.out))).1, (PP2 (V := (W.alloc _).drew) hpt hso hg hglt (.inl (szA hz.out))).2.1, (PP2 (V := (W.alloc _).drew) hpt hso hg hglt (.inl (szA hz.out))).2.2, ((((hk.set _ _).set _ _).set _ _).set _ _).under B0.out⟩) | ((with_reducible refine ⟨_, _, _, _, (hk.alloc _).box H4.out, ?_⟩); exact ⟨(PP2 (V := W) (hpt.below (aBelow wn _)) (hso.below hpt (aBelow wn _)) hg (Nat.lt_of_lt_of_le hglt (aBelow wn _).size) (.inr hz.out)).1, (PP2 (V := W) (hpt.below (aBelow wn _)) (hso.below hpt (aBelow wn _)) hg (Nat.lt_of_lt_of_le hglt (aBelow wn _).size) (.inr hz.out)).2.1, (PP2 (V := W) (hpt.below (aBelow wn _)) (hso.below hpt (aBelow wn _)) hg (Nat.lt_of_lt_of_le hglt (aBelow wn _).size) (.inr hz.out)).2.2, (((((hk.alloc _).set _ _).set _ _).set _ _).set _ _).under B0.out⟩))
  case rest =>
    obtain ⟨ax, cx, ay, cy, ⟨r0, r1, r2, r3⟩, hQ1, hQ2, hQ3, hB⟩ := hcut
    have B := Lib.hid hB
    have Q1 := Lib.hid hQ1
    have Q2 := Lib.hid hQ2
    have Q3 := Lib.hid hQ3
    clear hQ1 hQ2 hQ3
    clear hB
    go_wp2
    refine bodyPost_ret (v := .agg #[.string id, .int .i64 k, .slice ax ps.length cx, .slice ay 0 cy]) (by simp [results, Tryz.results63, go_sem, r0, r1, r2, r3]) rfl ?_
    exact ⟨ax, cx, ay, cy, rfl, ⟨Q1.out, Q2.out, fun x e => ⟨by have := (Q3.out x e).1; omega, (Q3.out x e).2⟩⟩, B.out⟩

end Go.Proofs.YtdfadpejddhbkaaGreat
