/- Proved here: the functions that hold two versions, and two lists of versions, against each other answer whether they are the same in all parts; rows of at most 1,048,576. -/
import Derived.Test.YtdchfologicbeaaGreatWCommit
import Derived.Test.YtdchfologicbeaaGreatWSheetEq
import Derived.Test.YtdchfologicbeaaGreatWSheetSameI
import Derived.StillTailTactics
namespace Go.Proofs.YtdchfologicbeaaGreat
set_option linter.unusedVariables false
open Go.ChangeShapes Go.WideShapes Go.ChangeAt Go.RowKit

instance decFt : DecidableEq Ft := instDecidableEqProd
instance decFsB : DecidableEq (List Ft × ByteArray) := instDecidableEqProd
instance decCm : DecidableEq Cm := instDecidableEqProd

/-- two versions are one -/
def cmEq (c d : Cm) : Bool := decide (c = d)
theorem cmEq_iff {c d : Cm} : cmEq c d = true ↔ c = d := by simp [cmEq]
theorem cmEq_no {c d : Cm} (h : ¬ c = d) : cmEq c d = false := by simp [cmEq, h]

/-- two lists of versions are one -/
def cmsEq (cs ds : List Cm) : Bool := decide (cs = ds)
theorem cmsEq_of {cs ds : List Cm} (hl : cs.length = ds.length) (h : ∀ j, j < cs.length → mg cs j = mg ds j) : cmsEq cs ds = true := by
  unfold cmsEq
  rw [decide_eq_true_iff]
  refine List.ext_getElem hl fun i h1 h2 => ?_
  have := h i h1
  rwa [mg_get h1, mg_get h2] at this
theorem cmsEq_ne {cs ds : List Cm} {j : Nat} (h : ¬ mg cs j = mg ds j) : cmsEq cs ds = false := by
  unfold cmsEq
  rw [decide_eq_false_iff_not]
  rintro rfl
  exact h rfl
theorem cmsEq_len {cs ds : List Cm} (h : cs.length ≠ ds.length) : cmsEq cs ds = false := by
  unfold cmsEq
  rw [decide_eq_false_iff_not]
  rintro rfl
  exact h rfl

set_option maxRecDepth 100000 in
set_option maxHeartbeats 4000000 in
theorem eqCommit_any (c d : Cm) (ua sa ua' sa' : Option Addr) (uc sc uc' sc' : Nat) (w : World) (hi : IntsAt w ua c.1) (hf : FeatsAt w sa c.2.1) (hi' : IntsAt w ua' d.1) (hf' : FeatsAt w sa' d.2.1) (hl : CmLen c 1048576) (hl' : CmLen d 1048576) :
    Calls Tryz.prog 169 #[.agg #[.slice ua c.1.length uc, .slice sa c.2.1.length sc, .string c.2.2], .agg #[.slice ua' d.1.length uc', .slice sa' d.2.1.length sc', .string d.2.2]] w fun e w' => e = .returned (.bool (cmEq c d)) ∧ Below w.heap.size w w' := by
  obtain ⟨l1, l2, l3, l4⟩ := hl
  obtain ⟨m1, m2, m3, m4⟩ := hl'
  have HI := Lib.hid hi
  have HI' := Lib.hid hi'
  have HF := Lib.hid hf
  have HF' := Lib.hid hf'
  have L3 := Lib.hid l3
  have M3 := Lib.hid m3
  clear hi hi' hf hf' l3 m3
  have B0 : Hid (∀ o o', Below w.heap.size w ((w.alloc o).alloc o')) := fun o o' => ((Below.refl _ _).alloc (Nat.le_refl _) _).alloc (by simp) _
  have e3 := bytes_beq c.2.2 d.2.2
  go_enter Tryz.func169, Tryz.ntmps169
  go_wp2_with fail
  refine (eqIntS_any _ _ _ _ _ _ _ (HI.out.below (B0.out _ _)) (HI'.out.below (B0.out _ _)) (by omega) (by omega)).mono ?_
  rintro e w1 ⟨rfl, nq, rfl⟩
  by_cases q1 : c.1 = d.1
  · rw [show isEq c.1 d.1 = true by simp [isEq, q1]]
    have Q1 := Lib.hid q1
    clear q1
    go_wp2_with fail
    refine (eqFeatS_any _ _ _ _ _ _ _ (HF.out.below (below_drewN (B0.out _ _) _)) (HF'.out.below (below_drewN (B0.out _ _) _)) (by omega) (by omega) L3.out M3.out).mono ?_
    rintro e w2 ⟨rfl, hb1⟩
    have c2 := cell_later hb1 (a := ⟨w.heap.size, 2, none⟩) (v := .string c.2.2) (by simp [go_sem])
    have d2 := cell_later hb1 (a := ⟨w.heap.size + 1, 2, none⟩) (v := .string d.2.2) (by simp [go_sem])
    have B1 : Hid (Below w.heap.size w w2) := (below_drewN (B0.out _ _) _).trans (hb1.mono (by simp; omega))
    clear hb1
    by_cases q2 : c.2.1 = d.2.1
    · rw [show fsEq c.2.1 d.2.1 = true by simp [fsEq, q2]]
      have Q2 := Lib.hid q2
      clear q2
      by_cases q3 : c.2.2 = d.2.2
      · rw [decide_eq_true q3] at e3
        have HE : Hid (cmEq c d = true) := by rw [Hid, cmEq_iff]; exact Prod.ext Q1.out (Prod.ext Q2.out q3)
        clear q3
        go_wp2
        go_ret
        exact ⟨by rw [HE.out]; rfl, B1.out⟩
      · rw [decide_eq_false q3] at e3
        have HE : Hid (cmEq c d = false) := cmEq_no fun e => q3 (by rw [e])
        clear q3
        go_wp2
        go_ret
        exact ⟨by rw [HE.out]; rfl, B1.out⟩
    · rw [show fsEq c.2.1 d.2.1 = false by simp [fsEq, q2]]
      have HE : Hid (cmEq c d = false) := cmEq_no fun e => q2 (by rw [e])
      clear q2 e3
      go_wp2
      go_ret
      exact ⟨by rw [HE.out]; rfl, B1.out⟩
  · rw [show isEq c.1 d.1 = false by simp [isEq, q1]]
    have HE : Hid (cmEq c d = false) := cmEq_no fun e => q1 (by rw [e])
    clear q1 e3
    go_wp2
    go_ret
    exact ⟨by rw [HE.out]; rfl, below_drewN (B0.out _ _) _⟩

set_option maxRecDepth 100000 in
set_option maxHeartbeats 4000000 in
theorem l7Same_any (c d : Cm) (ua sa ua' sa' : Option Addr) (uc sc uc' sc' : Nat) (w : World) (hi : IntsAt w ua c.1) (hf : FeatsAt w sa c.2.1) (hi' : IntsAt w ua' d.1) (hf' : FeatsAt w sa' d.2.1) (hl : CmLen c 1048576) (hl' : CmLen d 1048576) :
    Calls Tryz.prog 164 #[.agg #[.slice ua c.1.length uc, .slice sa c.2.1.length sc, .string c.2.2], .agg #[.slice ua' d.1.length uc', .slice sa' d.2.1.length sc', .string d.2.2]] w fun e w' => e = .returned (.bool (cmEq c d)) ∧ Below w.heap.size w w' := by
  obtain ⟨l1, l2, l3, l4⟩ := hl
  obtain ⟨m1, m2, m3, m4⟩ := hl'
  have HI := Lib.hid hi
  have HI' := Lib.hid hi'
  have HF := Lib.hid hf
  have HF' := Lib.hid hf'
  have L3 := Lib.hid l3
  have M3 := Lib.hid m3
  clear hi hi' hf hf' l3 m3
  have B0 : Hid (∀ o o', Below w.heap.size w ((w.alloc o).alloc o')) := fun o o' => ((Below.refl _ _).alloc (Nat.le_refl _) _).alloc (by simp) _
  have e3 := bytes_beq c.2.2 d.2.2
  go_enter Tryz.func164, Tryz.ntmps164
  go_wp2_with fail
  refine (l7Ints_any _ _ _ _ _ _ _ (HI.out.below (B0.out _ _)) (HI'.out.below (B0.out _ _)) (by omega) (by omega)).mono ?_
  rintro e w1 ⟨rfl, nq, rfl⟩
  by_cases q1 : c.1 = d.1
  · rw [show isEq c.1 d.1 = true by simp [isEq, q1]]
    have Q1 := Lib.hid q1
    clear q1
    go_wp2_with fail
    refine (specSheetSame_any _ _ _ _ _ _ _ (HF.out.below (below_drewN (B0.out _ _) _)) (HF'.out.below (below_drewN (B0.out _ _) _)) (by omega) (by omega) L3.out M3.out).mono ?_
    rintro e w2 ⟨rfl, hb1⟩
    have c2 := cell_later hb1 (a := ⟨w.heap.size, 2, none⟩) (v := .string c.2.2) (by simp [go_sem])
    have d2 := cell_later hb1 (a := ⟨w.heap.size + 1, 2, none⟩) (v := .string d.2.2) (by simp [go_sem])
    have B1 : Hid (Below w.heap.size w w2) := (below_drewN (B0.out _ _) _).trans (hb1.mono (by simp; omega))
    clear hb1
    by_cases q2 : c.2.1 = d.2.1
    · rw [show fsEq c.2.1 d.2.1 = true by simp [fsEq, q2]]
      have Q2 := Lib.hid q2
      clear q2
      by_cases q3 : c.2.2 = d.2.2
      · rw [decide_eq_true q3] at e3
        have HE : Hid (cmEq c d = true) := by rw [Hid, cmEq_iff]; exact Prod.ext Q1.out (Prod.ext Q2.out q3)
        clear q3
        go_wp2
        go_ret
        exact ⟨by rw [HE.out]; rfl, B1.out⟩
      · rw [decide_eq_false q3] at e3
        have HE : Hid (cmEq c d = false) := cmEq_no fun e => q3 (by rw [e])
        clear q3
        go_wp2
        go_ret
        exact ⟨by rw [HE.out]; rfl, B1.out⟩
    · rw [show fsEq c.2.1 d.2.1 = false by simp [fsEq, q2]]
      have HE : Hid (cmEq c d = false) := cmEq_no fun e => q2 (by rw [e])
      clear q2 e3
      go_wp2
      go_ret
      exact ⟨by rw [HE.out]; rfl, B1.out⟩
  · rw [show isEq c.1 d.1 = false by simp [isEq, q1]]
    have HE : Hid (cmEq c d = false) := cmEq_no fun e => q1 (by rw [e])
    clear q1 e3
    go_wp2
    go_ret
    exact ⟨by rw [HE.out]; rfl, below_drewN (B0.out _ _) _⟩

set_option maxRecDepth 100000 in
set_option maxHeartbeats 4000000 in
theorem commitSame_any (c d : Cm) (ua sa ua' sa' : Option Addr) (uc sc uc' sc' : Nat) (w : World) (hi : IntsAt w ua c.1) (hf : FeatsAt w sa c.2.1) (hi' : IntsAt w ua' d.1) (hf' : FeatsAt w sa' d.2.1) (hl : CmLen c 1048576) (hl' : CmLen d 1048576) :
    Calls Tryz.prog 204 #[.agg #[.slice ua c.1.length uc, .slice sa c.2.1.length sc, .string c.2.2], .agg #[.slice ua' d.1.length uc', .slice sa' d.2.1.length sc', .string d.2.2]] w fun e w' => e = .returned (.bool (cmEq c d)) ∧ Below w.heap.size w w' := by
  obtain ⟨l1, l2, l3, l4⟩ := hl
  obtain ⟨m1, m2, m3, m4⟩ := hl'
  have HI := Lib.hid hi
  have HI' := Lib.hid hi'
  have HF := Lib.hid hf
  have HF' := Lib.hid hf'
  have L3 := Lib.hid l3
  have M3 := Lib.hid m3
  clear hi hi' hf hf' l3 m3
  have B0 : Hid (∀ o o', Below w.heap.size w ((w.alloc o).alloc o')) := fun o o' => ((Below.refl _ _).alloc (Nat.le_refl _) _).alloc (by simp) _
  have e3 := bytes_beq c.2.2 d.2.2
  go_enter Tryz.func204, Tryz.ntmps204
  go_wp2_with fail
  refine (slicesEqualI_any _ _ _ _ _ _ _ (HI.out.below (B0.out _ _)) (HI'.out.below (B0.out _ _)) (by omega) (by omega)).mono ?_
  rintro e w1 ⟨rfl, nq, rfl⟩
  by_cases q1 : c.1 = d.1
  · rw [show isEq c.1 d.1 = true by simp [isEq, q1]]
    have Q1 := Lib.hid q1
    clear q1
    go_wp2_with fail
    refine (implSheetSame_any _ _ _ _ _ _ _ (HF.out.below (below_drewN (B0.out _ _) _)) (HF'.out.below (below_drewN (B0.out _ _) _)) (by omega) (by omega) L3.out M3.out).mono ?_
    rintro e w2 ⟨rfl, hb1⟩
    have c2 := cell_later hb1 (a := ⟨w.heap.size, 2, none⟩) (v := .string c.2.2) (by simp [go_sem])
    have d2 := cell_later hb1 (a := ⟨w.heap.size + 1, 2, none⟩) (v := .string d.2.2) (by simp [go_sem])
    have B1 : Hid (Below w.heap.size w w2) := (below_drewN (B0.out _ _) _).trans (hb1.mono (by simp; omega))
    clear hb1
    by_cases q2 : c.2.1 = d.2.1
    · rw [show fsEq c.2.1 d.2.1 = true by simp [fsEq, q2]]
      have Q2 := Lib.hid q2
      clear q2
      by_cases q3 : c.2.2 = d.2.2
      · rw [decide_eq_true q3] at e3
        have HE : Hid (cmEq c d = true) := by rw [Hid, cmEq_iff]; exact Prod.ext Q1.out (Prod.ext Q2.out q3)
        clear q3
        go_wp2
        go_ret
        exact ⟨by rw [HE.out]; rfl, B1.out⟩
      · rw [decide_eq_false q3] at e3
        have HE : Hid (cmEq c d = false) := cmEq_no fun e => q3 (by rw [e])
        clear q3
        go_wp2
        go_ret
        exact ⟨by rw [HE.out]; rfl, B1.out⟩
    · rw [show fsEq c.2.1 d.2.1 = false by simp [fsEq, q2]]
      have HE : Hid (cmEq c d = false) := cmEq_no fun e => q2 (by rw [e])
      clear q2 e3
      go_wp2
      go_ret
      exact ⟨by rw [HE.out]; rfl, B1.out⟩
  · rw [show isEq c.1 d.1 = false by simp [isEq, q1]]
    have HE : Hid (cmEq c d = false) := cmEq_no fun e => q1 (by rw [e])
    clear q1 e3
    go_wp2
    go_ret
    exact ⟨by rw [HE.out]; rfl, below_drewN (B0.out _ _) _⟩

set_option maxRecDepth 100000 in
set_option maxHeartbeats 4000000 in
theorem eqCommitS_any (a a' : Option Addr) (cap cap' : Nat) (cs ds : List Cm) (w : World) (hp : CommitsAt w a cs) (hq : CommitsAt w a' ds) (hl : cs.length ≤ 1048576) (hl' : ds.length ≤ 1048576) (hs : CmsLen cs 1048576) (hs' : CmsLen ds 1048576) :
    Calls Tryz.prog 104 #[.slice a cs.length cap, .slice a' ds.length cap'] w fun e w' => e = .returned (.bool (cmsEq cs ds)) ∧ Below w.heap.size w w' := by
  have HP := Lib.hid hp
  have HQ := Lib.hid hq
  have HS := Lib.hid hs
  have HS' := Lib.hid hs'
  clear hp hq hs hs'
  by_cases he : cs.length = ds.length
  · have HE := Lib.hid he
    rw [← he]
    have h1 : ((cs.length : Int) != (cs.length : Int)) = false := by simp
    clear he
    go_enter Tryz.func104, Tryz.ntmps104
    go_wp2
    go_loopw [5] (fun i wr => ∃ k : Nat, k ≤ cs.length ∧ i = .int .i64 k ∧ Below w.heap.size w wr ∧ ∀ j, j < k → mg cs j = mg ds j) (fun i _ => cs.length - (intOf i).toNat)
    case atStart => exact ⟨0, Nat.zero_le _, rfl, Below.refl _ _, fun j h => absurd h (Nat.not_lt_zero _)⟩
    case round =>
      obtain ⟨k, hk, rfl, hbel, hall⟩ := hrel
      have HA := Lib.hid hall
      have HB := Lib.hid hbel
      have hsz := hbel.size
      clear hall
      by_cases hlt : k < cs.length
      · obtain ⟨b, off, ua, uc, sa, sc, rfl, hx⟩ := HP.out k hlt
        obtain ⟨b', off', ua', uc', sa', sc', rfl, hx'⟩ := HQ.out k (by have := HE.out; omega)
        obtain ⟨zb, c0, c1, c2, hii, hff⟩ := hx.below hbel
        obtain ⟨zb', d0, d1, d2, hii', hff'⟩ := hx'.below hbel
        have D1 : Hid (IntsAt wr.drew ua (mg cs k).1) := hii.below (Below.refl _ _).drew
        have D2 : Hid (FeatsAt wr.drew sa (mg cs k).2.1) := hff.below (Below.refl _ _).drew
        have D3 : Hid (IntsAt wr.drew ua' (mg ds k).1) := hii'.below (Below.refl _ _).drew
        have D4 : Hid (FeatsAt wr.drew sa' (mg ds k).2.1) := hff'.below (Below.refl _ _).drew
        clear hbel hii hff hii' hff' hx hx'
        have A0 : Hid (∀ o o', Below wr.heap.size wr ((wr.alloc o).alloc o')) := fun o o' => ((Below.refl _ _).alloc (Nat.le_refl _) _).alloc (by simp) _
        by_cases hs : mg cs k = mg ds k
        · have hce : cmEq (mg cs k) (mg ds k) = true := cmEq_iff.2 hs
          have HG := Lib.hid hs
          clear hs
          go_wp2
          go_still_tail 8, (by kernel_rfl)
          go_wp2_with fail
          refine (eqCommit_any _ _ _ _ _ _ _ _ _ _ _ D1.out D2.out D3.out D4.out (HS.out k hlt) (HS'.out k (by have := HE.out; omega))).mono ?_
          rintro e w1 ⟨rfl, hb2⟩
          have B2 : Hid (Below w.heap.size w w1) := HB.out.drew.trans (hb2.mono hsz)
          clear hb2
          rw [hce]
          go_wp2
          go_roundw
          case rel => exact ⟨k + 1, by omega, by go_num, B2.out, fun j hj => by by_cases e : j = k; (subst e; exact HG.out); exact HA.out j (by omega)⟩
          case measure => simp [intOf]; omega
        · have hce : cmEq (mg cs k) (mg ds k) = false := cmEq_no hs
          have HG := Lib.hid (cmsEq_ne hs)
          clear hs
          go_wp2
          go_still_tail 8, (by kernel_rfl)
          go_wp2_with fail
          refine (eqCommit_any _ _ _ _ _ _ _ _ _ _ _ D1.out D2.out D3.out D4.out (HS.out k hlt) (HS'.out k (by have := HE.out; omega))).mono ?_
          rintro e w1 ⟨rfl, hb2⟩
          have B2 : Hid (Below w.heap.size w w1) := HB.out.drew.trans (hb2.mono hsz)
          clear hb2
          rw [hce]
          go_wp2
          go_ret
          exact ⟨by rw [HG.out]; rfl, B2.out⟩
      · obtain rfl : k = cs.length := by omega
        have HT := Lib.hid (cmsEq_of HE.out HA.out)
        clear hbel
        go_wp2
        go_ret
        exact ⟨by rw [HT.out]; rfl, HB.out⟩
  · have h1 : ((cs.length : Int) != (ds.length : Int)) = true := by simp; omega
    have HT := Lib.hid (cmsEq_len he)
    clear he
    go_enter Tryz.func104, Tryz.ntmps104
    go_wp2
    go_ret
    exact ⟨by rw [HT.out]; rfl, Below.refl _ _⟩

end Go.Proofs.YtdchfologicbeaaGreat
