/- Proved here: what it is that versions and branches are right, and that the model asks just that; lists of at most 1,048,576. -/
import Derived.Test.YtdchfologicbeaaGreatWRepoFind
import Derived.Test.YtdchfologicbeaaGreatWHeadMap
import Derived.Test.YtdchfologicbeaaGreatWSheetOk
import Derived.Test.YtdchfologicbeaaGreatWWord
namespace Go.Proofs.YtdchfologicbeaaGreat
set_option linter.unusedVariables false
open Go.ChangeShapes Go.WideShapes Go.ChangeAt Go.RowKit

/-- the version of a place is right -/
structure CmGood (cs : List Cm) (i : Nat) : Prop where
  up : UpOk (mg cs i).1 i
  sheet : sheetOk (mg cs i).2.1 = true
  note : wordOk (mg cs i).2.2 = true
  once : ∀ j, j < i → mg cs j ≠ mg cs i

/-- the branch of a place is right -/
structure HdGood (hs : List Hd) (n i : Nat) : Prop where
  name : wordOk (hdn hs i) = true
  once : ∀ j, j < i → hdn hs j ≠ hdn hs i
  lo : 0 ≤ hda hs i
  hi : hda hs i < n

/-- versions and branches are right -/
structure RepoGood (cs : List Cm) (hs : List Hd) : Prop where
  c1 : 1 ≤ cs.length
  c2 : cs.length ≤ 14
  h1 : 1 ≤ hs.length
  h2 : hs.length ≤ 4
  cms : ∀ i, i < cs.length → CmGood cs i
  hds : ∀ i, i < hs.length → HdGood hs cs.length i

open Classical in
noncomputable def repoOk (cs : List Cm) (hs : List Hd) : Bool := decide (RepoGood cs hs)
theorem repoOk_true {cs : List Cm} {hs : List Hd} (h : RepoGood cs hs) : repoOk cs hs = true := by simp [repoOk, h]
theorem repoOk_false {cs : List Cm} {hs : List Hd} (h : ¬ RepoGood cs hs) : repoOk cs hs = false := by simp [repoOk, h]
theorem repoOk_iff {cs : List Cm} {hs : List Hd} : repoOk cs hs = true ↔ RepoGood cs hs := by simp [repoOk]

set_option maxRecDepth 100000 in
set_option maxHeartbeats 8000000 in
theorem specRepoOk_any (a b : Option Addr) (ca cb : Nat) (cs : List Cm) (hs : List Hd) (w : World) (hr : RepoAt w a b cs hs) (hl : RpLen cs hs 1048576) :
    Calls Tryz.prog 31 #[.agg #[.slice a cs.length ca, .slice b hs.length cb]] w fun e w' => e = .returned (.bool (repoOk cs hs)) ∧ Below w.heap.size w w' := by
  obtain ⟨l1, l2, l3, l4⟩ := hl
  have HR := Lib.hid hr
  have L3 := Lib.hid l3
  have L4 := Lib.hid l4
  clear hr l3 l4
  have A1 : Hid (∀ o, Below w.heap.size w (w.alloc o)) := fun o => (Below.refl _ _).alloc (Nat.le_refl _) _
  have lc : ∀ {p : Prop}, (¬ p) → (RepoGood cs hs → p) → Hid (repoOk cs hs = false) := fun h k => repoOk_false fun g => h (k g)
  by_cases g1 : (cs.length : Int) < 1
  · have HF := lc (p := 1 ≤ cs.length) (by omega) fun g => g.c1
    clear lc
    go_enter Tryz.func31, Tryz.ntmps31
    go_wp2
    go_ret
    exact ⟨by rw [HF.out]; rfl, A1.out _⟩
  by_cases g2 : (cs.length : Int) > 14
  · have HF := lc (p := cs.length ≤ 14) (by omega) fun g => g.c2
    clear lc
    go_enter Tryz.func31, Tryz.ntmps31
    go_wp2
    go_ret
    exact ⟨by rw [HF.out]; rfl, A1.out _⟩
  by_cases g3 : (hs.length : Int) < 1
  · have HF := lc (p := 1 ≤ hs.length) (by omega) fun g => g.h1
    clear lc
    go_enter Tryz.func31, Tryz.ntmps31
    go_wp2
    go_ret
    exact ⟨by rw [HF.out]; rfl, A1.out _⟩
  by_cases g4 : (hs.length : Int) > 4
  · have HF := lc (p := hs.length ≤ 4) (by omega) fun g => g.h2
    clear lc
    go_enter Tryz.func31, Tryz.ntmps31
    go_wp2
    go_ret
    exact ⟨by rw [HF.out]; rfl, A1.out _⟩
  have LC : Hid (∀ (p : Prop), (¬ p) → (RepoGood cs hs → p) → repoOk cs hs = false) := fun _ h k => (lc h k).out
  clear lc
  go_enter Tryz.func31, Tryz.ntmps31
  go_wp2
  go_loopw [3, 4] (fun i _ wr => ∃ k : Nat, k ≤ cs.length ∧ i = .int .i64 k ∧ BK wr w.heap.size #[.slice a cs.length ca, .slice b hs.length cb] 62 ∧ Below w.heap.size w wr ∧ ∀ j, j < k → CmGood cs j) (fun i _ _ => cs.length - (intOf i).toNat)
  case atStart => exact ⟨0, Nat.zero_le _, rfl, BK.new _ _ _, (Below.refl _ _).alloc (Nat.le_refl _) _, fun j h => absurd h (Nat.not_lt_zero _)⟩
  case round =>
    obtain ⟨k, hk, rfl, hk1, hbel, hall⟩ := hrel
    have HA := Lib.hid hall
    have HB := Lib.hid hbel
    have K1 := Lib.hid hk1
    have hsz := hbel.size
    have r0 := hk1.cell 0 rfl
    have r1 := hk1.cell 1 rfl
    have z1 := hk1.lt
    clear hall hk1
    by_cases hlt : k < cs.length
    · obtain ⟨b', off, ua, uc, sa, sc, e', hx⟩ := HR.out.cms k hlt
      obtain ⟨zb, c0, c1, c2, hii, hff⟩ := hx.below hbel
      have HI := Lib.hid hii
      have HF := Lib.hid hff
      clear hbel hii hff hx
      obtain ⟨m1, m2, m3, m4⟩ := L3.out k hlt
      have M3 := Lib.hid m3
      clear m3
      subst e'
      have A2 : Hid (∀ o n, Below wr.heap.size wr ((wr.alloc o).drewN n)) := fun o n => below_drewN ((Below.refl _ _).alloc (Nat.le_refl _) _) n
      go_wp2_with fail
      clear r0 r1 c0 c1 c2
      refine (l7Up_any _ _ _ _ _ (HI.out.below (A2.out _ 0)) (by omega) (by omega)).mono ?_
      rintro e w1 ⟨rfl, nq, e1⟩
      have hb1 : Below wr.heap.size wr w1 := by rw [e1]; exact A2.out _ _
      have J2 : Hid (BK w1 wr.heap.size #[.slice ua (mg cs k).1.length uc, .slice sa (mg cs k).2.1.length sc, .string (mg cs k).2.2] 132) := by rw [e1]; exact BK.new _ _ _
      clear e1
      have J1 : Hid (BK w1 w.heap.size #[.slice (some ⟨b', off, none⟩) cs.length ca, .slice b hs.length cb] 62) := K1.out.later hb1
      have B1 : Hid (Below w.heap.size w w1) := HB.out.trans (hb1.mono hsz)
      have I1 := Lib.hid (HI.out.below hb1)
      have F1 := Lib.hid (HF.out.below hb1)
      have C1 := Lib.hid (HR.out.cms.below B1.out)
      clear hb1 A2
      by_cases t1 : UpOk (mg cs k).1 k
      · rw [upB_true t1]
        have T1 := Lib.hid t1
        clear t1
        have q1 := J2.out.cell 1 rfl
        go_wp2_with fail
        clear q1
        refine (specSheetOk_any _ _ _ _ F1.out (by omega) M3.out).mono ?_
        rintro e w2 ⟨rfl, hb2⟩
        replace J1 : Hid (BK w2 _ _ _) := J1.out.later hb2
        replace J2 : Hid (BK w2 _ _ _) := J2.out.later hb2
        replace B1 : Hid (Below w.heap.size w w2) := B1.out.trans (hb2.mono B1.out.size)
        replace I1 := Lib.hid (I1.out.below hb2)
        replace F1 := Lib.hid (F1.out.below hb2)
        replace C1 := Lib.hid (C1.out.below hb2)
        clear hb2
        by_cases t2 : sheetOk (mg cs k).2.1 = true
        · rw [t2]
          have T2 := Lib.hid t2
          clear t2
          have q2 := J2.out.cell 2 rfl
          go_wp2_with fail
          clear q2
          refine (specWordOk_any _ _ (by omega)).mono ?_
          rintro e w3 ⟨rfl, rfl⟩
          by_cases t3 : wordOk (mg cs k).2.2 = true
          · rw [t3]
            have T3 := Lib.hid t3
            clear t3
            have r0 := J1.out.cell 0 rfl
            have r1 := J1.out.cell 1 rfl
            have q0 := J2.out.cell 0 rfl
            have q1 := J2.out.cell 1 rfl
            have q2 := J2.out.cell 2 rfl
            go_wp2_with fail
            clear r0 r1 q0 q1 q2
            refine (l7Find_any _ _ _ _ _ _ _ _ _ _ _ _ C1.out (by omega) L3.out I1.out F1.out (L3.out k hlt)).mono ?_
            rintro e w4 ⟨⟨r, rfl, hr⟩, hb4⟩
            replace J1 : Hid (BK w4 _ _ _) := J1.out.later hb4
            replace B1 : Hid (Below w.heap.size w w4) := B1.out.trans (hb4.mono B1.out.size)
            clear hb4 J2 I1 F1 C1
            by_cases t4 : r = k
            · have T4 : Hid (∀ j, j < k → mg cs j ≠ mg cs k) := by
                subst t4
                rcases hr with ⟨h1, _⟩ | ⟨k', h1, h2, h3, h4⟩
                · omega
                · obtain rfl : k' = k := by omega
                  exact h4
              clear hr
              subst t4
              go_wp2
              go_roundw
              case rel => exact ⟨k + 1, by omega, by go_num, J1.out, B1.out, fun j hj => by by_cases e : j = k; (subst e; exact ⟨T1.out, T2.out, T3.out, T4.out⟩); exact HA.out j (by omega)⟩
              case measure => simp [intOf]; omega
            · have HF : Hid (repoOk cs hs = false) := LC.out (∀ j, j < k → mg cs j ≠ mg cs k) (fun h => by
                rcases hr with ⟨h1, h2⟩ | ⟨k', h1, h2, h3, h4⟩
                · exact h2 k hlt rfl
                · by_cases q : k' < k
                  · exact h k' q h3
                  · by_cases q' : k < k'
                    · exact h4 k q' rfl
                    · exact t4 (by omega)) fun g => (g.cms k hlt).once
              clear hr
              have e4 : (r != (k : Int)) = true := by simpa using t4
              go_wp2
              go_ret
              exact ⟨by rw [HF.out]; rfl, B1.out⟩
          · have HF : Hid (repoOk cs hs = false) := LC.out (wordOk (mg cs k).2.2 = true) t3 fun g => (g.cms k hlt).note
            rw [Bool.not_eq_true] at t3
            rw [t3]
            clear t3
            go_wp2
            go_ret
            exact ⟨by rw [HF.out]; rfl, B1.out⟩
        · have HF : Hid (repoOk cs hs = false) := LC.out (sheetOk (mg cs k).2.1 = true) t2 fun g => (g.cms k hlt).sheet
          rw [Bool.not_eq_true] at t2
          rw [t2]
          clear t2
          go_wp2
          go_ret
          exact ⟨by rw [HF.out]; rfl, B1.out⟩
      · have HF : Hid (repoOk cs hs = false) := LC.out (UpOk (mg cs k).1 k) t1 fun g => (g.cms k hlt).up
        rw [upB_false t1]
        clear t1
        go_wp2
        go_ret
        exact ⟨by rw [HF.out]; rfl, B1.out⟩
    · obtain rfl : k = cs.length := by omega
      go_wp2
      clear r0 r1 hbel
      go_loopw [5, 6] (fun i _ wx => ∃ k : Nat, k ≤ hs.length ∧ i = .int .i64 k ∧ BK wx w.heap.size #[.slice a cs.length ca, .slice b hs.length cb] 62 ∧ Below w.heap.size w wx ∧ ∀ j, j < k → HdGood hs cs.length j) (fun i _ _ => hs.length - (intOf i).toNat)
      case atStart => exact ⟨0, Nat.zero_le _, rfl, K1.out, HB.out, fun j h => absurd h (Nat.not_lt_zero _)⟩
      case round =>
        clear K1 HB hsz z1
        obtain ⟨k, hk, rfl, hk1, hbel, hall⟩ := hrel
        have HG := Lib.hid hall
        have HB := Lib.hid hbel
        have K1 := Lib.hid hk1
        have hsz := hbel.size
        have r0 := hk1.cell 0 rfl
        have r1 := hk1.cell 1 rfl
        have z1 := hk1.lt
        clear hall hk1
        by_cases hlt : k < hs.length
        · obtain ⟨b', off, e', hb, hc1, hc2⟩ := HR.out.hds k hlt
          rw [← hbel.cell (p := ⟨b', _, none⟩) hb] at hc1 hc2
          have hn := L4.out k hlt
          subst e'
          clear hbel
          have A2 : Hid (∀ o, Below wr.heap.size wr (wr.alloc o)) := fun o => (Below.refl _ _).alloc (Nat.le_refl _) _
          go_wp2_with fail
          clear hc1 hc2
          refine (specWordOk_any _ _ (by omega)).mono ?_
          rintro e w1 ⟨rfl, e1⟩
          have hb1 : Below wr.heap.size wr w1 := by rw [e1]; exact A2.out _
          have q0 : w1.cell? ⟨wr.heap.size, 0, none⟩ = some (.string (hdn hs k)) := by rw [e1]; simp [go_sem]
          have q1 : w1.cell? ⟨wr.heap.size, 1, none⟩ = some (.int .i64 (hda hs k)) := by rw [e1]; simp [go_sem]
          clear e1
          have J1 : Hid (BK w1 w.heap.size #[.slice a cs.length ca, .slice (some ⟨b', off, none⟩) hs.length cb] 62) := K1.out.later hb1
          have B1 : Hid (Below w.heap.size w w1) := HB.out.trans (hb1.mono hsz)
          have C1 := Lib.hid (HR.out.hds.below B1.out)
          clear hb1 A2 r0 r1
          by_cases t1 : wordOk (hdn hs k) = true
          · rw [t1]
            have T1 := Lib.hid t1
            clear t1
            have r0 := J1.out.cell 0 rfl
            have r1 := J1.out.cell 1 rfl
            go_wp2_with fail
            clear r0 r1
            refine (l7Head_any _ _ _ _ _ _ _ _ C1.out (by omega)).mono ?_
            rintro e w2 ⟨⟨r, rfl, hr⟩, hb2⟩
            replace q1 := cell_later hb2 q1
            replace J1 : Hid (BK w2 _ _ _) := J1.out.later hb2
            replace B1 : Hid (Below w.heap.size w w2) := B1.out.trans (hb2.mono B1.out.size)
            clear hb2 C1 q0
            have r0 := J1.out.cell 0 rfl
            by_cases t2 : r = k
            · have T2 : Hid (∀ j, j < k → hdn hs j ≠ hdn hs k) := by
                subst t2
                rcases hr with ⟨h1, _⟩ | ⟨k', h1, h2, h3, h4⟩
                · omega
                · obtain rfl : k' = k := by omega
                  exact h4
              clear hr
              subst t2
              by_cases t3 : hda hs k < 0
              · have HF : Hid (repoOk cs hs = false) := LC.out (0 ≤ hda hs k) (by omega) fun g => (g.hds k hlt).lo
                go_wp2
                go_ret
                exact ⟨by rw [HF.out]; rfl, B1.out⟩
              · by_cases t4 : (cs.length : Int) ≤ hda hs k
                · have HF : Hid (repoOk cs hs = false) := LC.out (hda hs k < cs.length) (by omega) fun g => (g.hds k hlt).hi
                  go_wp2
                  go_ret
                  exact ⟨by rw [HF.out]; rfl, B1.out⟩
                · go_wp2
                  go_roundw
                  case rel => exact ⟨k + 1, by omega, by go_num, J1.out, B1.out, fun j hj => by by_cases e : j = k; (subst e; exact ⟨T1.out, T2.out, by omega, by omega⟩); exact HG.out j (by omega)⟩
                  case measure => simp [intOf]; omega
            · have HF : Hid (repoOk cs hs = false) := LC.out (∀ j, j < k → hdn hs j ≠ hdn hs k) (fun h => by
                rcases hr with ⟨h1, h2⟩ | ⟨k', h1, h2, h3, h4⟩
                · exact h2 k hlt rfl
                · by_cases q : k' < k
                  · exact h k' q h3
                  · by_cases q' : k < k'
                    · exact h4 k q' rfl
                    · exact t2 (by omega)) fun g => (g.hds k hlt).once
              clear hr
              have e4 : (r != (k : Int)) = true := by simpa using t2
              go_wp2
              go_ret
              exact ⟨by rw [HF.out]; rfl, B1.out⟩
          · have HF : Hid (repoOk cs hs = false) := LC.out (wordOk (hdn hs k) = true) t1 fun g => (g.hds k hlt).name
            rw [Bool.not_eq_true] at t1
            rw [t1]
            clear t1
            go_wp2
            go_ret
            exact ⟨by rw [HF.out]; rfl, B1.out⟩
        · obtain rfl : k = hs.length := by omega
          have HF : Hid (repoOk cs hs = true) := repoOk_true ⟨by omega, by omega, by omega, by omega, HA.out, HG.out⟩
          clear hbel
          go_wp2
          go_ret
          exact ⟨by rw [HF.out]; rfl, HB.out⟩
end Go.Proofs.YtdchfologicbeaaGreat
